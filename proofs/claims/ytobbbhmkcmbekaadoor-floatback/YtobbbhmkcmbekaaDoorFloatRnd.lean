/- The walk of package float: rounded. -/
import Derived.Test.YtobbbhmkcmbekaaDoorFloatRound
import Derived.Deep.CutRange
set_option linter.unusedVariables false
namespace Go.Proofs.YtobbbhmkcmbekaaDoor.bigs
open Go.RowKit

set_option maxHeartbeats 4000000 in
set_option maxRecDepth 100000 in
theorem rounded_any (w : World) (d : Value) (A B : Nat) (h : DivOf w d A B) (hq : A / B < 18446744073709551615) (h0 : 0 < B) :
    Calls Tryd.prog 72 #[d] w fun e w' => e = .returned (.int .u64 (rnd A B)) ∧ Below w.heap.size w w' := by
  obtain ⟨a1, n1, c1, a2, n2, c2, a3, n3, c3, rfl, h1, h2, k, h3, sk, lk, hk⟩ := h
  have hbl : (wdig B).length ≤ 10000 := by rw [← hk]; exact Nat.le_trans (wdig_len_words sk) lk
  have hml : (wdig (A % B)).length ≤ 900000 := Nat.le_trans (wdig_mono (Nat.le_of_lt (Nat.mod_lt A h0))) (by omega)
  have hsl : (wdig (A % B + A % B)).length ≤ 1000000 := by
    have := wdig_add_len (A % B) (A % B)
    have := wdig_mono (Nat.le_of_lt (Nat.mod_lt A h0))
    omega
  have KA : ∀ w', Below w.heap.size w w' → Hid (Calls Tryd.prog 91 #[.slice a2 n2 c2, .slice a2 n2 c2] w' fun e w'' => ∃ v', e = .returned v' ∧ WBig w'' v' (A % B + A % B) ∧ Below w'.heap.size w' w'') := fun w' hb => by
    have h := add_any w' _ _ (wdig (A % B)) (wdig (A % B)) (h2.below hb) (h2.below hb) (words_wdig _) (words_wdig _) hml hml
    rw [wval_wdig] at h
    exact hide h
  have KC : ∀ w' v', Below w.heap.size w w' → WBig w' v' (A % B + A % B) → Hid (Calls Tryd.prog 90 #[v', .slice a3 n3 c3] w' fun e w'' => e = .returned (.int .i64 (sgn (A % B + A % B) B)) ∧ Below w'.heap.size w' w'') := fun w' v' hb hv => by
    have h := cmp_any w' v' _ (wdig (A % B + A % B)) k hv (h3.below hb) (words_wdig _) sk hsl (by omega)
    rw [wval_wdig, hk] at h
    exact hide h
  have KS : ∀ w', Below w.heap.size w w' → Hid (Calls Tryd.prog 56 #[.slice a1 n1 c1] w' fun e w'' => e = .returned (.int .u64 (A / B : Nat)) ∧ w'' = w') := fun w' hb => hide (small_big w' _ _ (h1.below hb) (by omega))
  go_enter Tryd.func72, Tryd.ntmps72
  go_wp2_with fail
  have b0 : Below w.heap.size w (w.alloc (.cells #[.slice a1 n1 c1, .slice a2 n2 c2, .slice a3 n3 c3] 80)) := (Below.refl _ _).alloc (Nat.le_refl _) _
  have bk0 := blk_alloc w #[.slice a1 n1 c1, .slice a2 n2 c2, .slice a3 n3 c3] 80
  generalize w.alloc (.cells #[.slice a1 n1 c1, .slice a2 n2 c2, .slice a3 n3 c3] 80) = w0 at *
  refine (unhide (KS w0 b0)).mono ?_
  rintro e w1 ⟨rfl, rfl⟩
  have r1 := bk0.cell 1 _ rfl
  have r2 := bk0.cell 2 _ rfl
  have HR := rnd_next A B h0
  generalize (A / B : Nat) = q at *
  clear h1 h2 h3 KS
  go_upto_region 2 with fail
  go_cut [4] from 8 to 15 (fun s4 wx => s4 = .int .i64 (sgn (A % B + A % B) B) ∧ Below w.heap.size w wx)
  case first =>
    go_region_with (first
      | (go_at_call 91
         refine (unhide (KA _ ?_)).mono ?_
         exact b0.drew
         rintro e w2 ⟨v2, rfl, hv2, b2⟩
         have bw2 := b0.drew.trans (b2.mono b0.size)
         have bk2 : Blk w2 w.heap.size _ _ := (show Blk w1.drew _ _ _ from bk0).below b2
         have r2' := bk2.cell 2 _ rfl
         have KC2 := KC w2 v2 bw2 hv2
         clear bk2 b2 hv2)
      | (go_at_call 90
         refine (unhide KC2).mono ?_
         rintro e w3 ⟨rfl, b3⟩
         have bw3 := bw2.trans (b3.mono bw2.size)
         clear b3 bw2 KC2))
    all_goals (go_wp2_with fail; go_meet; exact ⟨rfl, bw3⟩)
  case rest =>
  obtain ⟨rfl, bw⟩ := hcut
  clear KA KC r1 r2 bk0 b0 hk lk sk
  rcases Nat.lt_trichotomy B (A % B + A % B) with g | g | g
  · rw [if_pos (.inl g)] at HR
    have es : sgn (A % B + A % B) B = 1 := sgn_gt g
    rw [es]
    have HH := hide HR
    clear HR es g
    go_wp2
    go_ret
    rw [unhide HH]
    exact ⟨by go_num, bw⟩
  · have es : sgn (A % B + A % B) B = 0 := sgn_eq g.symm
    rw [es]
    by_cases o : q % 2 = 1
    · rw [if_pos (.inr ⟨g.symm, o⟩)] at HR
      have HH := hide HR
      have o' : ((q : Int) % 2 == 1) = true := by simp; omega
      clear HR es g o
      go_wp2
      go_ret
      rw [unhide HH]
      exact ⟨by go_num, bw⟩
    · rw [if_neg (by omega)] at HR
      have HH := hide HR
      have o' : ((q : Int) % 2 == 1) = false := beq_false_of_ne (by omega)
      clear HR es g o
      go_wp2
      go_ret
      rw [unhide HH]
      exact ⟨by go_num, bw⟩
  · rw [if_neg (by omega)] at HR
    have es : sgn (A % B + A % B) B = -1 := sgn_lt g
    rw [es]
    have HH := hide HR
    clear HR es g
    go_wp2
    go_ret
    rw [unhide HH]
    exact ⟨by go_num, bw⟩
end Go.Proofs.YtobbbhmkcmbekaaDoor.bigs
