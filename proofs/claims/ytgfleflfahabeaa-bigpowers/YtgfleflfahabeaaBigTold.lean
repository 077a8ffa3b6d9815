/- The walks of the document's answer: Words. -/
import Derived.Test.YtgfleflfahabeaaBigWords
set_option linter.unusedVariables false
namespace Go.Proofs.Ytgfleflfahabeaa.bigs
open Go.RowKit

/-- The words of a number, the least first, none of them 0 at the end. -/
def wdigG : Nat → Nat → List Nat
  | 0, _ => []
  | f + 1, n => if n = 0 then [] else n % 4294967296 :: wdigG f (n / 4294967296)
theorem wdigG_zero (f : Nat) : wdigG f 0 = [] := by cases f <;> rfl
theorem wdigG_same (n : Nat) : ∀ (f g : Nat), n ≤ f → n ≤ g → wdigG f n = wdigG g n := by
  induction n using Nat.strongRecOn with
  | ind n ih =>
    intro f g hf hg
    by_cases h : n = 0
    · rw [h, wdigG_zero, wdigG_zero]
    · obtain ⟨f', rfl⟩ : ∃ f', f = f' + 1 := ⟨f - 1, by omega⟩
      obtain ⟨g', rfl⟩ : ∃ g', g = g' + 1 := ⟨g - 1, by omega⟩
      rw [wdigG, wdigG, if_neg h, if_neg h, ih (n / 4294967296) (by omega) f' g' (by omega) (by omega)]
def wdig (n : Nat) : List Nat := wdigG n n
theorem wdig_zero : wdig 0 = [] := rfl
theorem wdig_pos {n : Nat} (h : n ≠ 0) : wdig n = n % 4294967296 :: wdig (n / 4294967296) := by
  obtain ⟨m, rfl⟩ : ∃ m, n = m + 1 := ⟨n - 1, by omega⟩
  unfold wdig
  rw [wdigG, if_neg h, wdigG_same ((m + 1) / 4294967296) m ((m + 1) / 4294967296) (by omega) (Nat.le_refl _)]
theorem wval_wdig (n : Nat) : wval (wdig n) = n := by
  induction n using Nat.strongRecOn with
  | ind n ih =>
    by_cases h : n = 0
    · subst h; rw [wdig_zero]; rfl
    · rw [wdig_pos h, wval, ih _ (by omega)]; omega
theorem wdig_len (n : Nat) : (wdig n).length ≤ (dig n).length := by
  induction n using Nat.strongRecOn with
  | ind n ih =>
    by_cases h : n = 0
    · subst h; rw [wdig_zero]; simp
    · rw [wdig_pos h, dig_pos h, List.length_cons, List.length_cons]
      have h1 := ih (n / 4294967296) (by omega)
      have h2 : (dig (n / 4294967296)).length ≤ (dig (n / 10000)).length := dig_len_mono (by omega)
      omega
theorem val_drop_le (l : List Nat) : ∀ k, val (l.drop k) ≤ val l := by
  induction l with
  | nil => intro k; rw [List.drop_nil]; exact Nat.le_refl _
  | cons d r ih =>
    intro k
    cases k with
    | zero => exact Nat.le_refl _
    | succ k => rw [List.drop_succ_cons, val]; have := ih k; omega
theorem infoU : (Try.prog.info? 27).map (fun i => (i.zero, i.size, i.bytes)) = some (some (.int .u32 0), 1, 4) := by kernel_rfl
/-- A word as a value. -/
def wrd (n : Nat) : Value := .int .u32 (n : Int)
theorem rowU_own {w : World} {base : Nat} {v : Value} {l : List Nat} (h : w.ownsRow base 27 1 v l.length (l.map wrd)) :
    ∃ a cap, v = .slice a l.length cap ∧ l.length ≤ cap ∧ RowU w a l := by
  have h' := h
  rcases h.2 with ⟨rfl, h0⟩ | ⟨g, cap, cur, rfl, _, hg, hcap, _⟩
  · have : l = [] := List.eq_nil_of_length_eq_zero h0
    subst this
    exact ⟨none, 0, rfl, by simp, fun h => absurd rfl h⟩
  · refine ⟨_, cap, rfl, hcap, fun _ => ⟨g, 0, rfl, (Array.getElem?_eq_some_iff.1 hg).1, fun j hj => ?_⟩⟩
    rw [Nat.zero_add, h'.cellAt j (by omega)]
    simp [wrd, List.getD, List.getElem?_eq_getElem hj]
theorem Lies.grown {w w' : World} {v : Value} {n : Nat} {row : Option Nat} (h : Lies w v n) (hg : w.grownBy w' row) (hne : ∀ b, v.ownBlock = some b → row ≠ some b) : Lies w' v n := by
  obtain ⟨a, cap, rfl, hc, hr⟩ := h
  refine ⟨a, cap, rfl, hc, fun h0 => ?_⟩
  obtain ⟨b, o, rfl, hb, hcell⟩ := hr h0
  have hbg := hne b rfl
  refine ⟨b, o, rfl, Nat.lt_of_lt_of_le hb hg.size, fun j hj => ?_⟩
  exact hg.cell (hcell j hj) (fun e => hbg e.symm)

set_option maxHeartbeats 8000000 in
set_option maxRecDepth 100000 in
theorem words_any (w : World) (va : Value) (n : Nat) (hn : (dig n).length ≤ 1000000) (ha : Lies w va n) :
    Calls Try.prog 12 #[va] w fun e w' => ∃ a cap, e = .returned (.slice a (wdig n).length cap) ∧ (wdig n).length ≤ cap ∧ RowU w' a (wdig n) ∧ Below w.heap.size w w' := by
  obtain ⟨i0, hi, hz0, hz1, hz2⟩ := info_parts infoU
  have hwl := wdig_len n
  go_enter Try.func12, Try.ntmps12
  go_wp2
  go_loopw [0, 3] (fun va v wr => ∃ (k : Nat) (l : List Nat), Lies wr va k ∧ k ≤ n ∧ wr.ownsRow w.heap.size 27 1 v l.length (l.map wrd) ∧ Hid (l ++ wdig k = wdig n) ∧ Below w.heap.size w wr) (fun va _ _ => slen va)
  case atStart => exact ⟨n, [], ha, Nat.le_refl _, World.ownsRow_nil _ _ _ _, rfl, Below.refl _ _⟩
  case round =>
    obtain ⟨k, l, hL, hkn, hown, hd, hbw⟩ := hrel
    by_cases h0 : k = 0
    · subst h0
      have e : l = wdig n := by rw [← hd.out, wdig_zero, List.append_nil]
      obtain ⟨aa, ca, rfl, hca, ra⟩ := hL
      rw [dig_zero]
      subst e
      obtain ⟨a, cap, rfl, hc, hr⟩ := rowU_own hown
      clear hd hown hca ra
      go_wp2
      go_ret
      exact ⟨a, cap, rfl, hc, hr, hbw⟩
    · have hd2 : Hid ((l ++ [k % 4294967296]) ++ wdig (k / 4294967296) = wdig n) := by
        show _ = _
        rw [← hd.out, wdig_pos h0, List.append_assoc]; rfl
      have hl2 : l.length + 1 ≤ 1000000 := by
        have e2 := congrArg List.length hd2.out
        rw [List.length_append, List.length_append, List.length_singleton] at e2
        omega
      have hkl : (dig k).length ≤ 1000000 := Nat.le_trans (dig_len_mono hkn) hn
      have hL' := hL
      obtain ⟨aa, ca, rfl, hca, ra⟩ := hL
      have hpos : 0 < (dig k).length := by
        cases e : dig k with
        | nil => exact absurd (dig_nil.1 e) h0
        | cons x r => simp
      have h2 := dig_two
      have K2 : ∀ (u : World) vs, Lies u (.slice aa (dig k).length ca) k → Lies u vs 4294967296 → Hid _ := fun u vs h1 h3 => hide (over_any u _ vs k 4294967296 hkl (by omega) (by decide) h1 h3)
      have HM : Hid ((dig (k / 4294967296)).length < (dig k).length) := by
        show _ < _
        have e1 := dig_pos h0
        have e2 : (dig (k / 4294967296)).length ≤ (dig (k / 10000)).length := dig_len_mono (by omega)
        rw [e1, List.length_cons]
        omega
      clear hd ra
      generalize (dig k).length = ln at *
      go_wp2_with fail
      refine (small_two wr).mono ?_
      rintro e w4 ⟨v4, rfl, hL4, _, b4⟩
      go_wp2_with fail
      refine (unhide (K2 w4 v4 (hL'.below b4) hL4)).mono ?_
      rintro e w5 ⟨vq, vr, rfl, hLq, hLr, hfq, _, b5⟩
      have b45 := b4.trans (b5.mono b4.size)
      have hown5 := own_below hown b45
      have hbw5 := hbw.trans (b45.mono hbw.size)
      have hdisj : ∀ g, u3.ownBlock = some g → ∀ b, vq.ownBlock = some b → g ≠ b := fun g hg b hb => by
        have h1 := (hown.lt g hg).2
        have h2 := hfq b hb
        have := b4.size
        omega
      clear K2 hL4 hL' b4 b5 b45 hown hfq hbw
      have hsr := small_dig (k % 4294967296)
      have hvr : Hid (∀ j, val ((dig (k % 4294967296)).drop j) < 4294967296) := fun j => by
        have := val_drop_le (dig (k % 4294967296)) j
        rw [val_dig] at this
        omega
      have hv0 : Hid (val ((dig (k % 4294967296)).drop 0) = k % 4294967296) := by show _ = _; rw [List.drop_zero, val_dig]
      have hrl : (dig (k % 4294967296)).length ≤ 3 := dig_word (by omega)
      obtain ⟨ar, cr, rfl, hcr, rr⟩ := hLr
      generalize dig (k % 4294967296) = R at *
      go_wp2_with fail
      go_loopw [5, 6] (fun nn i wq => ∃ j : Nat, i = .int .i64 ((j : Int) - 1) ∧ j ≤ R.length ∧ nn = .int .u64 ((val (R.drop j) : Nat) : Int) ∧ wq = w5) (fun _ i _ => (intOf i + 1).toNat)
      case atStart => exact ⟨R.length, rfl, Nat.le_refl _, by rw [List.drop_of_length_le (Nat.le_refl _)]; rfl, rfl⟩
      case round =>
        obtain ⟨j, rfl, hj, rfl, rfl⟩ := hrel
        cases j with
        | zero =>
          rw [hv0.out]
          have hx : k % 4294967296 < 4294967296 := by omega
          clear hv0 hvr
          generalize k % 4294967296 = x at *
          go_wp2_with (at_builtin; refine wpList_append_own _ rfl _ _ 22 rfl w.heap.size 27 i0 (.int .u32 0) 1 4 Try.underlying22 hi hz0 hz1 hz2 rfl (by decide) _ _ _ rfl (hown5.alloc _) ⟨wr.heap.size, 0, none⟩ 1 1 [.int .u32 (x : Int)] rfl rfl ?c1 ?c2 ?c3 ?c4 ?c5 ?_)
          case c1 => exact cell_one_new _ _ _
          case c2 => intro u hu; simp at hu; subst hu; rfl
          case c3 => unfold maxLen; omega
          case c4 => omega
          case c5 => have := hbw5.size; simp; omega
          intro v' w6 hown6 hgrow _
          have hLq6 := (hLq.below ((Below.refl _ wr).alloc (Nat.le_refl _) (.cells #[.int .u32 (x : Int)] 27))).grown hgrow (fun b hb e => hdisj b e b hb rfl)
          have hbw6 : Below w.heap.size w w6 := (hbw5.alloc hbw5.size _).grown hgrow (by have := hbw5.size; simp; omega) (own_ge hown5)
          clear hgrow hown5 hdisj hLq hbw5
          obtain ⟨aq, cq, rfl, hcq, rq⟩ := hLq6
          go_wp2
          go_roundw
          case rel =>
            refine ⟨k / 4294967296, l ++ [x], ⟨aq, cq, rfl, hcq, rq⟩, by omega, ?_, hd2, hbw6⟩
            simpa [wrd] using hown6
          case measure => simp only [slen]; exact HM.out
        | succ j =>
          have e0 : ((j + 1 : Nat) : Int) - 1 = (j : Int) := by omega
          rw [e0]
          obtain ⟨b, o, rfl, hb, hc⟩ := rr (by intro e; rw [e] at hj; simp at hj)
          have c1 := hc j (by omega)
          have hx := small_getD hsr j
          have hlt := hvr.out j
          have ev := drop_val R j
          rw [ev] at hlt
          have EV := hide ev
          clear hc ev hvr hv0
          generalize R.getD j 0 = x at *
          generalize val (R.drop (j + 1)) = y at *
          go_wp2
          go_roundw
          case rel => exact ⟨j, rfl, by omega, by rw [unhide EV]; congr 1; omega, by trivial⟩
          case measure => simp only [intOf]; omega
end Go.Proofs.Ytgfleflfahabeaa.bigs
