/- The walks of package place: Starts. -/
import Derived.Test.YtekfnjihgahonaaWalks
import Derived.WalkSmall
import Derived.Maps.AppendAt
import Derived.Deep.AppendLies
import Derived.Laws.OwnMore
set_option linter.unusedVariables false
namespace Go.Proofs.Ytekfnjihgahonaa.walks
open Go.RowKit
open plain

theorem info3 : (Try.prog.info? 3).map (fun i => (i.zero, i.size, i.bytes)) = some (some (.int .i64 0), 1, 8) := by kernel_rfl

/-- A place as a value. -/
def num (n : Nat) : Value := .int .i64 (n : Int)
/-- The elements of a slice lie in memory. -/
def Nums (w : World) (b : Nat) (l : List Nat) : Prop := b < w.heap.size ∧ ∀ j, j < l.length → w.cell? ⟨b, j, none⟩ = some (.int .i64 ((l.getD j 0 : Nat) : Int))

theorem Nums.below {w w' : World} {b : Nat} {l : List Nat} (h : Nums w b l) (hb : Below w.heap.size w w') : Nums w' b l := by
  refine ⟨Nat.lt_of_lt_of_le h.1 hb.size, fun j hj => ?_⟩
  rw [hb.cell (p := ⟨b, j, none⟩) h.1]
  exact h.2 j hj
theorem nums_own {w : World} {base g cap : Nat} {l : List Nat} (h : w.ownsRow base 3 1 (.slice (some ⟨g, 0, none⟩) l.length cap) l.length (l.map num)) (hg : g < w.heap.size) : Nums w g l := by
  refine ⟨hg, fun j hj => ?_⟩
  rw [h.cellAt j (by omega)]
  simp [num, List.getD, List.getElem?_eq_getElem hj]
theorem own_ge {w : World} {base e n : Nat} {v : Value} {xs : List Value} (h : w.ownsRow base e 1 v n xs) : ∀ g, v.ownBlock = some g → base ≤ g := fun g hg => (h.lt g hg).1

set_option maxHeartbeats 2000000 in
set_option maxRecDepth 100000 in
theorem starts_any (s : ByteArray) (w : World) (hs : s.size ≤ 1048576) :
    Calls Try.prog 10 #[.string s] w fun e w' => ∃ b cap, e = .returned (.slice (some ⟨b, 0, none⟩) (stK s.data.toList s.size).length cap) ∧ Nums w' b (stK s.data.toList s.size) ∧ Below w.heap.size w w' := by
  obtain ⟨i0, hi, hz0, hz1, hz2⟩ := info_parts info3
  go_enter Try.func10, Try.ntmps10
  go_wp2
  go_loopw [3, 4] (fun v i wr => ∃ k : Nat, k ≤ s.size ∧ i = .int .i64 k ∧ wr.ownsRow w.heap.size 3 1 v (stK s.data.toList k).length ((stK s.data.toList k).map num) ∧ Below w.heap.size w wr) (fun _ i _ => s.size - (intOf i).toNat)
  case atStart =>
    refine ⟨0, Nat.zero_le _, rfl, ?_, (Below.refl _ w).alloc (Nat.le_refl _) _⟩
    exact World.ownsRow_lit w #[.int .i64 0] 1 (Nat.le_refl _) (by decide) rfl
  case round =>
    obtain ⟨k, hk, rfl, hown, hbw⟩ := hrel
    have hlen := stK_length s.data.toList k (by rw [len_list]; exact hk)
    have hcl := cnt_le s.data.toList k
    by_cases hlt : k < s.size
    · have hbyte : s.data.toList.getD k 0 = s[k]'hlt := by
        rw [List.getD, List.getElem?_eq_getElem (by rw [len_list]; exact hlt)]
        simp [ByteArray.getElem_eq_getElem_data]
      by_cases ht : s.data.toList.getD k 0 = 10
      · have hb : (((s[k]'hlt).toNat : Int) == 10) = true := by rw [← hbyte, ht]; rfl
        have HS := hide (stK_hit ht)
        clear hbyte ht
        generalize stK s.data.toList k = L at *
        go_wp2_with (at_builtin; refine wpList_append_own _ rfl _ _ 22 rfl w.heap.size 3 i0 (.int .i64 0) 1 8 Try.underlying22 hi hz0 hz1 hz2 rfl (by decide) _ _ _ rfl (hown.alloc _) ⟨wr.heap.size, 0, none⟩ 1 1 [.int .i64 ((k : Int) + 1)] rfl rfl ?c1 ?c2 ?c3 ?c4 ?c5 ?_)
        case c1 => exact cell_one_new _ _ _
        case c2 => intro u hu; simp at hu; subst hu; rfl
        case c3 => unfold maxLen; omega
        case c4 => omega
        case c5 => have := hbw.size; simp; omega
        intro v' w2 hown' hgrow _
        have hbw2 : Below w.heap.size w w2 := (hbw.alloc hbw.size _).grown hgrow (by have := hbw.size; simp; omega) (own_ge hown)
        clear hgrow hown
        go_wp2
        go_roundw
        case rel =>
          refine ⟨k + 1, by omega, by go_num, ?_, hbw2⟩
          rw [unhide HS]
          simpa [num, hlen] using hown'
        case measure => simp only [intOf]; omega
      · have hb : (((s[k]'hlt).toNat : Int) == 10) = false := by
          rw [← hbyte]
          apply beq_false_of_ne
          intro e
          apply ht
          apply UInt8.toNat_inj.1
          show _ = 10
          omega
        have HS := hide (stK_miss ht)
        clear hbyte ht
        generalize stK s.data.toList k = L at *
        go_wp2
        go_roundw
        case rel =>
          refine ⟨k + 1, by omega, by go_num, ?_, hbw⟩
          rw [unhide HS]
          exact hown
        case measure => simp only [intOf]; omega
    · have hks : k = s.size := by omega
      subst hks
      obtain ⟨g, cap, rfl, hg1, hg2⟩ := hown.form (by omega)
      go_wp2
      go_ret
      exact ⟨g, cap, rfl, nums_own hown hg2, hbw⟩

set_option maxHeartbeats 1000000 in
theorem places_any (w : World) : Calls Try.prog 13 #[] w fun e w' => e = .returned (.bool true) ∧ Below w.heap.size w w' := by
  have c := starts_any ⟨#[]⟩ w (by decide)
  have e : stK (⟨#[]⟩ : ByteArray).data.toList (⟨#[]⟩ : ByteArray).size = [0] := rfl
  rw [e] at c
  have C := hide c
  clear c e
  go_enter Try.func13, Try.ntmps13
  go_wp2_with fail
  refine (unhide C).mono ?_
  rintro e w1 ⟨b, cap, rfl, hn, hb⟩
  clear hn
  go_wp2
  go_ret
  exact ⟨rfl, hb⟩
end Go.Proofs.Ytekfnjihgahonaa.walks
