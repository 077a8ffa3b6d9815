/- The walks of package big: Add, Sub, Mul. -/
import Derived.Test.YtobbbhmkcmbekaaDoorWordSum
import Derived.Laws.CopyOwn
set_option linter.unusedVariables false
namespace Go.Proofs.YtobbbhmkcmbekaaDoor.bigs
open Go.RowKit

theorem own_heapW {w : World} {g c : Nat} {l : List Nat} (h : w.heap[g]? = some (.cells (l.map wrd).toArray 40 (0, 0))) (hl : l.length ≤ maxLen) : Own w g l.length l :=
  ⟨by simp, .inr ⟨g, l.length, _, rfl, Nat.zero_le _, h, Nat.le_refl _, hl, by simp, by
    rw [Nat.mul_one, List.take_of_length_le]
    simp⟩⟩
theorem made_zeroU (n : Nat) : (madeCells #[Value.int .u32 0] n).toList = (List.replicate n 0).map wrd := by
  rw [toList_madeCells_one]
  simp [wrd]
theorem rowU_cells {w : World} {a : Option Addr} {l : List Nat} (h : RowU w a l) (h0 : 0 < l.length) : ∃ ad, a = some ad ∧ ∀ j v, (l.map wrd)[j]? = some v → w.cell? (ad.add j) = some v := by
  obtain ⟨b, o, rfl, _, hc⟩ := h (by intro e; rw [e] at h0; simp at h0)
  refine ⟨_, rfl, fun j u hu => ?_⟩
  have hj : j < l.length := by
    have := (List.getElem?_eq_some_iff.1 hu).1
    simpa using this
  have hu' : u = .int .u32 ((l.getD j 0 : Nat) : Int) := by
    rw [List.getElem?_map, List.getElem?_eq_getElem hj] at hu
    simp at hu
    rw [← hu]
    simp [wrd, List.getD, List.getElem?_eq_getElem hj]
  rw [hu']
  have hadd : (⟨b, o, none⟩ : Addr).add j = ⟨b, o + j, none⟩ := by unfold Addr.add; split <;> simp_all
  rw [hadd]
  exact hc j hj
theorem splice_front (l : List Nat) : splice (List.replicate (l.length + 1) (wrd 0)) 0 (l.map wrd) = (l ++ [0]).map wrd := by
  simp [splice, wrd, List.replicate_succ']

theorem sum_fits {A B M' : List Nat} {b : Bool} (sA : Words32 A) (sB : Words32 B) (hBA : B.length ≤ A.length) (h : wval M' + 4294967296 ^ (A.length + 1) * b.toNat = wval A + wval B) : wval M' = wval A + wval B := by
  have l1 := wval_lt sA
  have l2 := wval_lt sB
  have l3 : 4294967296 ^ B.length ≤ 4294967296 ^ A.length := Nat.pow_le_pow_right (by omega) hBA
  have l4 : 4294967296 ^ (A.length + 1) = 4294967296 ^ A.length * 4294967296 := Nat.pow_succ ..
  have l5 : 0 < 4294967296 ^ A.length := Nat.pow_pos (by omega)
  rw [l4] at h
  generalize 4294967296 ^ A.length = X at *
  cases b with
  | false =>
    have e : X * 4294967296 * Bool.toNat false = 0 := by rw [show Bool.toNat false = 0 from rfl, Nat.mul_zero]
    omega
  | true =>
    have e : X * 4294967296 * Bool.toNat true = X * 4294967296 := by rw [show Bool.toNat true = 1 from rfl, Nat.mul_one]
    omega
theorem wval_nought (A : List Nat) : wval (A ++ [0]) = wval A := by rw [wval_append, wval_one]; omega
/-- The sum of two numbers, the longer first. -/
theorem add_tail (w w1 : World) (vb : Value) (A B : List Nat) (hB : WSl w vb B) (sA : Words32 A) (sB : Words32 B) (lA : A.length ≤ 900000) (hBA : B.length ≤ A.length)
    (hb1 : Below w.heap.size w w1) (own1 : Own w1 w.heap.size (A.length + 1) (A ++ [0])) :
    Calls Tryd.prog 113 #[.slice (some ⟨w.heap.size, 0, none⟩) (A.length + 1) (A.length + 1), vb] w1 fun e w' => ∃ (M' : List Nat) (b : Bool), e = .returned (.bool b) ∧ M'.length = A.length + 1 ∧ Words32 M' ∧ wval M' = wval A + wval B ∧ Own w' w.heap.size (A.length + 1) M' ∧ w1.grownBy w' (some w.heap.size) := by
  have hlen : (A ++ [0]).length = A.length + 1 := by simp
  have sM : Words32 (A ++ [0]) := words_append.2 ⟨sA, words_one (by omega)⟩
  have own2 : Own w1 w.heap.size (A.length + 1) ([] ++ ((A ++ [0]) ++ [])) := by rw [List.nil_append, List.append_nil]; exact own1
  have c := addTo_any w1 w.heap.size (A.length + 1) 0 (A.length + 1) [] (A ++ [0]) [] B vb rfl (by omega) (by omega) sM sB own2 (hB.below hb1) (wsl_apart hB (Nat.le_refl _))
  rw [hlen, wval_nought] at c
  refine c.mono ?_
  rintro e w' ⟨M', b, h1, h2, h3, h4, h5, h6⟩
  rw [List.nil_append, List.append_nil] at h5
  exact ⟨M', b, h1, h2, h3, sum_fits sA sB hBA h4, h5, h6⟩
theorem infoSize : (Tryd.prog.info? 40).map (·.size) = some 1 := by kernel_rfl
theorem own_whole {w : World} {B g n : Nat} (h : w.ownsRow B 40 1 (.slice (some ⟨g, 0, none⟩) n n) n (madeCells #[.int .u32 0] n).toList) :
    w.heap[g]? = some (.cells ((List.replicate n 0).map wrd).toArray 40 (0, 0)) := by
  rw [made_zeroU] at h
  rcases h.2 with ⟨h', _⟩ | ⟨g', cap, cur, h', _, hg, _, _, hcs, htake⟩
  · simp at h'
  · simp only [Value.slice.injEq, Option.some.injEq, Addr.mk.injEq, and_true, true_and] at h'
    obtain ⟨rfl, rfl⟩ := h'
    rw [hg]
    rw [Nat.mul_one] at htake hcs
    rw [List.take_of_length_le (by rw [Array.length_toList, hcs]; exact Nat.le_refl _)] at htake
    rw [← htake]

set_option maxHeartbeats 8000000 in
set_option maxRecDepth 100000 in
theorem add_any (w : World) (v u : Value) (l k : List Nat) (hv : WSl w v l) (hu : WSl w u k) (sl : Words32 l) (sk : Words32 k) (ll : l.length ≤ 900000) (lk : k.length ≤ 900000) :
    Calls Tryd.prog 91 #[v, u] w fun e w' => ∃ v', e = .returned v' ∧ WBig w' v' (wval l + wval k) ∧ Below w.heap.size w w' := by
  obtain ⟨i0, hi, hz0, hz1, hz2⟩ := info_parts infoU
  obtain ⟨aa, ca, rfl, hca, ra⟩ := hv
  obtain ⟨ab, cb, rfl, hcb, rb⟩ := hu
  have K1 := hide (wcut_any w aa l ca (by omega) hca ra sl)
  have K2 := hide (wcut_any w ab k cb (by omega) hcb rb sk)
  have rA := ra.cut sl
  have rB := rb.cut sk
  have lA : (wdig (wval l)).length ≤ 900000 := Nat.le_trans (wdig_len_words sl) ll
  have lB : (wdig (wval k)).length ≤ 900000 := Nat.le_trans (wdig_len_words sk) lk
  have hcA : (wdig (wval l)).length ≤ ca := Nat.le_trans (wdig_len_words sl) hca
  have hcB : (wdig (wval k)).length ≤ cb := Nat.le_trans (wdig_len_words sk) hcb
  have sA := words_wdig (wval l)
  have sB := words_wdig (wval k)
  have HE : Hid (wval (wdig (wval l)) + wval (wdig (wval k)) = wval l + wval k) := by show _ = _; rw [wval_wdig, wval_wdig]
  have HE2 : Hid (wval (wdig (wval k)) + wval (wdig (wval l)) = wval l + wval k) := by show _ = _; rw [wval_wdig, wval_wdig, Nat.add_comm]
  clear ra rb sl sk
  generalize wdig (wval l) = A at *
  generalize wdig (wval k) = B at *
  generalize wval l + wval k = S at *
  go_enter Tryd.func91, Tryd.ntmps91
  go_wp2_with fail
  refine (unhide K1).mono ?_
  rintro e w1 ⟨rfl, rfl⟩
  go_wp2_with fail
  refine (unhide K2).mono ?_
  rintro e w1 ⟨rfl, rfl⟩
  clear K1 K2
  by_cases hlt : A.length < B.length
  · have t1 : decide (A.length < B.length) = true := decide_eq_true hlt
    go_wp2_with (at_make; refine wpList_make_full _ rfl _ _ 36 rfl w1.heap.size 40 i0 (.int .u32 0) 1 Tryd.underlying36 hi hz0 hz1 _ _ _ _ (B.length + 1) rfl rfl (by omega) (by omega) ?b2 ?b3 ?b4 ?_)
    case b2 => rw [hz2]; omega
    case b3 => unfold maxLen; omega
    case b4 => exact Nat.le_refl _
    intro w2 hown2 hgrow2
    have hb2 : Below w1.heap.size w1 w2 := (Below.refl _ w1).grown hgrow2 (Nat.le_refl _) (fun k h => by cases h)
    have hheap := own_whole hown2
    clear hgrow2 hown2
    go_wp2_with (refine wpList_copy_splice rfl _ _ 36 36 rfl 40 Tryd.underlying36 infoSize _ _ _ _ _ _ rfl rfl w1.heap.size 0 ((List.replicate (B.length + 1) 0).map wrd) 40 hheap (B.map wrd) ?m1 (fun h => ⟨rfl, rowU_cells (rB.below hb2) (by simpa using h)⟩) ?m3 ?m4 w1.heap.size w1 hb2 (Nat.le_refl _) ?_)
    case m1 => simp
    case m3 => simp
    case m4 => intro u hu; obtain ⟨x, _, rfl⟩ := List.mem_map.1 hu; rfl
    intro w3 hheap3 hb3
    rw [splice_front] at hheap3
    have own3 : Own w3 w1.heap.size (B.length + 1) (B ++ [0]) := by
      have h := own_heapW (c := 0) hheap3.out (by unfold maxLen; simp; omega)
      have hlx : (B ++ [0]).length = B.length + 1 := by simp
      rw [hlx] at h
      exact h
    have K3 := hide (add_tail w1 w3 (.slice aa A.length ca) B A ⟨aa, ca, rfl, hcA, rA⟩ sB sA (by omega) (by omega) hb3 own3)
    clear hheap3 own3 hheap hb2
    go_wp2_with fail
    refine (unhide K3).mono ?_
    rintro e w4 ⟨M', b', rfl, hM', sM', hval', own4, hgr4⟩
    rw [HE2.out] at hval'
    have hb4 : Below w1.heap.size w1 w4 := hb3.trans (below_of_grown hgr4 (Nat.le_refl _) hb3.size)
    have C4 := hide (wcut_any w4 (some ⟨w1.heap.size, 0, none⟩) M' (B.length + 1) (by omega) (by omega) own4.row sM')
    have R4 := hide (own4.row.cut sM')
    have L4 : Hid ((wdig (wval M')).length ≤ B.length + 1) := by have := wdig_len_words sM'; show _ ≤ _; omega
    rw [hM'] at C4
    rw [hval'] at C4 R4 L4
    clear K3 own4 hgr4 hval' hM' sM' hb3
    go_wp2_with fail
    refine (unhide C4).mono ?_
    rintro e w5 ⟨rfl, rfl⟩
    go_wp2
    go_ret
    exact ⟨_, rfl, ⟨_, _, rfl, L4.out, unhide R4⟩, hb4⟩
  · have t1 : decide (A.length < B.length) = false := decide_eq_false hlt
    go_wp2_with (at_make; refine wpList_make_full _ rfl _ _ 36 rfl w1.heap.size 40 i0 (.int .u32 0) 1 Tryd.underlying36 hi hz0 hz1 _ _ _ _ (A.length + 1) rfl rfl (by omega) (by omega) ?b2 ?b3 ?b4 ?_)
    case b2 => rw [hz2]; omega
    case b3 => unfold maxLen; omega
    case b4 => exact Nat.le_refl _
    intro w2 hown2 hgrow2
    have hb2 : Below w1.heap.size w1 w2 := (Below.refl _ w1).grown hgrow2 (Nat.le_refl _) (fun k h => by cases h)
    have hheap := own_whole hown2
    clear hgrow2 hown2
    go_wp2_with (refine wpList_copy_splice rfl _ _ 36 36 rfl 40 Tryd.underlying36 infoSize _ _ _ _ _ _ rfl rfl w1.heap.size 0 ((List.replicate (A.length + 1) 0).map wrd) 40 hheap (A.map wrd) ?m1 (fun h => ⟨rfl, rowU_cells (rA.below hb2) (by simpa using h)⟩) ?m3 ?m4 w1.heap.size w1 hb2 (Nat.le_refl _) ?_)
    case m1 => simp
    case m3 => simp
    case m4 => intro u hu; obtain ⟨x, _, rfl⟩ := List.mem_map.1 hu; rfl
    intro w3 hheap3 hb3
    rw [splice_front] at hheap3
    have own3 : Own w3 w1.heap.size (A.length + 1) (A ++ [0]) := by
      have h := own_heapW (c := 0) hheap3.out (by unfold maxLen; simp; omega)
      have hlx : (A ++ [0]).length = A.length + 1 := by simp
      rw [hlx] at h
      exact h
    have K3 := hide (add_tail w1 w3 (.slice ab B.length cb) A B ⟨ab, cb, rfl, hcB, rB⟩ sA sB (by omega) (by omega) hb3 own3)
    clear hheap3 own3 hheap hb2
    go_wp2_with fail
    refine (unhide K3).mono ?_
    rintro e w4 ⟨M', b', rfl, hM', sM', hval', own4, hgr4⟩
    rw [HE.out] at hval'
    have hb4 : Below w1.heap.size w1 w4 := hb3.trans (below_of_grown hgr4 (Nat.le_refl _) hb3.size)
    have C4 := hide (wcut_any w4 (some ⟨w1.heap.size, 0, none⟩) M' (A.length + 1) (by omega) (by omega) own4.row sM')
    have R4 := hide (own4.row.cut sM')
    have L4 : Hid ((wdig (wval M')).length ≤ A.length + 1) := by have := wdig_len_words sM'; show _ ≤ _; omega
    rw [hM'] at C4
    rw [hval'] at C4 R4 L4
    clear K3 own4 hgr4 hval' hM' sM' hb3
    go_wp2_with fail
    refine (unhide C4).mono ?_
    rintro e w5 ⟨rfl, rfl⟩
    go_wp2
    go_ret
    exact ⟨_, rfl, ⟨_, _, rfl, L4.out, unhide R4⟩, hb4⟩
end Go.Proofs.YtobbbhmkcmbekaaDoor.bigs
