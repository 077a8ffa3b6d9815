/- The walk of package tree's Source. -/
import Derived.Test.YtoikdjbgeebadaaTokEqW
import Derived.Test.YtoikdjbgeebadaaTreeAt
set_option linter.unusedVariables false
namespace Go.Proofs.Ytoikdjbgeebadaa.trees
open Go.RowKit
open toks

/-- The bytes of tokens a to e - 1. -/
def srcN (s : ByteArray) (l : List Tk) (a e : Nat) : ByteArray := s.extract (l.getD a ⟨0, 0, 0⟩).fro (l.getD e ⟨0, 0, 0⟩).til
theorem getD_tk' {l : List Tk} {k : Nat} (h : k < l.length) : l.getD k ⟨0, 0, 0⟩ = l[k] := by
  rw [List.getD_eq_getElem?_getD, List.getElem?_eq_getElem h]
  rfl
theorem src_parts (s : ByteArray) {a e : Nat} (hae : a ≤ e) (he : e < (toksL s.data.toList).length) : ((toksL s.data.toList).getD a ⟨0, 0, 0⟩).fro ≤ ((toksL s.data.toList).getD e ⟨0, 0, 0⟩).til ∧ ((toksL s.data.toList).getD e ⟨0, 0, 0⟩).til ≤ s.size := by
  rw [getD_tk' he, getD_tk' (by omega)]
  obtain ⟨h1, h2, _⟩ := toks_part s.data.toList a e _ _ hae (List.getElem?_eq_getElem (by omega)) (List.getElem?_eq_getElem he)
  rw [len_list] at h2
  exact ⟨Nat.le_of_lt h1, h2⟩
set_option maxHeartbeats 1000000 in
set_option maxRecDepth 100000 in
theorem source_large (w : World) (s : ByteArray) (k at' en : Int) (p : Option Addr) (n c : Nat) (hs : 20000 < s.size) :
    Calls Try.prog 12 #[.string s, .agg #[.int .i64 k, .int .i64 at', .int .i64 en, .slice p n c]] w fun e w' => e = .returned (.string ⟨#[]⟩) ∧ Below w.heap.size w w' := by
  have K1 : ∀ u, Hid _ := fun u => hide (cut_large s u hs)
  have B1 := hide ((Below.refl _ w).alloc (Nat.le_refl _) (.cells #[.int .i64 k, .int .i64 at', .int .i64 en, .slice p n c] 24))
  clear hs
  go_enter Try.func12, Try.ntmps12
  go_wp2_with fail
  refine (unhide (K1 _)).mono ?_
  rintro e w1 ⟨rfl, hw⟩
  rw [hw]
  dsimp only
  clear hw K1
  go_wp2
  go_ret
  exact ⟨rfl, unhide B1⟩
set_option maxHeartbeats 2000000 in
set_option maxRecDepth 100000 in
theorem source_bad (w : World) (s : ByteArray) (k at' en : Int) (p : Option Addr) (n c : Nat) (hs : s.size ≤ 20000) (hM : MaxOk w) (hbad : ¬ (0 ≤ at' ∧ at' < en ∧ en ≤ ((toksL s.data.toList).length : Int))) :
    Calls Try.prog 12 #[.string s, .agg #[.int .i64 k, .int .i64 at', .int .i64 en, .slice p n c]] w fun e w' => e = .returned (.string ⟨#[]⟩) ∧ Below w.heap.size w w' := by
  have b1 := (Below.refl _ w).alloc (Nat.le_refl _) (.cells #[.int .i64 k, .int .i64 at', .int .i64 en, .slice p n c] 24)
  have nb := blk_alloc w #[.int .i64 k, .int .i64 at', .int .i64 en, .slice p n c] 24
  have K1 : Hid _ := hide (cut_any s _ hs (hM.below (Nat.le_refl _) b1))
  have B1 := hide b1
  have NB := hide nb
  clear hM b1 nb
  generalize toksL s.data.toList = l at *
  by_cases h1 : at' < 0
  · have d1 : decide (at' < 0) = true := decide_eq_true h1
    clear hbad
    go_enter Try.func12, Try.ntmps12
    go_wp2_with fail
    refine (unhide K1).mono ?_
    rintro e w1 ⟨v, rfl, ⟨a, cap, rfl, hcap, row⟩, b2⟩
    dsimp only
    have c1 := Blk.cell (Blk.below (unhide NB) b2) 1 _ rfl
    have c2 := Blk.cell (Blk.below (unhide NB) b2) 2 _ rfl
    have B2 := hide ((unhide B1).trans (b2.mono (unhide B1).size))
    clear K1 row b2 NB B1
    go_wp2
    go_ret
    exact ⟨rfl, unhide B2⟩
  have d1 : decide (at' < 0) = false := decide_eq_false h1
  by_cases h2 : at' ≥ en
  · have d2 : decide (at' ≥ en) = true := decide_eq_true h2
    clear hbad
    go_enter Try.func12, Try.ntmps12
    go_wp2_with fail
    refine (unhide K1).mono ?_
    rintro e w1 ⟨v, rfl, ⟨a, cap, rfl, hcap, row⟩, b2⟩
    dsimp only
    have c1 := Blk.cell (Blk.below (unhide NB) b2) 1 _ rfl
    have c2 := Blk.cell (Blk.below (unhide NB) b2) 2 _ rfl
    have B2 := hide ((unhide B1).trans (b2.mono (unhide B1).size))
    clear K1 row b2 NB B1
    go_wp2
    go_ret
    exact ⟨rfl, unhide B2⟩
  have d2 : decide (at' ≥ en) = false := decide_eq_false h2
  have h3 : en > (l.length : Int) := by omega
  have d3 : decide (en > (l.length : Int)) = true := decide_eq_true h3
  clear hbad
  go_enter Try.func12, Try.ntmps12
  go_wp2_with fail
  refine (unhide K1).mono ?_
  rintro e w1 ⟨v, rfl, ⟨a, cap, rfl, hcap, row⟩, b2⟩
  dsimp only
  have c1 := Blk.cell (Blk.below (unhide NB) b2) 1 _ rfl
  have c2 := Blk.cell (Blk.below (unhide NB) b2) 2 _ rfl
  have B2 := hide ((unhide B1).trans (b2.mono (unhide B1).size))
  clear K1 row b2 NB B1
  go_wp2
  go_ret
  exact ⟨rfl, unhide B2⟩
set_option maxHeartbeats 2000000 in
set_option maxRecDepth 100000 in
theorem source_good (w : World) (s : ByteArray) (k : Int) (A E : Nat) (p : Option Addr) (n c : Nat) (hs : s.size ≤ 20000) (hM : MaxOk w) (hAE : A ≤ E) (hE : E < (toksL s.data.toList).length) :
    Calls Try.prog 12 #[.string s, .agg #[.int .i64 k, .int .i64 (A : Int), .int .i64 ((E : Int) + 1), .slice p n c]] w fun e w' => e = .returned (.string (srcN s (toksL s.data.toList) A E)) ∧ Below w.heap.size w w' := by
  have b1 := (Below.refl _ w).alloc (Nat.le_refl _) (.cells #[.int .i64 k, .int .i64 (A : Int), .int .i64 ((E : Int) + 1), .slice p n c] 24)
  have nb := blk_alloc w #[.int .i64 k, .int .i64 (A : Int), .int .i64 ((E : Int) + 1), .slice p n c] 24
  have K1 : Hid _ := hide (cut_any s _ hs (hM.below (Nat.le_refl _) b1))
  have B1 := hide b1
  have NB := hide nb
  obtain ⟨hp1, hp2⟩ := src_parts s hAE hE
  have hl := (good s hs).len
  clear hM b1 nb
  generalize toksL s.data.toList = l at *
  have d1 : decide ((A : Int) < 0) = false := decide_eq_false (by omega)
  have d2 : decide ((A : Int) ≥ (E : Int) + 1) = false := decide_eq_false (by omega)
  have d3 : decide ((E : Int) + 1 > (l.length : Int)) = false := decide_eq_false (by omega)
  have i1 : ¬ (A : Int) < 0 := by omega
  have i2 : ¬ (A : Int) ≥ (E : Int) + 1 := by omega
  have i3 : ¬ (E : Int) + 1 > (l.length : Int) := by omega
  have i4 : (A : Int) < (l.length : Int) := by omega
  have i5 : (E : Int) < (l.length : Int) := by omega
  have hA : A < l.length := by omega
  have EF : Hid (srcN s l A E = s.extract l[A].fro l[E].til) := hide (by unfold srcN; rw [getD_tk' hE, getD_tk' hA])
  rw [getD_tk' hE] at hp1 hp2
  rw [getD_tk' hA] at hp1
  go_enter Try.func12, Try.ntmps12
  go_wp2_with fail
  refine (unhide K1).mono ?_
  rintro e w1 ⟨v, rfl, ⟨a, cap, rfl, hcap, row⟩, b2⟩
  dsimp only
  have c1 := Blk.cell (Blk.below (unhide NB) b2) 1 _ rfl
  have c2 := Blk.cell (Blk.below (unhide NB) b2) 2 _ rfl
  have B2 := hide ((unhide B1).trans (b2.mono (unhide B1).size))
  obtain ⟨b, o, rfl, hb, q⟩ := row (fun e => by rw [e] at hE; simp at hE)
  obtain ⟨_, x2, _⟩ := q A hA
  obtain ⟨_, _, x3⟩ := q E hE
  clear K1 row b2 NB B1 q
  generalize l[A].fro = y1 at *
  generalize l[E].til = y2 at *
  have j1 : (y1 : Int) ≤ (y2 : Int) := by omega
  have j2 : (y2 : Int) ≤ (s.size : Int) := by omega
  go_wp2_with fail
  go_quiet (fail)
  go_wp2
  go_ret
  rw [unhide EF]
  exact ⟨rfl, below_drewN (unhide B2) _⟩
end Go.Proofs.Ytoikdjbgeebadaa.trees
