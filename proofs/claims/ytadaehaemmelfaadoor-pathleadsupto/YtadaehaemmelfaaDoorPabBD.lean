/- Of our texts, what this claim reaches. -/
import Derived.Test.YtadaehaemmelfaaDoorPabAZ
import Derived.Test.YtadaehaemmelfaaDoorPabBB
import Derived.Test.YtadaehaemmelfaaDoorPabBC
import Derived.Test.YtadaehaemmelfaaDoorPabAU
import Derived.Test.YtadaehaemmelfaaDoorPabAE
set_option linter.unusedVariables false
set_option maxHeartbeats 16000000
set_option maxRecDepth 100000
namespace Go.Proofs.YtadaehaemmelfaaDoor.paths
open Go.RowKit
open utfs (hide unhide)
open valus (V mkV opn LiesV Blk blk_alloc nodesV sizeW sizeR_any cmpV IsV)
theorem LiesPP.later {w w' : World} {q : Option Addr} {l : List (List St)} (h : LiesPP w q l) (hb : Below w.heap.size w w') : LiesPP w' q l := fun hl => by
 obtain ⟨B, e, hB, hc⟩ := h hl
 refine ⟨B, e, Nat.lt_of_lt_of_le hB hb.size, fun i p hp => ?_⟩
 obtain ⟨a, n, k1, k2, k3, k4⟩ := hc i p hp
 exact ⟨a, n, (hb.cell (p := ⟨B, i, none⟩) hB).trans k1, k2, k3, liesP_keep k4 hb⟩
theorem chk_steps {p : List St} (h : chkP p = 0) : ∀ x ∈ p, -1 ≤ x.2 := by
 unfold chkP at h
 split at h
 ·omega
 ·have key : ∀ l : List St, chkL l = 0 → ∀ x ∈ l, -1 ≤ x.2 := by
   intro l
   induction l with
   | nil => intro _ x hx; cases hx
   | cons y l ih =>
    intro hc x hx
    unfold chkL at hc
    split at hc
    ·rename_i h0
     rcases List.mem_cons.1 hx with rfl | hx
     ·exact (chkS_parts h0).1
     ·exact ih hc x hx
    ·rename_i h0
     exact absurd hc h0
  exact key p h
def Ans (z : V ⊕ Int) (w : World) (k n : Int) (b : Nat) (s : ByteArray) (pL : Option Addr) (nL cL : Nat) (pE : Option Addr) (nE cE : Nat) (er : Int) : Prop :=
 (∃ (y : V) (f : Nat), z = .inl y ∧ er = 0 ∧ LiesV (fun q => q < w.heap.size) f w [.int .i64 k, .int .i64 n, .int .u64 (b : Int), .string s, .slice pL nL cL, .slice pE nE cE] y) ∨ (z = .inr er ∧ er ≠ 0 ∧ ZeroV k n b s pL nL cL pE nE cE)
theorem Ans.later {z : V ⊕ Int} {w w' : World} {k n : Int} {b : Nat} {s : ByteArray} {pL : Option Addr} {nL cL : Nat} {pE : Option Addr} {nE cE : Nat} {er : Int} (h : Ans z w k n b s pL nL cL pE nE cE er) (hb : Below w.heap.size w w') : Ans z w' k n b s pL nL cL pE nE cE er := by
 rcases h with ⟨y, f, h1, h2, h3⟩ | h
 ·exact .inl ⟨y, f, h1, h2, h3.kept (fun q h => Nat.lt_of_lt_of_le h hb.size) hb.size (fun q h _ => hb.block q h)⟩
 ·exact .inr h
theorem get_ans {M : Nat} {z : V ⊕ Int} {w w' : World} {e : Ending} (h : GetW M z w e w') : ∃ (k n : Int) (b : Nat) (s : ByteArray) (pL : Option Addr) (nL cL : Nat) (pE : Option Addr) (nE cE : Nat) (er : Int), e = .returned (.tuple #[.agg #[.int .i64 k, .int .i64 n, .int .u64 (b : Int), .string s, .slice pL nL cL, .slice pE nE cE], .int .i64 er]) ∧ Hid (Ans z w' k n b s pL nL cL pE nE cE er) ∧ Below w.heap.size w w' := by
 obtain ⟨⟨y, f, x0, x1, x2, x3, x4, x5, h1, h2, h3, h4⟩ | ⟨er, h1, h2, h3⟩, hb⟩ := h
 ·obtain ⟨k, n, b, s, pL, nL, cL, pE, nE, cE, rfl, rfl, rfl, rfl, rfl, rfl⟩ := h3.form
  exact ⟨k, n, b, s, pL, nL, cL, pE, nE, cE, 0, h2, hide (.inl ⟨y, f, h1, rfl, h3⟩), hb⟩
 ·exact ⟨0, 0, 0, ⟨#[]⟩, none, 0, 0, none, 0, 0, er, h3, hide (.inr ⟨h1, h2, rfl, rfl, rfl, rfl, rfl, rfl, rfl, rfl, rfl, rfl⟩), hb⟩
theorem led_ans {N M : Nat} {z : V ⊕ Int} {w w' : World} {e : Ending} (hN : N ≤ w.heap.size) (h : PartRW N M z w e w') : ∃ (k n : Int) (b : Nat) (s : ByteArray) (pL : Option Addr) (nL cL : Nat) (pE : Option Addr) (nE cE : Nat) (er : Int), e = .returned (.tuple #[.agg #[.int .i64 k, .int .i64 n, .int .u64 (b : Int), .string s, .slice pL nL cL, .slice pE nE cE], .int .i64 er]) ∧ Hid (Ans z w' k n b s pL nL cL pE nE cE er) ∧ Below w.heap.size w w' := by
 obtain ⟨⟨y, f, x0, x1, x2, x3, x4, x5, h1, h2, h3, h4⟩ | ⟨er, h1, h2, h3⟩, hb⟩ := h
 ·obtain ⟨k, n, b, s, pL, nL, cL, pE, nE, cE, rfl, rfl, rfl, rfl, rfl, rfl⟩ := h3.form
  have := hb.size
  exact ⟨k, n, b, s, pL, nL, cL, pE, nE, cE, 0, h2, hide (.inl ⟨y, f, h1, rfl, h3.kept (fun q h => by omega) (Nat.le_refl _) (fun _ _ _ => rfl)⟩), hb⟩
 ·exact ⟨0, 0, 0, ⟨#[]⟩, none, 0, 0, none, 0, 0, er, h3, hide (.inr ⟨h1, h2, rfl, rfl, rfl, rfl, rfl, rfl, rfl, rfl, rfl, rfl⟩), hb⟩
theorem zero_lies0 (ok : Nat → Prop) (w : World) : LiesV ok 1 w [.int .i64 0, .int .i64 0, .int .u64 0, .string ⟨#[]⟩, .slice none 0 0, .slice none 0 0] (mkV (0, 0, 0, []) [] []) :=
 ⟨0, 0, 0, ⟨#[]⟩, [], [], none, none, 0, 0, rfl, rfl, ⟨by omega, by omega, by omega, by unfold maxLen; decide⟩, ⟨Nat.le_refl _, by unfold maxLen; omega, Nat.le_refl _, by unfold maxLen; omega⟩, fun h => absurd rfl h, fun h => absurd rfl h⟩
theorem self_eq (f : Nat) (t : V) (h : IsV f t) : cmpV f t t = .eq := (valus.cmpV_ord f).same t t h h |>.2 rfl
theorem ans_same {z : V ⊕ Int} {w : World} {k n : Int} {b : Nat} {s : ByteArray} {pL : Option Addr} {nL cL : Nat} {pE : Option Addr} {nE cE : Nat} {er : Int} {k' n' : Int} {b' : Nat} {s' : ByteArray} {pL' : Option Addr} {nL' cL' : Nat} {pE' : Option Addr} {nE' cE' : Nat} {er' : Int}
  (h : Ans z w k n b s pL nL cL pE nE cE er) (h' : Ans z w k' n' b' s' pL' nL' cL' pE' nE' cE' er') :
  (Calls Tryd.prog 13 #[.agg #[.int .i64 k, .int .i64 n, .int .u64 (b : Int), .string s, .slice pL nL cL, .slice pE nE cE], .agg #[.int .i64 k', .int .i64 n', .int .u64 (b' : Int), .string s', .slice pL' nL' cL', .slice pE' nE' cE']] w fun e w' => e = .returned (.bool true) ∧ Below w.heap.size w w') ∧ er = er' := by
 have key : ∀ (f g : Nat) (y : V), LiesV (fun q => q < w.heap.size) f w [.int .i64 k, .int .i64 n, .int .u64 (b : Int), .string s, .slice pL nL cL, .slice pE nE cE] y → LiesV (fun q => q < w.heap.size) g w [.int .i64 k', .int .i64 n', .int .u64 (b' : Int), .string s', .slice pL' nL' cL', .slice pE' nE' cE'] y → Calls Tryd.prog 13 #[.agg #[.int .i64 k, .int .i64 n, .int .u64 (b : Int), .string s, .slice pL nL cL, .slice pE nE cE], .agg #[.int .i64 k', .int .i64 n', .int .u64 (b' : Int), .string s', .slice pL' nL' cL', .slice pE' nE' cE']] w fun e w' => e = .returned (.bool true) ∧ Below w.heap.size w w' := fun f g y h1 h2 => by
  have k1 := h1.to (Nat.le_max_left f g)
  have k2 := h2.to (Nat.le_max_right f g)
  refine (valus.same_any (max f g) _ _ w y y _ _ _ _ _ _ _ _ _ _ _ _ k1 k2).mono ?_
  rintro e w' ⟨rfl, hb⟩
  exact ⟨by rw [decide_eq_true (self_eq _ _ k1.isV)], hb⟩
 rcases h with ⟨y, f, h1, h2, h3⟩ | ⟨h1, h2, rfl, rfl, rfl, rfl, rfl, rfl, rfl, rfl, rfl, rfl⟩
 ·rcases h' with ⟨y', f', g1, g2, g3⟩ | ⟨g1, _⟩
  ·rw [h1] at g1
   injection g1 with g1
   subst g1
   exact ⟨key _ _ _ h3 g3, by omega⟩
  ·rw [h1] at g1
   cases g1
 ·rcases h' with ⟨y', f', g1, _⟩ | ⟨g1, g2, rfl, rfl, rfl, rfl, rfl, rfl, rfl, rfl, rfl, rfl⟩
  ·rw [h1] at g1
   cases g1
  ·rw [h1] at g1
   injection g1 with g1
   exact ⟨key _ _ _ (zero_lies0 _ w) (zero_lies0 _ w), g1⟩
theorem lawPathLeads (hLed : ∀ N M P, LedC N M P) (hSz : ∀ f t, nodesV f t ≤ 10000000 → (sizeW f t).2 = (nodesV f t : Int)) (f : Nat) (W : World) (t : V) (k n : Int) (b : Nat) (s : ByteArray) (pL : Option Addr) (nL cL : Nat) (pE : Option Addr) (nE cE : Nat) (hl : LiesV (fun q => q < W.heap.size) f W [.int .i64 k, .int .i64 n, .int .u64 (b : Int), .string s, .slice pL nL cL, .slice pE nE cE] t) (hn : nodesV f t ≤ 1048576) (p : Option Addr) (c : Nat) (P : List St) (hP : LiesP W p P) (hPc : P.length ≤ c) (hcm : c ≤ maxLen) (hT : Utf8W W) :
  Calls Tryd.prog 3 #[.agg #[.int .i64 k, .int .i64 n, .int .u64 (b : Int), .string s, .slice pL nL cL, .slice pE nE cE], .slice p P.length c] W fun e W' => e = .returned (.bool true) ∧ Below W.heap.size W W' := by
 obtain ⟨W0, hW0⟩ : ∃ W0, W0 = W.alloc (.cells #[.int .i64 k, .int .i64 n, .int .u64 (b : Int), .string s, .slice pL nL cL, .slice pE nE cE] 26) := ⟨_, rfl⟩
 have b0 : Below W.heap.size W W0 := by rw [hW0]; exact (Below.refl _ W).alloc (Nat.le_refl _) _
 have v0 : Blk W0 W.heap.size #[.int .i64 k, .int .i64 n, .int .u64 (b : Int), .string s, .slice pL nL cL, .slice pE nE cE] 26 := by rw [hW0]; exact blk_alloc _ _ _
 have hml : maxLen ≤ 9223372036854775807 := by unfold maxLen; decide
 have hlW : ∀ u, Below W.heap.size W u → LiesV (fun q => q < W.heap.size) f u [.int .i64 k, .int .i64 n, .int .u64 (b : Int), .string s, .slice pL nL cL, .slice pE nE cE] t := fun u hu => hl.kept (fun q h => h) hu.size (fun q h _ => hu.block q h)
 have hlU : ∀ u, Below W.heap.size W u → LiesV (fun q => q < u.heap.size) f u [.int .i64 k, .int .i64 n, .int .u64 (b : Int), .string s, .slice pL nL cL, .slice pE nE cE] t := fun u hu => hl.kept (fun q h => Nat.lt_of_lt_of_le h hu.size) hu.size (fun q h _ => hu.block q h)
 have KS : ∀ u, Below W.heap.size W u → Calls Tryd.prog 7 #[.agg #[.int .i64 k, .int .i64 n, .int .u64 (b : Int), .string s, .slice pL nL cL, .slice pE nE cE]] u fun e w' => ∃ d : Int, e = .returned (.tuple #[.int .i64 d, .int .i64 (nodesV f t : Int)]) ∧ Below u.heap.size u w' := fun u hu => (sizeR_any f _ u t _ _ _ _ _ _ (hlU u hu)).mono (fun e w' h => ⟨(sizeW f t).1, by rw [← hSz f t (by omega)]; exact h.1, h.2⟩)
 have KF : ∀ u, Below W.heap.size W u → Calls Tryd.prog 12 #[.slice p P.length c] u fun e w' => e = .returned (.int .i64 (chkP P)) ∧ Below u.heap.size u w' := fun u hu => fault_step u p c P (hP.keep hu) (by omega)
 have HC : Hid (∀ u, Below W0.heap.size W0 u → u.cell? ⟨W.heap.size, 0, none⟩ = some (.int .i64 k) ∧ u.cell? ⟨W.heap.size, 1, none⟩ = some (.int .i64 n) ∧ u.cell? ⟨W.heap.size, 2, none⟩ = some (.int .u64 (b : Int)) ∧ u.cell? ⟨W.heap.size, 3, none⟩ = some (.string s) ∧ u.cell? ⟨W.heap.size, 4, none⟩ = some (.slice pL nL cL) ∧ u.cell? ⟨W.heap.size, 5, none⟩ = some (.slice pE nE cE)) := hide fun u h => by
  have hv : Blk u W.heap.size #[.int .i64 k, .int .i64 n, .int .u64 (b : Int), .string s, .slice pL nL cL, .slice pE nE cE] 26 := v0.below h
  exact ⟨hv.cell 0 _ rfl, hv.cell 1 _ rfl, hv.cell 2 _ rfl, hv.cell 3 _ rfl, hv.cell 4 _ rfl, hv.cell 5 _ rfl⟩
 have K1 := hide (KS W0 b0)
 have HKF := hide KF
 have HLW := hide hlW
 have HLU := hide hlU
 have HT : Hid (∀ u, Below W.heap.size W u → Utf8W u) := hide fun u hu => Utf8Tabs_below hT hu
 have HPK : Hid (∀ u, Below W.heap.size W u → LiesP u p P) := hide fun u hu => hP.keep hu
 have B0 := hide b0
 have HW := hide hW0
 clear KS KF hlW hlU b0 v0 hW0 hl hT hP
 go_enter Tryd.func3, Tryd.ntmps3
 go_wp2_with fail
 rw [← HW.out]
 refine (unhide K1).mono ?_
 rintro _ w1 ⟨d, rfl, b1⟩
 clear K1 HW
 by_cases h200 : nodesV f t > 200
 ·have i1 : (nodesV f t : Int) > 200 := by omega
  have hb := hide (B0.out.trans (b1.mono B0.out.size))
  clear HC HLW HLU HKF HT HPK b1
  generalize nodesV f t = N at *
  go_wp2
  go_ret
  exact ⟨rfl, hb.out⟩
 ·have i1 : ¬ (nodesV f t : Int) > 200 := by omega
  have hb1 := B0.out.trans (b1.mono B0.out.size)
  have KG := (get_any 200 (by omega) w1 f t _ _ _ _ _ _ (HLU.out w1 hb1) (by omega) p c P (HPK.out w1 hb1) (by omega) (HT.out w1 hb1)).mono (fun e w' h => get_ans h)
  have HKG := hide KG
  obtain ⟨c0, c1, c2, c3, c4, c5⟩ := HC.out w1 b1
  have B1 := hide b1
  have HN : Hid (nodesV f t ≤ 200) := hide (by omega)
  clear KG b1 hb1 hn h200
  generalize hNN : (nodesV f t : Int) = N at *
  clear hNN
  go_wp2_with fail
  refine (unhide HKG).mono ?_
  rintro _ w2 ⟨k2, n2, b2', s2, pL2, nL2, cL2, pE2, nE2, cE2, e2, rfl, hA2, b2⟩
  have B2 := hide (B1.out.trans (b2.mono B1.out.size))
  obtain ⟨c0, c1, c2, c3, c4, c5⟩ := HC.out w2 B2.out
  obtain ⟨w3, hw3⟩ : ∃ w3, w3 = w2.alloc (.cells #[.int .i64 k2, .int .i64 n2, .int .u64 (b2' : Int), .string s2, .slice pL2 nL2 cL2, .slice pE2 nE2 cE2] 26) := ⟨_, rfl⟩
  have b23 : Below w2.heap.size w2 w3 := by rw [hw3]; exact (Below.refl _ w2).alloc (Nat.le_refl _) _
  have x3 : Blk w3 w2.heap.size #[.int .i64 k2, .int .i64 n2, .int .u64 (b2' : Int), .string s2, .slice pL2 nL2 cL2, .slice pE2 nE2 cE2] 26 := by rw [hw3]; exact blk_alloc _ _ _
  have hA3 := hide (hA2.out.later b23)
  have hb3 : Below W0.heap.size W0 w3 := B2.out.trans (b23.mono B2.out.size)
  have hb03 : Below W.heap.size W w3 := B0.out.trans (hb3.mono B0.out.size)
  have KA : Hid (∀ u, Below w3.heap.size w3 u → Calls Tryd.prog 10 #[.agg #[.int .i64 k, .int .i64 n, .int .u64 (b : Int), .string s, .slice pL nL cL, .slice pE nE cE]] u fun e w' => ∃ q c, e = .returned (.slice q (allV f t).length c) ∧ Hid (LiesPP w' q (allV f t)) ∧ Below u.heap.size u w') := hide fun u hu => (all_any f u t _ _ _ _ _ _ (HLU.out u (hb03.trans (hu.mono hb03.size))) (by have := HN.out; omega)).mono (fun e w' ⟨q, c, h1, h2, h3, h4⟩ => ⟨q, c, h1, hide h3, h4⟩)
  have KO : Hid (∀ u, Below w3.heap.size w3 u → Calls Tryd.prog 11 #[.agg #[.int .i64 k, .int .i64 n, .int .u64 (b : Int), .string s, .slice pL nL cL, .slice pE nE cE]] u fun e w' => ∃ q c, e = .returned (.slice q (allV f t).length c) ∧ Hid (LiesPP w' q (allV f t)) ∧ Below u.heap.size u w') := hide fun u hu => (of_all f u t _ _ _ _ _ _ (HLU.out u (hb03.trans (hu.mono hb03.size))) (by have := HN.out; omega)).mono (fun e w' ⟨q, c, h1, h2, h3, h4⟩ => ⟨q, c, h1, hide h3.pp, h4⟩)
  have KQ : Hid (∀ u q1 c1 q2 c2, LiesPP u q1 (allV f t) → LiesPP u q2 (allV f t) → Calls Tryd.prog 9 #[.slice q1 (allV f t).length c1, .slice q2 (allV f t).length c2] u fun e w' => e = .returned (.bool true) ∧ Below u.heap.size u w') := hide fun u q1 c1 q2 c2 h1 h2 => by
   have hm : ∀ x ∈ allV f t, x.length ≤ 9223372036854775807 := fun x hx => by have := path_short f t x hx; have := HN.out; omega
   have hlen : (allV f t).length ≤ 9223372036854775807 := by have := allV_len f t; have := HN.out; omega
   refine (samePs_any u q1 q2 c1 c2 _ _ h1 h2 hlen hlen hm hm).mono ?_
   rintro e w' ⟨rfl, hb⟩
   exact ⟨by rw [decide_eq_true rfl], hb⟩
  have HC3 : Hid (∀ u, Below w3.heap.size w3 u → u.cell? ⟨W.heap.size, 0, none⟩ = some (.int .i64 k) ∧ u.cell? ⟨W.heap.size, 1, none⟩ = some (.int .i64 n) ∧ u.cell? ⟨W.heap.size, 2, none⟩ = some (.int .u64 (b : Int)) ∧ u.cell? ⟨W.heap.size, 3, none⟩ = some (.string s) ∧ u.cell? ⟨W.heap.size, 4, none⟩ = some (.slice pL nL cL) ∧ u.cell? ⟨W.heap.size, 5, none⟩ = some (.slice pE nE cE)) := hide fun u hu => HC.out u (hb3.trans (hu.mono hb3.size))
  have HX3 := hide x3
  have HA := hA3
  have HW3 := hide hw3
  have B3 := hide hb03
  clear HKG b2 B1 hw3 b23 x3 hA2 hA3 hb3 hb03 B2 HC
  generalize hAL : (allV f t).length = AL at *
  go_wp2_with fail
  rw [← HW3.out]
  clear HW3 c0 c1 c2 c3 c4 c5
  obtain ⟨c0, c1, c2, c3, c4, c5⟩ := HC3.out w3 (Below.refl _ _)
  have hr3 : Below w3.heap.size w3 w3 := Below.refl _ _
  go_cut [30] from 25 to 29 (fun s30 wx => s30 = .bool false ∧ Hid (Below w3.heap.size w3 wx))
  case first =>
   go_region_with (first
    | (go_at_call 10
       refine (KA.out _ (_root_.Go.below_drewN hr3 1)).mono ?_
       rintro e w4 ⟨q4, c4', rfl, HP4, b4⟩
       have B4 : Hid (Below w3.heap.size w3 w4) := hide ((_root_.Go.below_drewN hr3 1).trans (b4.mono (_root_.Go.below_drewN hr3 1).size))
       obtain ⟨d0, d1, d2, d3, d4, d5⟩ := HC3.out w4 B4.out
       clear b4)
    | (go_at_call 11
       refine (KO.out _ B4.out).mono ?_
       rintro e w5 ⟨q5, c5', rfl, HP5, b5⟩
       have HP45 : Hid (LiesPP w5 q4 (allV f t)) := hide (HP4.out.later b5)
       have B5 : Hid (Below w3.heap.size w3 w5) := hide (B4.out.trans (b5.mono B4.out.size))
       clear b5)
    | (go_at_call 9
       refine (KQ.out w5 q4 c4' q5 c5' HP45.out HP5.out).mono ?_
       rintro e w6 ⟨rfl, b6⟩
       have B6 : Hid (Below w3.heap.size w3 w6) := hide (B5.out.trans (b6.mono B5.out.size))
       clear b6))
   all_goals
    go_wp2_with fail
    go_meet
    exact ⟨rfl, B6⟩
  case rest =>
  obtain ⟨rfl, BC⟩ := hcut
  have hbc := B3.out.trans (BC.out.mono B3.out.size)
  have K6 := hide (HKF.out wc hbc)
  clear hbc KA KO KQ c0 c1 c2 c3 c4 c5
  go_wp2_with fail
  refine (unhide K6).mono ?_
  rintro _ w7 ⟨rfl, b7⟩
  have B7 := hide (BC.out.trans (b7.mono BC.out.size))
  clear K6 b7 BC
  have x7 : Blk w7 w2.heap.size #[.int .i64 k2, .int .i64 n2, .int .u64 (b2' : Int), .string s2, .slice pL2 nL2 cL2, .slice pE2 nE2 cE2] 26 := HX3.out.below B7.out
  obtain ⟨y0, y1, y2, y3, y4, y5⟩ := x7.cells6
  have HX7 := hide x7
  clear x7
  by_cases hck : chkP P = 0
  ·have hlp : leadP t P = leadV t P := by unfold leadP; rw [if_pos hck]
   have hst : ∀ x ∈ P, -1 ≤ x.2 := fun x hx => chk_steps hck x hx
   have hb7 := B3.out.trans (B7.out.mono B3.out.size)
   have KL := (hLed W.heap.size 200 P f w7 t _ _ _ _ _ _ p c hb7.size (HLW.out w7 hb7) HN.out (HPK.out w7 hb7) hPc hcm hst).mono (fun e w' h => led_ans hb7.size h)
   rw [← hlp] at KL
   have HKL := hide KL
   obtain ⟨c0, c1, c2, c3, c4, c5⟩ := HC3.out w7 B7.out
   rw [hck]
   clear KL hlp hst hb7 hck
   go_wp2_with fail
   refine (unhide HKL).mono ?_
   rintro _ w8 ⟨k8, n8, b8', s8, pL8, nL8, cL8, pE8, nE8, cE8, e8, rfl, hA8, b8⟩
   obtain ⟨w9, hw9⟩ : ∃ w9, w9 = w8.alloc (.cells #[.int .i64 k8, .int .i64 n8, .int .u64 (b8' : Int), .string s8, .slice pL8 nL8 cL8, .slice pE8 nE8 cE8] 26) := ⟨_, rfl⟩
   have b89 : Below w8.heap.size w8 w9 := by rw [hw9]; exact (Below.refl _ w8).alloc (Nat.le_refl _) _
   have x9 : Blk w9 w8.heap.size #[.int .i64 k8, .int .i64 n8, .int .u64 (b8' : Int), .string s8, .slice pL8 nL8 cL8, .slice pE8 nE8 cE8] 26 := by rw [hw9]; exact blk_alloc _ _ _
   have b79 := b8.trans (b89.mono b8.size)
   have B9 := hide (B7.out.trans (b79.mono B7.out.size))
   obtain ⟨KE, hee⟩ := ans_same (HA.out.later B9.out) (hA8.out.later b89)
   subst hee
   have HKE := hide KE
   obtain ⟨y0, y1, y2, y3, y4, y5⟩ := (HX7.out.below b79).cells6
   obtain ⟨z0, z1, z2, z3, z4, z5⟩ := x9.cells6
   have HW9 := hide hw9
   rw [hw9] at y0 y1 y2 y3 y4 y5 z0 z1 z2 z3 z4 z5
   clear HKL b8 b89 x9 b79 KE hw9 c0 c1 c2 c3 c4 c5 hA8
   go_wp2_with fail
   rw [← HW9.out]
   refine (unhide HKE).mono ?_
   rintro _ w10 ⟨rfl, b10⟩
   have hb := hide (B3.out.trans ((B9.out.trans (b10.mono B9.out.size)).mono B3.out.size))
   clear HKE b10 y0 y1 y2 y3 y4 y5 z0 z1 z2 z3 z4 z5
   go_wp2
   go_ret
   exact ⟨by simp, hb.out⟩
  ·have hlp : leadP t P = .inr (chkP P) := by unfold leadP; rw [if_neg hck]
   have n2 : (chkP P != 0) = true := bne_iff_ne.2 hck
   obtain ⟨KE, hee⟩ := ans_same (HA.out.later B7.out) (show Ans (leadP t P) w7 0 0 0 ⟨#[]⟩ none 0 0 none 0 0 (chkP P) from .inr ⟨hlp, hck, rfl, rfl, rfl, rfl, rfl, rfl, rfl, rfl, rfl, rfl⟩)
   have HKE := hide KE
   clear KE hlp
   subst hee
   generalize chkP P = ec at *
   go_wp2_with fail
   refine (unhide HKE).mono ?_
   rintro _ w10 ⟨rfl, b10⟩
   have hb := hide (B3.out.trans ((B7.out.trans (b10.mono B7.out.size)).mono B3.out.size))
   clear HKE b10 y0 y1 y2 y3 y4 y5
   go_wp2
   go_ret
   exact ⟨by simp, hb.out⟩
end Go.Proofs.YtadaehaemmelfaaDoor.paths
