/- Of our texts, what this claim reaches. -/
import Derived.Test.YtnbfnjhbmeocfabGreatDoorPssBU
import Derived.Test.YtnbfnjhbmeocfabGreatDoorPssBQ
import Derived.Test.YtnbfnjhbmeocfabGreatDoorPssBZ
set_option linter.unusedVariables false
set_option maxHeartbeats 8000000
set_option maxRecDepth 100000
namespace Go.Proofs.YtnbfnjhbmeocfabGreatDoor.valus
open Go.RowKit Go.Shelf
open bigs (TextIs)
theorem shows_any (w : World) (hT : ShowTabs w) : Calls Tryz.prog 6 #[] w fun e w' => e = .returned (.bool true) ∧ Below w.heap.size w w' := by
 obtain ⟨F, hF⟩ := frac_texts w hT
 have K := lineS_any 1 hF w 0 0 0 ⟨#[]⟩ none 0 0 none 0 0 zeroV hT (zero_lies' _ w) (by decide)
 rw [zeroV_line, zeroV_good] at K
 have HK := hide K
 clear K hF hT
 go_enter Tryz.func6, Tryz.ntmps6
 go_wp2_with (go_at_call 7; refine (unhide HK).mono ?_; rintro e w1 ⟨rfl, b1⟩)
 go_ret
 exact ⟨rfl, b1⟩
end Go.Proofs.YtnbfnjhbmeocfabGreatDoor.valus
namespace Go.Proofs.YtnbfnjhbmeocfabGreatDoor.valus
open Go.RowKit Go.Shelf
open bigs (TextIs)
theorem beq_lists (l m : List UInt8) : ((⟨l.toArray⟩ : ByteArray).toList == (⟨m.toArray⟩ : ByteArray).toList) = decide (l = m) := by
 rw [Lib.toList_data, Lib.toList_data]
 show (l == m) = decide (l = m)
 by_cases h : l = m
 ·rw [decide_eq_true h]; exact beq_iff_eq.2 h
 ·rw [decide_eq_false h]; exact beq_false_of_ne h
theorem lawSame (f : Nat) (w : World) (t u : V) (a0 a1 a2 a3 a4 a5 c0 c1 c2 c3 c4 c5 : Value) (hl : LiesV (fun b => b < w.heap.size) f w [a0, a1, a2, a3, a4, a5] t) (hl' : LiesV (fun b => b < w.heap.size) f w [c0, c1, c2, c3, c4, c5] u) (hn : nodesV f t ≤ 1048576) (hn' : nodesV f u ≤ 1048576) (hT : ShowTabs w) :
  Calls Tryz.prog 4 #[.agg #[a0, a1, a2, a3, a4, a5], .agg #[c0, c1, c2, c3, c4, c5]] w fun e w' => e = .returned (.bool true) ∧ Below w.heap.size w w' := by
 obtain ⟨k, n, b, s, pL, nL, cL, pE, nE, cE, rfl, rfl, rfl, rfl, rfl, rfl⟩ := hl.form
 obtain ⟨k', n', b', s', qL, mL, dL, qE, mE, dE, rfl, rfl, rfl, rfl, rfl, rfl⟩ := hl'.form
 obtain ⟨F, hF⟩ := frac_texts w hT
 have hX := (blk_alloc w #[.int .i64 k, .int .i64 n, .int .u64 (b : Int), .string s, .slice pL nL cL, .slice pE nE cE] 26).alloc (.cells #[.int .i64 k', .int .i64 n', .int .u64 (b' : Int), .string s', .slice qL mL dL, .slice qE mE dE] 26)
 have hY := blk_alloc (w.alloc (.cells #[.int .i64 k, .int .i64 n, .int .u64 (b : Int), .string s, .slice pL nL cL, .slice pE nE cE] 26)) #[.int .i64 k', .int .i64 n', .int .u64 (b' : Int), .string s', .slice qL mL dL, .slice qE mE dE] 26
 rw [World.size_alloc] at hY
 have bV : Below w.heap.size w ((w.alloc (.cells #[.int .i64 k, .int .i64 n, .int .u64 (b : Int), .string s, .slice pL nL cL, .slice pE nE cE] 26)).alloc (.cells #[.int .i64 k', .int .i64 n', .int .u64 (b' : Int), .string s', .slice qL mL dL, .slice qE mE dE] 26)) := ((Below.refl _ w).alloc (Nat.le_refl _) _).alloc (by simp) _
 obtain ⟨W, hW⟩ : ∃ W, W = (w.alloc (.cells #[.int .i64 k, .int .i64 n, .int .u64 (b : Int), .string s, .slice pL nL cL, .slice pE nE cE] 26)).alloc (.cells #[.int .i64 k', .int .i64 n', .int .u64 (b' : Int), .string s', .slice qL mL dL, .slice qE mE dE] 26) := ⟨_, rfl⟩
 rw [← hW] at bV hX hY
 have lat1 : ∀ w1, Below w.heap.size w w1 → LiesV (fun q => q < w1.heap.size) f w1 [.int .i64 k, .int .i64 n, .int .u64 (b : Int), .string s, .slice pL nL cL, .slice pE nE cE] t := fun w1 h1 => hl.kept (fun q hq => Nat.lt_of_lt_of_le hq h1.size) h1.size (fun q hq _ => h1.block q hq)
 have lat2 : ∀ w1, Below w.heap.size w w1 → LiesV (fun q => q < w1.heap.size) f w1 [.int .i64 k', .int .i64 n', .int .u64 (b' : Int), .string s', .slice qL mL dL, .slice qE mE dE] u := fun w1 h1 => hl'.kept (fun q hq => Nat.lt_of_lt_of_le hq h1.size) h1.size (fun q hq _ => h1.block q hq)
 obtain ⟨er, her⟩ : ∃ er, er = faultV oneV t := ⟨_, rfl⟩
 obtain ⟨es, hes⟩ : ∃ es, es = faultV oneV u := ⟨_, rfl⟩
 obtain ⟨S1, hS1⟩ : ∃ S1 : ByteArray, S1 = ⟨(shownT F false t).toArray⟩ := ⟨_, rfl⟩
 obtain ⟨S2, hS2⟩ : ∃ S2 : ByteArray, S2 = ⟨(shownT F false u).toArray⟩ := ⟨_, rfl⟩
 obtain ⟨S3, hS3⟩ : ∃ S3 : ByteArray, S3 = ⟨(shownT F true t).toArray⟩ := ⟨_, rfl⟩
 obtain ⟨S4, hS4⟩ : ∃ S4 : ByteArray, S4 = ⟨(shownT F true u).toArray⟩ := ⟨_, rfl⟩
 obtain ⟨r, hr⟩ : ∃ r : Bool, r = decide (cmpV f t u = .eq) := ⟨_, rfl⟩
 have K0 := hide (shows_any W (hT.below bV))
 have K1 : Hid (∀ w1, Below w.heap.size w w1 → Calls Tryz.prog 7 #[.agg #[.int .i64 k, .int .i64 n, .int .u64 (b : Int), .string s, .slice pL nL cL, .slice pE nE cE]] w1 fun e w' => e = .returned (.tuple #[.string S1, .int .i64 er]) ∧ Below w1.heap.size w1 w') := hide fun w1 h1 => by
  rw [hS1, her]
  exact lineS_any f hF w1 k n b s pL nL cL pE nE cE t (hT.below h1) (lat1 w1 h1) (by omega)
 have K2 : Hid (∀ w1, Below w.heap.size w w1 → Calls Tryz.prog 7 #[.agg #[.int .i64 k', .int .i64 n', .int .u64 (b' : Int), .string s', .slice qL mL dL, .slice qE mE dE]] w1 fun e w' => e = .returned (.tuple #[.string S2, .int .i64 es]) ∧ Below w1.heap.size w1 w') := hide fun w1 h1 => by
  rw [hS2, hes]
  exact lineS_any f hF w1 k' n' b' s' qL mL dL qE mE dE u (hT.below h1) (lat2 w1 h1) (by omega)
 have K3 : Hid (∀ w1, Below w.heap.size w w1 → Calls Tryz.prog 8 #[.agg #[.int .i64 k, .int .i64 n, .int .u64 (b : Int), .string s, .slice pL nL cL, .slice pE nE cE]] w1 fun e w' => e = .returned (.tuple #[.string S3, .int .i64 er]) ∧ Below w1.heap.size w1 w') := hide fun w1 h1 => by
  rw [hS3, her]
  exact showS_any f hF w1 k n b s pL nL cL pE nE cE t (hT.below h1) (lat1 w1 h1) (by omega)
 have K4 : Hid (∀ w1, Below w.heap.size w w1 → Calls Tryz.prog 8 #[.agg #[.int .i64 k', .int .i64 n', .int .u64 (b' : Int), .string s', .slice qL mL dL, .slice qE mE dE]] w1 fun e w' => e = .returned (.tuple #[.string S4, .int .i64 es]) ∧ Below w1.heap.size w1 w') := hide fun w1 h1 => by
  rw [hS4, hes]
  exact showS_any f hF w1 k' n' b' s' qL mL dL qE mE dE u (hT.below h1) (lat2 w1 h1) (by omega)
 have K5 : Hid (∀ w1, Below w.heap.size w w1 → Calls Tryz.prog 13 #[.agg #[.int .i64 k, .int .i64 n, .int .u64 (b : Int), .string s, .slice pL nL cL, .slice pE nE cE], .agg #[.int .i64 k', .int .i64 n', .int .u64 (b' : Int), .string s', .slice qL mL dL, .slice qE mE dE]] w1 fun e w' => e = .returned (.bool r) ∧ Below w1.heap.size w1 w') := hide fun w1 h1 => sameM_any f w1 t u _ _ _ _ _ _ _ _ _ _ _ _ (lat1 w1 h1) (lat2 w1 h1) (by omega) r hr
 have HX := hide (And.intro bV (And.intro hX hY))
 have g1 : (er == er) = true := beq_self_eq_true er
 have g2 : (es == es) = true := beq_self_eq_true es
 have HG : Hid (er = 0 → es = 0 → (S1.toList == S2.toList) = r ∧ (S3.toList == S4.toList) = r) := hide fun h1 h2 => by
  have z1 : faultV oneV t = 0 := by rw [← her]; exact h1
  have z2 : faultV oneV u = 0 := by rw [← hes]; exact h2
  obtain ⟨f1, _⟩ := fit_of hl z1
  obtain ⟨f2, _⟩ := fit_of hl' z2
  have e : (cmpV f t u = .eq) ↔ t = u := (cmpV_ord f).same t u hl.isV hl'.isV
  rw [hS1, hS2, hS3, hS4, beq_lists, beq_lists, shown_good F false z1, shown_good F false z2, shown_good F true z1, shown_good F true z2, hr]
  constructor
  ·exact decide_eq_decide.2 ⟨fun q => e.2 (doc_inj hF false f1 f2 q), fun q => by rw [e.1 q]⟩
  ·exact decide_eq_decide.2 ⟨fun q => e.2 (doc_inj hF true f1 f2 q), fun q => by rw [e.1 q]⟩
 have rr : (r == r) = true := beq_self_eq_true r
 clear hl hl' hn hn' hF hS1 hS2 hS3 hS4 her hes lat1 lat2 bV hX hY hr hT
 by_cases h1 : er = 0
 ·by_cases h2 : es = 0
  ·obtain ⟨e1, e2⟩ := HG.out h1 h2
   subst h1 h2
   clear HG
   go_enter Tryz.func4, Tryz.ntmps4
   go_upto_region 1 with fail
   rw [← hW]
   clear hW
   go_upto_region 3 with (go_at_call 6; refine (unhide K0).mono ?_; rintro e w1 ⟨rfl, b1⟩)
   obtain ⟨bV, hX, hY⟩ := HX.out
   have b01 := bV.trans (b1.mono bV.size)
   have X1 := hX.below b1
   have Y1 := hY.below b1
   have x0 := X1.cell 0 _ rfl
   have x1 := X1.cell 1 _ rfl
   have x2 := X1.cell 2 _ rfl
   have x3 := X1.cell 3 _ rfl
   have x4 := X1.cell 4 _ rfl
   have x5 := X1.cell 5 _ rfl
   have K1' := hide (K1.out w1 b01)
   have H1 := hide (And.intro b01 (And.intro X1 Y1))
   clear b1 b01 X1 Y1 K0 K1 HX bV hX hY
   go_upto_region 4 with (go_at_call 7; refine (unhide K1').mono ?_; rintro e w2 ⟨rfl, b2⟩)
   have b02 := H1.out.1.trans (b2.mono H1.out.1.size)
   have X2 := H1.out.2.1.below b2
   have Y2 := H1.out.2.2.below b2
   clear x0 x1 x2 x3 x4 x5
   have y0 := Y2.cell 0 _ rfl
   have y1 := Y2.cell 1 _ rfl
   have y2 := Y2.cell 2 _ rfl
   have y3 := Y2.cell 3 _ rfl
   have y4 := Y2.cell 4 _ rfl
   have y5 := Y2.cell 5 _ rfl
   have K2' := hide (K2.out w2 b02)
   have H2 := hide (And.intro b02 (And.intro X2 Y2))
   clear b2 b02 X2 Y2 K1' K2 H1
   go_upto_region 5 with (go_at_call 7; refine (unhide K2').mono ?_; rintro e w3 ⟨rfl, b3⟩)
   have b03 := H2.out.1.trans (b3.mono H2.out.1.size)
   have X3 := H2.out.2.1.below b3
   have Y3 := H2.out.2.2.below b3
   clear y0 y1 y2 y3 y4 y5
   have x0 := X3.cell 0 _ rfl
   have x1 := X3.cell 1 _ rfl
   have x2 := X3.cell 2 _ rfl
   have x3 := X3.cell 3 _ rfl
   have x4 := X3.cell 4 _ rfl
   have x5 := X3.cell 5 _ rfl
   have K3' := hide (K3.out w3 b03)
   have H3 := hide (And.intro b03 (And.intro X3 Y3))
   clear b3 b03 X3 Y3 K2' K3 H2
   go_upto_region 6 with (go_at_call 8; refine (unhide K3').mono ?_; rintro e w4 ⟨rfl, b4⟩)
   have b04 := H3.out.1.trans (b4.mono H3.out.1.size)
   have X4 := H3.out.2.1.below b4
   have Y4 := H3.out.2.2.below b4
   clear x0 x1 x2 x3 x4 x5
   have y0 := Y4.cell 0 _ rfl
   have y1 := Y4.cell 1 _ rfl
   have y2 := Y4.cell 2 _ rfl
   have y3 := Y4.cell 3 _ rfl
   have y4 := Y4.cell 4 _ rfl
   have y5 := Y4.cell 5 _ rfl
   have K4' := hide (K4.out w4 b04)
   have H4 := hide (And.intro b04 (And.intro X4 Y4))
   clear b4 b04 X4 Y4 K3' K4 H3
   go_upto_region 7 with (go_at_call 8; refine (unhide K4').mono ?_; rintro e w5 ⟨rfl, b5⟩)
   have b05 := H4.out.1.trans (b5.mono H4.out.1.size)
   have X5 := H4.out.2.1.below b5
   have Y5 := H4.out.2.2.below b5
   clear y0 y1 y2 y3 y4 y5
   have x0 := X5.cell 0 _ rfl
   have x1 := X5.cell 1 _ rfl
   have x2 := X5.cell 2 _ rfl
   have x3 := X5.cell 3 _ rfl
   have x4 := X5.cell 4 _ rfl
   have x5 := X5.cell 5 _ rfl
   have y0 := Y5.cell 0 _ rfl
   have y1 := Y5.cell 1 _ rfl
   have y2 := Y5.cell 2 _ rfl
   have y3 := Y5.cell 3 _ rfl
   have y4 := Y5.cell 4 _ rfl
   have y5 := Y5.cell 5 _ rfl
   have K5a := hide (K5.out w5 b05)
   have H5 := hide (And.intro b05 (And.intro X5 Y5))
   clear b5 b05 X5 Y5 K4' H4
   go_wp2_with (first
    | (go_at_call 13; refine (unhide K5b).mono ?_; rintro e w7 ⟨rfl, b7⟩)
    | (go_at_call 13; refine (unhide K5a).mono ?_; rintro e w6 ⟨rfl, b6⟩; have b06 := H5.out.1.trans (b6.mono H5.out.1.size); have K5b := hide (K5.out w6 b06); have X6 := H5.out.2.1.below b6; have Y6 := H5.out.2.2.below b6; have H6 := hide b06; have p0 := X6.cell 0 _ rfl; have p1 := X6.cell 1 _ rfl; have p2 := X6.cell 2 _ rfl; have p3 := X6.cell 3 _ rfl; have p4 := X6.cell 4 _ rfl; have p5 := X6.cell 5 _ rfl; have q0 := Y6.cell 0 _ rfl; have q1 := Y6.cell 1 _ rfl; have q2 := Y6.cell 2 _ rfl; have q3 := Y6.cell 3 _ rfl; have q4 := Y6.cell 4 _ rfl; have q5 := Y6.cell 5 _ rfl; clear K5a X6 Y6 b06 b6 x0 x1 x2 x3 x4 x5 y0 y1 y2 y3 y4 y5))
   go_ret
   exact ⟨rfl, H6.out.trans (b7.mono H6.out.size)⟩
  ·have g0 : (es != 0) = true := bne_iff_ne.2 h2
   subst h1
   clear HG K5
   go_enter Tryz.func4, Tryz.ntmps4
   go_upto_region 1 with fail
   rw [← hW]
   clear hW
   go_upto_region 3 with (go_at_call 6; refine (unhide K0).mono ?_; rintro e w1 ⟨rfl, b1⟩)
   obtain ⟨bV, hX, hY⟩ := HX.out
   have b01 := bV.trans (b1.mono bV.size)
   have X1 := hX.below b1
   have Y1 := hY.below b1
   have x0 := X1.cell 0 _ rfl
   have x1 := X1.cell 1 _ rfl
   have x2 := X1.cell 2 _ rfl
   have x3 := X1.cell 3 _ rfl
   have x4 := X1.cell 4 _ rfl
   have x5 := X1.cell 5 _ rfl
   have K1' := hide (K1.out w1 b01)
   have H1 := hide (And.intro b01 (And.intro X1 Y1))
   clear b1 b01 X1 Y1 K0 K1 HX bV hX hY
   go_upto_region 4 with (go_at_call 7; refine (unhide K1').mono ?_; rintro e w2 ⟨rfl, b2⟩)
   have b02 := H1.out.1.trans (b2.mono H1.out.1.size)
   have X2 := H1.out.2.1.below b2
   have Y2 := H1.out.2.2.below b2
   clear x0 x1 x2 x3 x4 x5
   have y0 := Y2.cell 0 _ rfl
   have y1 := Y2.cell 1 _ rfl
   have y2 := Y2.cell 2 _ rfl
   have y3 := Y2.cell 3 _ rfl
   have y4 := Y2.cell 4 _ rfl
   have y5 := Y2.cell 5 _ rfl
   have K2' := hide (K2.out w2 b02)
   have H2 := hide (And.intro b02 (And.intro X2 Y2))
   clear b2 b02 X2 Y2 K1' K2 H1
   go_upto_region 5 with (go_at_call 7; refine (unhide K2').mono ?_; rintro e w3 ⟨rfl, b3⟩)
   have b03 := H2.out.1.trans (b3.mono H2.out.1.size)
   have X3 := H2.out.2.1.below b3
   have Y3 := H2.out.2.2.below b3
   clear y0 y1 y2 y3 y4 y5
   have x0 := X3.cell 0 _ rfl
   have x1 := X3.cell 1 _ rfl
   have x2 := X3.cell 2 _ rfl
   have x3 := X3.cell 3 _ rfl
   have x4 := X3.cell 4 _ rfl
   have x5 := X3.cell 5 _ rfl
   have K3' := hide (K3.out w3 b03)
   have H3 := hide (And.intro b03 (And.intro X3 Y3))
   clear b3 b03 X3 Y3 K2' K3 H2
   go_upto_region 6 with (go_at_call 8; refine (unhide K3').mono ?_; rintro e w4 ⟨rfl, b4⟩)
   have b04 := H3.out.1.trans (b4.mono H3.out.1.size)
   have X4 := H3.out.2.1.below b4
   have Y4 := H3.out.2.2.below b4
   clear x0 x1 x2 x3 x4 x5
   have y0 := Y4.cell 0 _ rfl
   have y1 := Y4.cell 1 _ rfl
   have y2 := Y4.cell 2 _ rfl
   have y3 := Y4.cell 3 _ rfl
   have y4 := Y4.cell 4 _ rfl
   have y5 := Y4.cell 5 _ rfl
   have K4' := hide (K4.out w4 b04)
   have H4 := hide (And.intro b04 (And.intro X4 Y4))
   clear b4 b04 X4 Y4 K3' K4 H3
   go_wp2_with (go_at_call 8; refine (unhide K4').mono ?_; rintro e w5 ⟨rfl, b5⟩)
   go_ret
   exact ⟨rfl, H4.out.1.trans (b5.mono H4.out.1.size)⟩
 ·have g0 : (er != 0) = true := bne_iff_ne.2 h1
  clear HG K5
  go_enter Tryz.func4, Tryz.ntmps4
  go_upto_region 1 with fail
  rw [← hW]
  clear hW
  go_upto_region 3 with (go_at_call 6; refine (unhide K0).mono ?_; rintro e w1 ⟨rfl, b1⟩)
  obtain ⟨bV, hX, hY⟩ := HX.out
  have b01 := bV.trans (b1.mono bV.size)
  have X1 := hX.below b1
  have Y1 := hY.below b1
  have x0 := X1.cell 0 _ rfl
  have x1 := X1.cell 1 _ rfl
  have x2 := X1.cell 2 _ rfl
  have x3 := X1.cell 3 _ rfl
  have x4 := X1.cell 4 _ rfl
  have x5 := X1.cell 5 _ rfl
  have K1' := hide (K1.out w1 b01)
  have H1 := hide (And.intro b01 (And.intro X1 Y1))
  clear b1 b01 X1 Y1 K0 K1 HX bV hX hY
  go_upto_region 4 with (go_at_call 7; refine (unhide K1').mono ?_; rintro e w2 ⟨rfl, b2⟩)
  have b02 := H1.out.1.trans (b2.mono H1.out.1.size)
  have X2 := H1.out.2.1.below b2
  have Y2 := H1.out.2.2.below b2
  clear x0 x1 x2 x3 x4 x5
  have y0 := Y2.cell 0 _ rfl
  have y1 := Y2.cell 1 _ rfl
  have y2 := Y2.cell 2 _ rfl
  have y3 := Y2.cell 3 _ rfl
  have y4 := Y2.cell 4 _ rfl
  have y5 := Y2.cell 5 _ rfl
  have K2' := hide (K2.out w2 b02)
  have H2 := hide (And.intro b02 (And.intro X2 Y2))
  clear b2 b02 X2 Y2 K1' K2 H1
  go_upto_region 5 with (go_at_call 7; refine (unhide K2').mono ?_; rintro e w3 ⟨rfl, b3⟩)
  have b03 := H2.out.1.trans (b3.mono H2.out.1.size)
  have X3 := H2.out.2.1.below b3
  have Y3 := H2.out.2.2.below b3
  clear y0 y1 y2 y3 y4 y5
  have x0 := X3.cell 0 _ rfl
  have x1 := X3.cell 1 _ rfl
  have x2 := X3.cell 2 _ rfl
  have x3 := X3.cell 3 _ rfl
  have x4 := X3.cell 4 _ rfl
  have x5 := X3.cell 5 _ rfl
  have K3' := hide (K3.out w3 b03)
  have H3 := hide (And.intro b03 (And.intro X3 Y3))
  clear b3 b03 X3 Y3 K2' K3 H2
  go_upto_region 6 with (go_at_call 8; refine (unhide K3').mono ?_; rintro e w4 ⟨rfl, b4⟩)
  have b04 := H3.out.1.trans (b4.mono H3.out.1.size)
  have X4 := H3.out.2.1.below b4
  have Y4 := H3.out.2.2.below b4
  clear x0 x1 x2 x3 x4 x5
  have y0 := Y4.cell 0 _ rfl
  have y1 := Y4.cell 1 _ rfl
  have y2 := Y4.cell 2 _ rfl
  have y3 := Y4.cell 3 _ rfl
  have y4 := Y4.cell 4 _ rfl
  have y5 := Y4.cell 5 _ rfl
  have K4' := hide (K4.out w4 b04)
  have H4 := hide (And.intro b04 (And.intro X4 Y4))
  clear b4 b04 X4 Y4 K3' K4 H3
  go_wp2_with (go_at_call 8; refine (unhide K4').mono ?_; rintro e w5 ⟨rfl, b5⟩)
  go_ret
  exact ⟨rfl, H4.out.1.trans (b5.mono H4.out.1.size)⟩
theorem lawShowSame (w : World) (f0 f1 : Nat) (t u : V) (a0 a1 a2 a3 a4 a5 c0 c1 c2 c3 c4 c5 : Value) (hl : LiesV (fun b => b < w.heap.size) f0 w [a0, a1, a2, a3, a4, a5] t) (hl' : LiesV (fun b => b < w.heap.size) f1 w [c0, c1, c2, c3, c4, c5] u) (hn : nodesV f0 t ≤ 1048576) (hn' : nodesV f1 u ≤ 1048576) (hT : ShowTabs w) :
  Calls Tryz.prog 4 #[.agg #[a0, a1, a2, a3, a4, a5], .agg #[c0, c1, c2, c3, c4, c5]] w fun e w' => e = .returned (.bool true) ∧ Below w.heap.size w w' :=
 lawSame (f0 + f1) w t u a0 a1 a2 a3 a4 a5 c0 c1 c2 c3 c4 c5 (hl.to (by omega)) (hl'.to (by omega)) (by rw [nodesV_le hl.isV (by omega)]; exact hn) (by rw [nodesV_le hl'.isV (by omega)]; exact hn') hT
end Go.Proofs.YtnbfnjhbmeocfabGreatDoor.valus
