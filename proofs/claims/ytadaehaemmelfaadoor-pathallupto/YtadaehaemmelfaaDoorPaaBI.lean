/- Of our texts, what this claim reaches. -/
import Derived.Test.YtadaehaemmelfaaDoorPaaBC
import Derived.Test.YtadaehaemmelfaaDoorPaaBE
import Derived.Test.YtadaehaemmelfaaDoorPaaBF
import Derived.Test.YtadaehaemmelfaaDoorPaaBG
import Derived.Test.YtadaehaemmelfaaDoorPaaAF
import Derived.Test.YtadaehaemmelfaaDoorPaaBH
import Derived.Test.YtadaehaemmelfaaDoorPaaAH
set_option linter.unusedVariables false
set_option maxHeartbeats 16000000
set_option maxRecDepth 100000
namespace Go.Proofs.YtadaehaemmelfaaDoor.paths
open Go.RowKit
open utfs (hide unhide)
open valus (V mkV opn LiesV Blk blk_alloc nodesV RowIn AlikeV alike_same faultV oneV IsV nodes_any)
theorem lies_later {f : Nat} {w w' : World} {us : List Value} {t : V} (h : LiesV (fun q => q < w.heap.size) f w us t) (hb : Below w.heap.size w w') : LiesV (fun q => q < w'.heap.size) f w' us t := h.kept (fun q h => Nat.lt_of_lt_of_le h hb.size) hb.size (fun q h _ => hb.block q h)
theorem sumC_take (g : List St → Nat) (l : List (List St)) (i : Nat) : sumC g (l.take i) ≤ sumC g l := by
 have h : sumC g l = sumC g (l.take i) + sumC g (l.drop i) := by rw [← sumC_app, List.take_append_drop]
 omega
theorem sumC_next (g : List St → Nat) {l : List (List St)} {i : Nat} {p : List St} (h : l[i]? = some p) : sumC g (l.take (i + 1)) = sumC g (l.take i) + g p := by
 obtain ⟨hi, e⟩ := List.getElem?_eq_some_iff.1 h
 rw [List.take_succ_eq_append_getElem hi, sumC_app, e]
 rfl
theorem chk_len {p : List St} (h : chkP p = 0) : p.length ≤ 20 := by
 unfold chkP at h
 split at h
 ·omega
 ·omega
theorem lawPathAll (f : Nat) (W : World) (t : V) (k n : Int) (b : Nat) (s : ByteArray) (pL : Option Addr) (nL cL : Nat) (pE : Option Addr) (nE cE : Nat) (hl : LiesV (fun q => q < W.heap.size) f W [.int .i64 k, .int .i64 n, .int .u64 (b : Int), .string s, .slice pL nL cL, .slice pE nE cE] t) (hn : nodesV f t ≤ 1048576) (hT : PTabs W) :
  Calls Tryd.prog 4 #[.agg #[.int .i64 k, .int .i64 n, .int .u64 (b : Int), .string s, .slice pL nL cL, .slice pE nE cE]] W fun e W' => e = .returned (.bool true) ∧ Below W.heap.size W W' := by
 obtain ⟨W0, hW0⟩ : ∃ W0, W0 = W.alloc (.cells #[.int .i64 k, .int .i64 n, .int .u64 (b : Int), .string s, .slice pL nL cL, .slice pE nE cE] 26) := ⟨_, rfl⟩
 have b0 : Below W.heap.size W W0 := by rw [hW0]; exact (Below.refl _ W).alloc (Nat.le_refl _) _
 have v0 : Blk W0 W.heap.size #[.int .i64 k, .int .i64 n, .int .u64 (b : Int), .string s, .slice pL nL cL, .slice pE nE cE] 26 := by rw [hW0]; exact blk_alloc _ _ _
 have hl0 := lies_later hl b0
 have hT0 := hT.below b0
 have K0 := hide (paths_yes W0 hT0)
 have KC : Hid (∀ u, Below W0.heap.size W0 u → Calls Tryd.prog 16 #[.agg #[.int .i64 k, .int .i64 n, .int .u64 (b : Int), .string s, .slice pL nL cL, .slice pE nE cE]] u fun e w' => e = .returned (.int .i64 (faultV oneV t)) ∧ Below u.heap.size u w') := hide fun u h => callsIn_wide.1 (valus.check_any f u t _ _ _ _ _ _ (lies_later hl0 h) (by omega) (hT0.below h).esc.utf)
 have KN : Hid (∀ u, Below W0.heap.size W0 u → Calls Tryd.prog 17 #[.agg #[.int .i64 k, .int .i64 n, .int .u64 (b : Int), .string s, .slice pL nL cL, .slice pE nE cE]] u fun e w' => e = .returned (.int .i64 (nodesV f t : Int)) ∧ Below u.heap.size u w') := hide fun u h => callsIn_wide.1 (nodes_any f u t _ _ _ _ _ _ (lies_later hl0 h) (by omega))
 have HC : Hid (∀ u, Below W0.heap.size W0 u → u.cell? ⟨W.heap.size, 0, none⟩ = some (.int .i64 k) ∧ u.cell? ⟨W.heap.size, 1, none⟩ = some (.int .i64 n) ∧ u.cell? ⟨W.heap.size, 2, none⟩ = some (.int .u64 (b : Int)) ∧ u.cell? ⟨W.heap.size, 3, none⟩ = some (.string s) ∧ u.cell? ⟨W.heap.size, 4, none⟩ = some (.slice pL nL cL) ∧ u.cell? ⟨W.heap.size, 5, none⟩ = some (.slice pE nE cE)) := hide fun u h => by
  have hv : Blk u W.heap.size #[.int .i64 k, .int .i64 n, .int .u64 (b : Int), .string s, .slice pL nL cL, .slice pE nE cE] 26 := v0.below h
  exact ⟨hv.cell 0 _ rfl, hv.cell 1 _ rfl, hv.cell 2 _ rfl, hv.cell 3 _ rfl, hv.cell 4 _ rfl, hv.cell 5 _ rfl⟩
 have B0 := hide b0
 have HL := hide hl0
 have HT := hide hT0
 have HIV := hide hl.isV
 have HW := hide hW0
 clear hl hl0 hT hT0 b0 v0 hW0
 go_enter Tryd.func4, Tryd.ntmps4
 go_wp2_with fail
 rw [← HW.out]
 refine (unhide K0).mono ?_
 rintro _ w1 ⟨rfl, b1⟩
 have K1 := hide (KC.out w1 b1)
 obtain ⟨c0, c1, c2, c3, c4, c5⟩ := HC.out w1 b1
 have B1 := hide b1
 clear K0 b1 KC HW
 go_wp2_with fail
 refine (unhide K1).mono ?_
 rintro _ w2 ⟨rfl, b2⟩
 have B2 := hide (B1.out.trans (b2.mono B1.out.size))
 clear K1 b2 B1 c0 c1 c2 c3 c4 c5
 by_cases hg : faultV oneV t = 0
 ·rw [hg]
  have K2 := hide (KN.out w2 B2.out)
  obtain ⟨c0, c1, c2, c3, c4, c5⟩ := HC.out w2 B2.out
  go_wp2_with fail
  refine (unhide K2).mono ?_
  rintro _ w3 ⟨rfl, b3⟩
  have B3 := hide (B2.out.trans (b3.mono B2.out.size))
  clear K2 b3 B2 c0 c1 c2 c3 c4 c5
  by_cases h100 : nodesV f t > 100
  ·have i1 : (nodesV f t : Int) > 100 := by omega
   have hb := hide (B0.out.trans (B3.out.mono B0.out.size))
   clear KN HC HL HT B3
   go_wp2
   go_ret
   exact ⟨rfl, hb.out⟩
  ·have i1 : ¬ (nodesV f t : Int) > 100 := by omega
   have K3 := hide (all_any f w3 t _ _ _ _ _ _ (lies_later HL.out B3.out) (by omega))
   obtain ⟨c0, c1, c2, c3, c4, c5⟩ := HC.out w3 B3.out
   have hfine := good_fine f t HIV.out hg
   have hlen := allV_len f t
   have hsum := all_sum f t hfine
   have HFN := hide hfine
   have HSM := hide hsum
   have HND := hide (all_nodup f t hfine)
   have HCK : Hid (∀ p ∈ allV f t, chkP p = 0) := hide fun p hp => all_chk HIV.out hg hp
   have H0 : Hid ((allV f t)[0]? = some [] ∧ 0 < nodesV f t) := hide (by
    cases f with
    | zero => exact HIV.out.elim
    | succ f => exact ⟨rfl, by unfold nodesV; omega⟩)
   clear hfine hsum
   go_wp2_with fail
   refine (unhide K3).mono ?_
   rintro _ w4 ⟨q, cq, rfl, hcq, hPP, b4⟩
   have B4 := hide (B3.out.trans (b4.mono B3.out.size))
   have HPP := hide hPP
   clear K3 b4 B3 c0 c1 c2 c3 c4 c5 hPP
   rw [hlen] at hcq ⊢
   have hN : nodesV f t ≤ 100 := by omega
   generalize hNN : nodesV f t = N at *
   have HNN := hide hNN
   clear hNN i1 h100 hn
   obtain ⟨BB, hBB⟩ : ∃ BB, q = some ⟨BB, 0, none⟩ := by obtain ⟨B, e, _⟩ := HPP.out (by rw [hlen]; have := H0.out.2; omega); exact ⟨B, e⟩
   subst hBB
   have HROW : Hid (∀ (i : Nat) (hi : i < (allV f t).length), ∃ a n, (allV f t)[i].length ≤ n ∧ n ≤ maxLen ∧ ∀ u, Below w4.heap.size w4 u → u.cell? ⟨BB, i, none⟩ = some (.slice a (allV f t)[i].length n) ∧ LiesP u a (allV f t)[i]) := hide fun i hi => by
    obtain ⟨B, e, hB, hc⟩ := HPP.out (by omega)
    injection e with e
    injection e with e
    subst e
    obtain ⟨a, n, k1, k2, k3, k4⟩ := hc i _ (List.getElem?_eq_getElem hi)
    exact ⟨a, n, k2, k3, fun u hu => ⟨(hu.cell (p := ⟨BB, i, none⟩) hB).trans k1, liesP_keep k4 hu⟩⟩
   clear HPP
   go_wp2_with fail
   go_loopw [4, 25] (fun sm i wr => ∃ j : Nat, i = .int .i64 j ∧ j ≤ N ∧ ∃ sv : Nat, sm = .int .i64 sv ∧ Hid (sv = sumC (fun p => cntV (leadV t p)) ((allV f t).take j)) ∧ sv ≤ 100 ∧ Hid (Below w4.heap.size w4 wr)) (fun _ i _ => N - (intOf i).toNat)
   case atStart => exact ⟨0, rfl, Nat.zero_le _, 0, rfl, hide (by rw [List.take_zero]; rfl), Nat.zero_le _, hide (Below.refl _ _)⟩
   case round =>
    obtain ⟨j, rfl, hj, sv, rfl, HSV, hsv, HBW⟩ := hrel
    by_cases hjN : j < N
    ·have hjl : j < (allV f t).length := by rw [hlen]; exact hjN
     obtain ⟨aP, nP, e1, e2, e3⟩ := HROW.out j hjl
     obtain ⟨e0, e4⟩ := e3 wr HBW.out
     have hmem := List.getElem_mem hjl
     have hck := HCK.out _ hmem
     obtain ⟨y, hy⟩ := all_lead f t HFN.out _ hmem
     have hlp : leadP t (allV f t)[j] = .inl y := by unfold leadP; rw [if_pos hck]; exact hy
     have bwr := B4.out.trans (HBW.out.mono B4.out.size)
     have KG := get_any 100 (by omega) wr f t _ _ _ _ _ _ (lies_later HL.out bwr) (by rw [HNN.out]; exact hN) aP nP (allV f t)[j] e4 (by have := chk_len hck; omega) (HT.out.below bwr).esc.utf
     rw [hlp] at KG
     have HKG := hide KG
     have hnx : sumC (fun p => cntV (leadV t p)) ((allV f t).take (j + 1)) = sumC (fun p => cntV (leadV t p)) ((allV f t).take j) + cntV (leadV t (allV f t)[j]) := sumC_next (fun p => cntV (leadV t p)) (List.getElem?_eq_getElem hjl)
     have htk := sumC_take (fun p => cntV (leadV t p)) (allV f t) (j + 1)
     have hsm := HSM.out
     rw [hy] at hnx
     have HTK : Hid (sv + cntV (.inl y) ≤ 99) := hide (by rw [hnx, ← HSV.out] at htk; omega)
     have HNX : Hid (sv + cntV (.inl y) = sumC (fun p => cntV (leadV t p)) ((allV f t).take (j + 1))) := hide (by rw [hnx, ← HSV.out])
     have HPj : Hid (∀ u, Below w4.heap.size w4 u → LiesP u aP (allV f t)[j]) := hide fun u hu => (e3 u hu).2
     have HY := hide hy
     obtain ⟨c0, c1, c2, c3, c4, c5⟩ := HC.out wr bwr
     have i1 : (j : Int) < (N : Int) := by omega
     have HPL : Hid (j = 0 → (allV f t)[j] = [] ∧ y = t) := hide fun hj0 => by
      subst hj0
      have h0 := H0.out.1
      rw [List.getElem?_eq_getElem hjl] at h0
      injection h0 with h0
      rw [h0] at hy
      injection hy with hy
      exact ⟨h0, hy.symm⟩
     clear e1 e2 e3 e4 hmem hck hy hlp bwr KG hnx htk hsm HSV
     go_wp2_with fail
     refine (unhide HKG).mono ?_
     rintro e w5 ⟨(⟨y', f', x0, x1, x2, x3, x4, x5, hyy, rfl, hly, hny⟩ | ⟨er, hyy, _⟩), b5⟩
     ·injection hyy with hyy
      subst hyy
      cases f' with
      | zero => exact hly.elim
      | succ f' =>
       have hly0 := hly
       obtain ⟨k', n', b', s', L', E', pL', pE', cL', cE', hyt, hxs, _⟩ := hly
       simp only [List.cons.injEq, and_true] at hxs
       obtain ⟨rfl, rfl, rfl, rfl, rfl, rfl⟩ := hxs
       have hct : cntV (.inl y) = L'.length + E'.length := by rw [hyt]; rfl
       have hsv2 : sv + (L'.length + E'.length) ≤ 100 := by have := HTK.out; rw [hct] at this; omega
       have HS2 : Hid (sv + (L'.length + E'.length) = sumC (fun p => cntV (leadV t p)) ((allV f t).take (j + 1))) := by rw [← hct]; exact HNX
       have B5 := hide (HBW.out.trans (b5.mono HBW.out.size))
       obtain ⟨w6, hw6⟩ : ∃ w6, w6 = w5.alloc (.cells #[.int .i64 k', .int .i64 n', .int .u64 (b' : Int), .string s', .slice pL' L'.length cL', .slice pE' E'.length cE'] 26) := ⟨_, rfl⟩
       have b6 : Below w5.heap.size w5 w6 := by rw [hw6]; exact (Below.refl _ w5).alloc (Nat.le_refl _) _
       have x6 : Blk w6 w5.heap.size #[.int .i64 k', .int .i64 n', .int .u64 (b' : Int), .string s', .slice pL' L'.length cL', .slice pE' E'.length cE'] 26 := by rw [hw6]; exact blk_alloc _ _ _
       have B6 := hide (B5.out.trans (b6.mono B5.out.size))
       have HW6 := hide hw6
       have HX6 := hide x6
       have HLY := hide (lies_later hly0 b6)
       clear hw6 b6 x6 HKG hyt hct HTK HNX hly0 b5 B5 HBW hny c0 c1 c2 c3 c4 c5
       by_cases hj0 : j = 0
       ·obtain ⟨hpn, hyt⟩ := HPL.out hj0
        have bw6 := B4.out.trans (B6.out.mono B4.out.size)
        obtain ⟨c0, c1, c2, c3, c4, c5⟩ := HC.out w6 bw6
        have KA := hide (alike_same f (f' + 1) t w6 _ _ _ _ _ _ _ _ _ _ _ _ (lies_later HL.out bw6) (by have := HLY.out; rw [hyt] at this; exact this))
        have y0 := HX6.out.cell 0 _ rfl
        have y1 := HX6.out.cell 1 _ rfl
        have y2 := HX6.out.cell 2 _ rfl
        have y3 := HX6.out.cell 3 _ rfl
        have y4 := HX6.out.cell 4 _ rfl
        have y5 := HX6.out.cell 5 _ rfl
        have hpl : (allV f t)[j].length = 0 := by rw [hpn]; rfl
        have j0 : (j : Int) = 0 := by omega
        have j0' : ((j : Int) == 0) = true := by rw [j0]; rfl
        have HJ0 := hide hj0
        have HPN := hide hpn
        have HZ6 := HX6
        clear bw6 hyt HPL hj0 hpn
        rw [HW6.out] at c0 c1 c2 c3 c4 c5 y0 y1 y2 y3 y4 y5
        go_wp2_with fail
        rw [← HW6.out]
        refine (unhide KA).mono ?_
        rintro _ w7 ⟨rfl, b7⟩
        have B7 := hide (B6.out.trans (b7.mono B6.out.size))
        have x7 : Blk w7 w5.heap.size #[.int .i64 k', .int .i64 n', .int .u64 (b' : Int), .string s', .slice pL' L'.length cL', .slice pE' E'.length cE'] 26 := HZ6.out.below b7
        have z0 := x7.cell 4 _ rfl
        have z1 := x7.cell 5 _ rfl
        clear KA c0 c1 c2 c3 c4 c5 y0 y1 y2 y3 y4 y5 b7 x7 HX6 HZ6 HLY
        go_wp2_with fail
        go_loopw [64] (fun ii wq => ∃ m : Nat, ii = .int .i64 m ∧ m ≤ j ∧ Hid (Below w4.heap.size w4 wq)) (fun ii _ => j - (intOf ii).toNat)
        case atStart => exact ⟨0, rfl, Nat.zero_le _, B7⟩
        case round =>
         obtain ⟨m, rfl, hm, HBq⟩ := hrel
         by_cases hmj : m < j
         ·exact absurd hmj (by have := HJ0.out; omega)
         ·have i2 : ¬ (m : Int) < (j : Int) := by omega
          go_wp2
          go_roundw
          case rel => exact ⟨j + 1, by go_num, hjN, sv + (L'.length + E'.length), by go_num, HS2, hsv2, HBq⟩
          case measure => simp only [intOf]; omega
       ·have j0 : ¬ (j : Int) = 0 := by omega
        have j0' : ((j : Int) == 0) = false := beq_false_of_ne j0
        clear HPL
        go_wp2_with fail
        rw [← HW6.out]
        have B7 := B6
        clear HX6 HLY
        go_loopw [64] (fun ii wq => ∃ m : Nat, ii = .int .i64 m ∧ m ≤ j ∧ Hid (Below w4.heap.size w4 wq)) (fun ii _ => j - (intOf ii).toNat)
        case atStart => exact ⟨0, rfl, Nat.zero_le _, B7⟩
        case round =>
         obtain ⟨m, rfl, hm, HBq⟩ := hrel
         by_cases hmj : m < j
         ·have hml : m < (allV f t).length := by rw [hlen]; omega
          obtain ⟨a2, n2, d1, d2, d3⟩ := HROW.out m hml
          obtain ⟨d0, d4⟩ := d3 wr HBq.out
          have hne : (allV f t)[j] ≠ (allV f t)[m] := fun e => List.pairwise_iff_getElem.1 (List.nodup_iff_pairwise_ne.1 HND.out) m j hml hjl hmj e.symm
          have KS := samePath_any wr aP a2 nP n2 _ _ (HPj.out wr HBq.out) d4 (by have := chk_len (HCK.out _ (List.getElem_mem hjl)); omega) (by have := chk_len (HCK.out _ (List.getElem_mem hml)); omega)
          rw [decide_eq_false hne] at KS
          have HKS := hide KS
          have i2 : (m : Int) < (j : Int) := by omega
          clear KS hne d1 d2 d3 d4
          generalize (allV f t)[m] = pm at *
          go_wp2_with fail
          refine (unhide HKS).mono ?_
          rintro _ w8 ⟨rfl, b8⟩
          have HB8 := hide (HBq.out.trans (b8.mono HBq.out.size))
          clear HKS b8 HBq d0
          go_wp2
          go_roundw
          case rel => exact ⟨m + 1, by go_num, hmj, HB8⟩
          case measure => simp only [intOf]; omega
         ·have i2 : ¬ (m : Int) < (j : Int) := by omega
          go_wp2
          go_roundw
          case rel => exact ⟨j + 1, by go_num, hjN, sv + (L'.length + E'.length), by go_num, HS2, hsv2, HBq⟩
          case measure => simp only [intOf]; omega
     ·cases hyy
    ·have hjN2 : j = N := by omega
     have HSF : Hid (sv + 1 = N) := hide (by
      have h1 := HSV.out
      have h2 := HSM.out
      rw [hjN2, ← hlen, List.take_length] at h1
      omega)
     have bwr := B4.out.trans (HBW.out.mono B4.out.size)
     have K5 := hide (KN.out wr bwr)
     obtain ⟨c0, c1, c2, c3, c4, c5⟩ := HC.out wr bwr
     have BW := hide bwr
     have i1 : ¬ (j : Int) < (N : Int) := by omega
     have i2 : ((sv : Int) == (N : Int) - 1) = true := by have := HSF.out; rw [beq_iff_eq]; omega
     have i3 : (sv : Int) = (N : Int) - 1 := by have := HSF.out; omega
     have i4 : 0 < N := H0.out.2
     clear HSV bwr HROW hjN2
     go_wp2_with fail
     refine (unhide K5).mono ?_
     rintro _ w5 ⟨rfl, b5⟩
     have hb := hide (B0.out.trans ((BW.out.trans (b5.mono BW.out.size)).mono B0.out.size))
     clear K5 b5 BW HBW c0 c1 c2 c3 c4 c5
     go_wp2
     go_ret
     exact ⟨by simp, hb.out⟩
 ·have n2 : (faultV oneV t != 0) = true := bne_iff_ne.2 hg
  have hb := hide (B0.out.trans (B2.out.mono B0.out.size))
  clear KN HC HL HT B2
  generalize faultV oneV t = er at *
  go_wp2
  go_ret
  exact ⟨rfl, hb.out⟩
theorem lawPathAllV (f : Nat) (W : World) (t : V) (a0 a1 a2 a3 a4 a5 : Value) (hl : LiesV (fun q => q < W.heap.size) f W [a0, a1, a2, a3, a4, a5] t) (hn : nodesV f t ≤ 1048576) (hT : PTabs W) :
  Calls Tryd.prog 4 #[.agg #[a0, a1, a2, a3, a4, a5]] W fun e W' => e = .returned (.bool true) ∧ Below W.heap.size W W' := by
 obtain ⟨k, n, b, s, pL, nL, cL, pE, nE, cE, rfl, rfl, rfl, rfl, rfl, rfl⟩ := hl.form
 exact lawPathAll f W t _ _ _ _ _ _ _ _ _ _ hl hn hT
end Go.Proofs.YtadaehaemmelfaaDoor.paths
