/- Of our texts, what this claim reaches. -/
import Derived.Test.YtadaehaemmelfaaDoorPabAR
import Derived.Test.YtadaehaemmelfaaDoorPabAN
import Derived.Test.YtadaehaemmelfaaDoorPabAT
import Derived.WalkKit
set_option linter.unusedVariables false
set_option maxHeartbeats 8000000
set_option maxRecDepth 100000
namespace Go.Proofs.YtadaehaemmelfaaDoor.paths
open Go.RowKit
open utfs (hide unhide)
open valus (V opn opnE ent mkV idx parts sumOf nodesV LiesV RowIn Blk blk_alloc put6 put6_blk below_put6)
structure PAt (ok : Nat → Prop) (M : Nat) (w : World) (B o : Nat) (t : V) : Prop where
 ex : ∃ (f : Nat) (x0 x1 x2 x3 x4 x5 : Value), LiesV ok f w [x0, x1, x2, x3, x4, x5] t ∧ nodesV f t ≤ M ∧ w.cell? ⟨B, o, none⟩ = some x0 ∧ w.cell? ⟨B, o + 1, none⟩ = some x1 ∧ w.cell? ⟨B, o + 2, none⟩ = some x2 ∧ w.cell? ⟨B, o + 3, none⟩ = some x3 ∧ w.cell? ⟨B, o + 4, none⟩ = some x4 ∧ w.cell? ⟨B, o + 5, none⟩ = some x5
 lt : ok B
theorem PAt.below {N M B o : Nat} {w w' : World} {t : V} (h : PAt (fun q => q < N) M w B o t) (hb : Below N w w') (hN : N ≤ w.heap.size) : PAt (fun q => q < N) M w' B o t := by
 obtain ⟨f, x0, x1, x2, x3, x4, x5, hl, hn, c0, c1, c2, c3, c4, c5⟩ := h.ex
 have hB := h.lt
 exact ⟨⟨f, x0, x1, x2, x3, x4, x5, hl.kept (fun _ h => h) hb.size (fun b hb1 _ => hb.block b hb1), hn, (hb.cell (p := ⟨B, o, none⟩) hB).trans c0, (hb.cell (p := ⟨B, o + 1, none⟩) hB).trans c1, (hb.cell (p := ⟨B, o + 2, none⟩) hB).trans c2, (hb.cell (p := ⟨B, o + 3, none⟩) hB).trans c3, (hb.cell (p := ⟨B, o + 4, none⟩) hB).trans c4, (hb.cell (p := ⟨B, o + 5, none⟩) hB).trans c5⟩, h.lt⟩
abbrev PartW (ok : Nat → Prop) (M : Nat) (x : V ⊕ Int) (w : World) (e : Ending) (w' : World) : Prop :=
 ((∃ y B o, x = .inl y ∧ e = .returned (.tuple #[.pointer (some ⟨B, o, none⟩), .int .i64 0]) ∧ PAt ok M w' B o y) ∨ ∃ er, x = .inr er ∧ er ≠ 0 ∧ e = .returned (.tuple #[.pointer none, .int .i64 er])) ∧ Below w.heap.size w w'
theorem elementAt_any (N M : Nat) (w : World) (hN : N ≤ w.heap.size) (B o : Nat) (t : V) (h : PAt (fun q => q < N) M w B o t) (i : Int) (h0 : 0 ≤ i) (key : List UInt8) :
  Calls Tryd.prog 46 #[.pointer (some ⟨B, o, none⟩), .int .i64 i] w (PartW (fun q => q < N) M (partV t (key, i)) w) := by
 obtain ⟨f, x0, x1, x2, x3, x4, x5, hl, hn, c0, c1, c2, c3, c4, c5⟩ := h.ex
 cases f with
 | zero => exact hl.elim
 | succ f =>
  obtain ⟨k, n, b, s, L, E, pL, pE, cL, cE, rfl, hx, ⟨h3, _⟩, ⟨hL1, hL2, hE1, hE2⟩, rL, rE⟩ := hl
  simp only [List.cons.injEq, and_true] at hx
  obtain ⟨rfl, rfl, rfl, rfl, rfl, rfl⟩ := hx
  have hpv : partV (mkV (k, n, b, s.data.toList) L E) (key, i) = if k ≠ 5 then .inr 10 else if (L.length : Int) ≤ i then .inr 8 else .inl (L.getD i.toNat .nil) := by
   unfold partV
   rw [if_neg (by dsimp only; omega)]
   rfl
  clear h
  by_cases hk : k = 5
  ·subst hk
   rw [if_neg (by simp)] at hpv
   by_cases hi : (L.length : Int) ≤ i
   ·rw [if_pos hi] at hpv
    have HPV := hide hpv
    have hi' : i ≥ (L.length : Int) := hi
    clear hpv rL rE hn
    go_enter Tryd.func46, Tryd.ntmps46
    go_wp2
    go_ret2
    exact ⟨.inr ⟨8, HPV.out, by omega, rfl⟩, Below.refl _ _⟩
   ·rw [if_neg hi] at hpv
    obtain ⟨j, rfl⟩ : ∃ j : Nat, i = j := ⟨i.toNat, by omega⟩
    have hj : j < L.length := by omega
    obtain ⟨B2, o2, rfl, ok2, hB2, y0, y1, y2, y3, y4, y5, ⟨y, hy, hly⟩, d0, d1, d2, d3, d4, d5⟩ := rL.six hj
    have hget : L.getD (j : Int).toNat .nil = y := by rw [Int.toNat_natCast, List.getD_eq_getElem?_getD, hy]; rfl
    rw [hget] at hpv
    have hmem : y ∈ parts (mkV (5, n, b, s.data.toList) L E) := by rw [valus.parts_mk]; exact List.mem_append_left _ (List.mem_of_getElem? hy)
    have hle : nodesV f y ≤ M := by
     have h1 : nodesV (f + 1) (mkV (5, n, b, s.data.toList) L E) = sumOf (nodesV f) (parts (mkV (5, n, b, s.data.toList) L E)) + 1 := rfl
     have h2 := valus.le_sumOf (q := nodesV f) hmem
     omega
    have HF := hide (And.intro hpv (PAt.mk (ok := fun q => q < N) (M := M) (w := w) (B := B2) (o := o2 + j * 6) (t := y) ⟨f, y0, y1, y2, y3, y4, y5, hly, hle, d0, d1, d2, d3, d4, d5⟩ ok2))
    have i1 : (j : Int) < (L.length : Int) := by omega
    have i2 : (0 : Int) ≤ (j : Int) := by omega
    clear hpv rE hn hget hmem hle hy hly rL d0 d1 d2 d3 d4 d5 ok2
    go_enter Tryd.func46, Tryd.ntmps46
    go_wp2
    go_ret2
    exact ⟨.inl ⟨y, B2, o2 + j * 6, HF.out.1, rfl, HF.out.2⟩, Below.refl _ _⟩
  ·rw [if_pos hk] at hpv
   have HPV := hide hpv
   have hk' : (k != 5) = true := bne_iff_ne.2 hk
   clear hpv rL rE hn
   go_enter Tryd.func46, Tryd.ntmps46
   go_wp2
   go_ret2
   exact ⟨.inr ⟨10, HPV.out, by omega, rfl⟩, Below.refl _ _⟩
theorem entryAtP_any (N M : Nat) (w : World) (hN : N ≤ w.heap.size) (B o : Nat) (t : V) (h : PAt (fun q => q < N) M w B o t) (key : ByteArray) :
  Calls Tryd.prog 45 #[.pointer (some ⟨B, o, none⟩), .string key] w (PartW (fun q => q < N) M (partV t (key.data.toList, -1)) w) := by
 obtain ⟨f, x0, x1, x2, x3, x4, x5, hl, hn, c0, c1, c2, c3, c4, c5⟩ := h.ex
 have hBN : B < N := h.lt
 cases f with
 | zero => exact hl.elim
 | succ f =>
  obtain ⟨k, n, b, s, L, E, pL, pE, cL, cE, rfl, hx, ⟨h3, _⟩, ⟨hL1, hL2, hE1, hE2⟩, rL, rE⟩ := hl
  simp only [List.cons.injEq, and_true] at hx
  obtain ⟨rfl, rfl, rfl, rfl, rfl, rfl⟩ := hx
  have hpv : partV (mkV (k, n, b, s.data.toList) L E) (key.data.toList, -1) = if k ≠ 6 then .inr 10 else if idx (fun q => decide (q = key.data.toList)) 0 E < 0 then .inr 8 else .inl (opnE (E.getD (idx (fun q => decide (q = key.data.toList)) 0 E).toNat .nil)).2 := by
   unfold partV
   rw [if_pos rfl]
   rfl
  clear h
  by_cases hk : k = 6
  ·subst hk
   rw [if_neg (by simp)] at hpv
   have KF := hide (valus.find_any (fun q => q < N) f w E pE cE key rE hE1 hE2)
   have hix := idx_lt (fun q => decide (q = key.data.toList)) E 0
   generalize idx (fun q => decide (q = key.data.toList)) 0 E = ix at *
   by_cases hi : ix < 0
   ·rw [if_pos hi] at hpv
    have HPV := hide hpv
    clear hpv rL rE hn hix
    go_enter Tryd.func45, Tryd.ntmps45
    go_wp2_with fail
    refine (unhide KF).mono ?_
    rintro _ w1 ⟨rfl, b1⟩
    have B1 := hide b1
    clear KF b1
    go_wp2
    go_ret2
    exact ⟨.inr ⟨8, HPV.out, by omega, rfl⟩, B1.out⟩
   ·rw [if_neg hi] at hpv
    obtain ⟨j, rfl⟩ : ∃ j : Nat, ix = j := ⟨ix.toNat, by omega⟩
    have hj : j < E.length := by omega
    obtain ⟨B2, o2, rfl, ok2, hB2, y0, y1, y2, y3, y4, y5, y6, ⟨kk, y, xs, hy, hus, hks, hly⟩, d0, d1, d2, d3, d4, d5, d6⟩ := rE.seven hj
    injection hus with hu0 hu1
    subst hu1
    have hget : (opnE (E.getD (j : Int).toNat .nil)).2 = y := by rw [Int.toNat_natCast, List.getD_eq_getElem?_getD, hy]; rfl
    rw [hget] at hpv
    have hmem : y ∈ parts (mkV (6, n, b, s.data.toList) L E) := by
     rw [valus.parts_mk]
     exact List.mem_append_right _ (List.mem_map.2 ⟨_, List.mem_of_getElem? hy, rfl⟩)
    have hle : nodesV f y ≤ M := by
     have h1 : nodesV (f + 1) (mkV (6, n, b, s.data.toList) L E) = sumOf (nodesV f) (parts (mkV (6, n, b, s.data.toList) L E)) + 1 := rfl
     have h2 := valus.le_sumOf (q := nodesV f) hmem
     omega
    have HF := hide (And.intro hpv (PAt.mk (ok := fun q => q < N) (M := M) (w := w) (B := B2) (o := o2 + j * 7 + 1) (t := y) ⟨f, y1, y2, y3, y4, y5, y6, hly, hle, d1, d2, d3, d4, d5, d6⟩ ok2))
    have i1 : (j : Int) < (E.length : Int) := by omega
    have i2 : (0 : Int) ≤ (j : Int) := by omega
    clear hpv hn hget hmem hle hy hly rE rL d0 d1 d2 d3 d4 d5 d6 ok2 hix hu0
    go_enter Tryd.func45, Tryd.ntmps45
    go_wp2_with fail
    refine (unhide KF).mono ?_
    rintro _ w1 ⟨rfl, b1⟩
    have q5 := (b1.cell (p := ⟨B, o + 5, none⟩) (show B < w.heap.size by omega)).trans c5
    have B1 := hide b1
    clear KF b1 c0 c1 c2 c3 c4 c5
    go_wp2
    go_ret2
    exact ⟨.inl ⟨y, B2, o2 + j * 7 + 1, HF.out.1, rfl, HF.out.2.below (B1.out.mono hN) hN⟩, B1.out⟩
  ·rw [if_pos hk] at hpv
   have HPV := hide hpv
   have hk' : (k != 6) = true := bne_iff_ne.2 hk
   clear hpv rL rE hn
   go_enter Tryd.func45, Tryd.ntmps45
   go_wp2
   go_ret2
   exact ⟨.inr ⟨10, HPV.out, by omega, rfl⟩, Below.refl _ _⟩
theorem partAt_any (N M : Nat) (w : World) (hN : N ≤ w.heap.size) (B o : Nat) (t : V) (h : PAt (fun q => q < N) M w B o t) (key : ByteArray) (i : Int) (hi : -1 ≤ i) :
  Calls Tryd.prog 28 #[.pointer (some ⟨B, o, none⟩), .agg #[.string key, .int .i64 i]] w (PartW (fun q => q < N) M (partV t (key.data.toList, i)) w) := by
 have b0 : Below w.heap.size w (w.alloc (.cells #[.string key, .int .i64 i] 60)) := (Below.refl _ w).alloc (Nat.le_refl _) _
 have h1 := h.below (b0.mono hN) hN
 have hN1 : N ≤ (w.alloc (.cells #[.string key, .int .i64 i] 60)).heap.size := by simp; omega
 have B0 := hide b0
 by_cases e : i = -1
 ·subst e
  have K := hide (entryAtP_any N M _ hN1 B o t h1 key)
  clear h h1 b0 hN1
  generalize partV t (key.data.toList, -1) = X at *
  go_enter Tryd.func28, Tryd.ntmps28
  go_wp2_with fail
  refine (unhide K).mono ?_
  rintro _ w1 ⟨h1, b1⟩
  have B1 := hide (B0.out.trans (b1.mono B0.out.size))
  clear K b1 B0
  rcases h1 with ⟨y, B', o', rfl, rfl, hp⟩ | ⟨er, rfl, hne, rfl⟩
  ·have HPP := hide hp
   clear hp
   go_wp2
   go_ret2
   exact ⟨.inl ⟨y, B', o', rfl, rfl, HPP.out⟩, B1.out⟩
  ·go_wp2
   go_ret2
   exact ⟨.inr ⟨er, rfl, hne, rfl⟩, B1.out⟩
 ·have K := hide (elementAt_any N M _ hN1 B o t h1 i (by omega) key.data.toList)
  have e1 : (i == -1) = false := beq_false_of_ne e
  clear h h1 b0 hN1
  generalize partV t (key.data.toList, i) = X at *
  go_enter Tryd.func28, Tryd.ntmps28
  go_wp2_with fail
  refine (unhide K).mono ?_
  rintro _ w1 ⟨h1, b1⟩
  have B1 := hide (B0.out.trans (b1.mono B0.out.size))
  clear K b1 B0
  rcases h1 with ⟨y, B', o', rfl, rfl, hp⟩ | ⟨er, rfl, hne, rfl⟩
  ·have HPP := hide hp
   clear hp
   go_wp2
   go_ret2
   exact ⟨.inl ⟨y, B', o', rfl, rfl, HPP.out⟩, B1.out⟩
  ·go_wp2
   go_ret2
   exact ⟨.inr ⟨er, rfl, hne, rfl⟩, B1.out⟩
theorem results_get {w : World} {B : Nat} {u0 u1 u2 u3 u4 u5 y : Value} (tmps : Array Value) (h : Blk w B #[u0, u1, u2, u3, u4, u5] 26) (ht : tmps[4]? = some (.pointer (some ⟨B, 0, none⟩)) := by rfl) (hy : tmps[5]? = some y := by rfl) : (results Tryd.f8 tmps).run Tryd.prog w = .ok (.tuple #[.agg #[u0, u1, u2, u3, u4, u5], y]) w := by
 obtain ⟨c0, c1, c2, c3, c4, c5⟩ := h.cells6
 simp [results, Tryd.f8, ht, hy, go_sem, c0, c1, c2, c3, c4, c5]
def leadP (t : V) (P : List St) : V ⊕ Int := if chkP P = 0 then leadV t P else .inr (chkP P)
abbrev GetW (M : Nat) (x : V ⊕ Int) (w : World) (e : Ending) (w' : World) : Prop :=
 ((∃ (y : V) (f : Nat) (x0 x1 x2 x3 x4 x5 : Value), x = .inl y ∧ e = .returned (.tuple #[.agg #[x0, x1, x2, x3, x4, x5], .int .i64 0]) ∧ LiesV (fun q => q < w'.heap.size) f w' [x0, x1, x2, x3, x4, x5] y ∧ nodesV f y ≤ M) ∨ ∃ er, x = .inr er ∧ er ≠ 0 ∧ e = .returned (.tuple #[.agg #[.int .i64 0, .int .i64 0, .int .u64 0, .string ⟨#[]⟩, .slice none 0 0, .slice none 0 0], .int .i64 er])) ∧ Below w.heap.size w w'
theorem get_any (M : Nat) (hM : M ≤ 10000000) (w : World) (f : Nat) (t : V) (a0 a1 a2 a3 a4 a5 : Value) (hl : LiesV (fun q => q < w.heap.size) f w [a0, a1, a2, a3, a4, a5] t) (hn : nodesV f t ≤ M) (p : Option Addr) (c : Nat) (P : List St) (hP : LiesP w p P) (hPl : P.length ≤ 9223372036854775807) (hT : Utf8W w) :
  Calls Tryd.prog 8 #[.agg #[a0, a1, a2, a3, a4, a5], .slice p P.length c] w (GetW M (leadP t P) w) := by
 obtain ⟨k, n, b, s, pL, nL, cL, pE, nE, cE, rfl, rfl, rfl, rfl, rfl, rfl⟩ := hl.form
 obtain ⟨W0, hW0⟩ : ∃ W0, W0 = (w.alloc (.cells #[.int .i64 k, .int .i64 n, .int .u64 (b : Int), .string s, .slice pL nL cL, .slice pE nE cE] 26)).alloc (.cells #[.int .i64 0, .int .i64 0, .int .u64 0, .string ⟨#[]⟩, .slice none 0 0, .slice none 0 0] 26) := ⟨_, rfl⟩
 have bA : Below w.heap.size w (w.alloc (.cells #[.int .i64 k, .int .i64 n, .int .u64 (b : Int), .string s, .slice pL nL cL, .slice pE nE cE] 26)) := (Below.refl _ w).alloc (Nat.le_refl _) _
 have b0 : Below w.heap.size w W0 := by rw [hW0]; exact bA.alloc bA.size _
 have s0 : W0.heap.size = w.heap.size + 2 := by rw [hW0]; simp
 have hbox : Blk W0 w.heap.size #[.int .i64 k, .int .i64 n, .int .u64 (b : Int), .string s, .slice pL nL cL, .slice pE nE cE] 26 := by rw [hW0]; exact (blk_alloc w _ _).alloc _
 have hres : Blk W0 (w.heap.size + 1) #[.int .i64 0, .int .i64 0, .int .u64 0, .string ⟨#[]⟩, .slice none 0 0, .slice none 0 0] 26 := by
  rw [hW0]
  have h := blk_alloc (w.alloc (.cells #[.int .i64 k, .int .i64 n, .int .u64 (b : Int), .string s, .slice pL nL cL, .slice pE nE cE] 26)) #[.int .i64 0, .int .i64 0, .int .u64 0, .string ⟨#[]⟩, .slice none 0 0, .slice none 0 0] 26
  have e : (w.alloc (.cells #[.int .i64 k, .int .i64 n, .int .u64 (b : Int), .string s, .slice pL nL cL, .slice pE nE cE] 26)).heap.size = w.heap.size + 1 := by simp
  rw [e] at h
  exact h
 have hl0 : LiesV (fun q => q < w.heap.size + 1) f W0 [.int .i64 k, .int .i64 n, .int .u64 (b : Int), .string s, .slice pL nL cL, .slice pE nE cE] t := hl.kept (fun q h => by omega) b0.size (fun q h _ => b0.block q h)
 have hp0 : PAt (fun q => q < w.heap.size + 1) M W0 w.heap.size 0 t := by
  obtain ⟨c0, c1, c2, c3, c4, c5⟩ := hbox.cells6
  exact ⟨⟨f, _, _, _, _, _, _, hl0, hn, c0, c1, c2, c3, c4, c5⟩, by omega⟩
 have KC := hide (check_any W0 p c P (hP.keep b0) hPl (Utf8Tabs_below hT b0))
 have HP0 := hide (hP.keep b0)
 have HPA := hide hp0
 have HRES := hide hres
 have HB0 := hide b0
 have hPB : ∀ B o, p = some ⟨B, o, none⟩ → P.length ≠ 0 → B < W0.heap.size := fun B o e hn => by
  obtain ⟨B', o', e', hB, _⟩ := HP0.out hn
  rw [e'] at e
  injection e with e
  injection e with e
  omega
 have HPB := hide hPB
 by_cases hc : chkP P = 0
 ·have hLP : leadP t P = leadV t P := by unfold leadP; rw [if_pos hc]
  rw [hLP]
  have hall := (chkP_parts hc).2
  have HALL := hide hall
  rw [hc] at KC
  clear hLP hc hall bA b0 hbox hres hl0 hp0 hl hn hP hT hPB
  go_enter Tryd.func8, Tryd.ntmps8
  go_wp2_with (go_at_call 27; rw [← hW0]; refine (unhide KC).mono ?_; rintro _ w1 ⟨rfl, b1⟩)
  have B1 := hide b1
  clear KC b1
  go_loopw [7, 20] (fun h i wr => ∃ (j B o : Nat) (y : V), i = .int .i64 j ∧ j ≤ P.length ∧ h = .pointer (some ⟨B, o, none⟩) ∧ Hid (PAt (fun q => q < w.heap.size + 1) M wr B o y) ∧ Hid (leadV y (P.drop j) = leadV t P) ∧ Below W0.heap.size W0 wr) (fun _ i _ => P.length - (intOf i).toNat)
  case atStart => exact ⟨0, w.heap.size, 0, t, rfl, Nat.zero_le _, rfl, hide (HPA.out.below (B1.out.mono (by omega)) (by omega)), hide rfl, B1.out⟩
  case round =>
   obtain ⟨j, B, o, y, rfl, hj, rfl, HPY, HLD, hbw⟩ := hrel
   have hwrs : W0.heap.size ≤ wr.heap.size := hbw.size
   by_cases hlt : j < P.length
   ·obtain ⟨Bp, op, key, rfl, hBp, hk1, hk2, hk3, c0, c1⟩ := HP0.out.at hlt
    have q0 := (hbw.cell (p := ⟨Bp, op + j * 2, none⟩) hBp).trans c0
    have q1 := (hbw.cell (p := ⟨Bp, op + j * 2 + 1, none⟩) hBp).trans c1
    have hi1 := (chkS_parts (HALL.out _ (List.getElem_mem hlt))).1
    have bS : Below wr.heap.size wr (wr.alloc (.cells #[.string key, .int .i64 (P[j]).2] 60)) := (Below.refl _ wr).alloc (Nat.le_refl _) _
    have hpS := HPY.out.below (bS.mono (by omega)) (by omega)
    have KP := hide (partAt_any (w.heap.size + 1) M (wr.alloc (.cells #[.string key, .int .i64 (P[j]).2] 60)) (by simp; omega) B o y hpS key (P[j]).2 hi1)
    rw [hk1] at KP
    have hLD := HLD.out
    rw [List.drop_eq_getElem_cons hlt] at hLD
    have hstep : leadV y (P[j] :: P.drop (j + 1)) = (match partV y ((P[j]).1, (P[j]).2) with | .inl z => leadV z (P.drop (j + 1)) | .inr e => .inr e) := rfl
    rw [hstep] at hLD
    have HLD2 := hide hLD
    have HBS := hide (hbw.trans (bS.mono hwrs))
    clear hstep hLD HLD hk1 hk2 hk3 c0 c1 hpS bS hi1 HPY
    generalize partV y ((P[j]).1, (P[j]).2) = X at *
    generalize (P[j]).2 = xi at *
    go_wp2_with fail
    refine (unhide KP).mono ?_
    rintro _ w2 ⟨h2, b2⟩
    have B2 := hide (HBS.out.trans (b2.mono HBS.out.size))
    clear KP b2 HBS
    rcases h2 with ⟨z, B', o', rfl, rfl, hpz⟩ | ⟨er, rfl, hne, rfl⟩
    ·have HPZ := hide hpz
     clear hpz
     go_wp2
     go_roundw
     case rel => exact ⟨j + 1, B', o', z, by go_num, by omega, rfl, HPZ, HLD2, B2.out⟩
     case measure => simp only [intOf]; omega
    ·have hne2 : (er != 0) = true := bne_iff_ne.2 hne
     have hr := HRES.out.below B2.out
     have hbz := HB0.out.trans (B2.out.mono (by omega))
     have x0 := hr.cell 0 _ rfl
     have x1 := hr.cell 1 _ rfl
     have x2 := hr.cell 2 _ rfl
     have x3 := hr.cell 3 _ rfl
     have x4 := hr.cell 4 _ rfl
     have x5 := hr.cell 5 _ rfl
     simp only [List.getElem_toArray, List.getElem_cons_zero, List.getElem_cons_succ] at x0 x1 x2 x3 x4 x5
     have z0 := Blk.froz hr 0
     have z1 := Blk.froz hr 1
     have z2 := Blk.froz hr 2
     have z3 := Blk.froz hr 3
     have z4 := Blk.froz hr 4
     have z5 := Blk.froz hr 5
     have HY := hide (put6_blk hr (.int .i64 0) (.int .i64 0) (.int .u64 0) (.string ⟨#[]⟩) (.slice none 0 0) (.slice none 0 0))
     have HF := hide (below_put6 hbz (b := w.heap.size + 1) (by omega) (.int .i64 0) (.int .i64 0) (.int .u64 0) (.string ⟨#[]⟩) (.slice none 0 0) (.slice none 0 0))
     go_wp2
     obtain ⟨Y, hYe⟩ : ∃ Y, Y = put6 w2 (w.heap.size + 1) (.int .i64 0) (.int .i64 0) (.int .u64 0) (.string ⟨#[]⟩) (.slice none 0 0) (.slice none 0 0) := ⟨_, rfl⟩
     rw [← hYe] at HY HF
     simp only [put6] at hYe
     rw [← hYe]
     clear hYe x0 x1 x2 x3 x4 x5 z0 z1 z2 z3 z4 z5
     refine bodyPost_ret (results_get _ HY.out) rfl ?_
     rw [← HLD2.out]
     exact ⟨.inr ⟨er, rfl, hne, rfl⟩, HF.out⟩
   ·obtain rfl : j = P.length := by omega
    have g0 : ¬ (P.length : Int) < (P.length : Int) := by omega
    obtain ⟨f', y0, y1, y2, y3, y4, y5, hly, hny, c0, c1, c2, c3, c4, c5⟩ := HPY.out.ex
    have KCP := hide (callsIn_wide.1 (valus.copy_any (fun q => q < w.heap.size + 1) f' wr y y0 y1 y2 y3 y4 y5 (fun q h => by omega) hly (by omega)))
    have HLD2 : Hid (leadV t P = .inl y) := hide (by rw [← HLD.out, List.drop_of_length_le (Nat.le_refl _)]; rfl)
    clear HLD HPY hly
    go_upto_region 13 with fail
    go_wp2_with fail
    refine (unhide KCP).mono ?_
    rintro _ w2 ⟨⟨v0, v1, v2, v3, v4, v5, rfl, hlv⟩, b2⟩
    have hr := HRES.out.below (hbw.trans (b2.mono hwrs))
    have hbz := HB0.out.trans ((hbw.trans (b2.mono hwrs)).mono (by omega))
    have x0 := hr.cell 0 _ rfl
    have x1 := hr.cell 1 _ rfl
    have x2 := hr.cell 2 _ rfl
    have x3 := hr.cell 3 _ rfl
    have x4 := hr.cell 4 _ rfl
    have x5 := hr.cell 5 _ rfl
    simp only [List.getElem_toArray, List.getElem_cons_zero, List.getElem_cons_succ] at x0 x1 x2 x3 x4 x5
    have z0 := Blk.froz hr 0
    have z1 := Blk.froz hr 1
    have z2 := Blk.froz hr 2
    have z3 := Blk.froz hr 3
    have z4 := Blk.froz hr 4
    have z5 := Blk.froz hr 5
    have HY := hide (put6_blk hr v0 v1 v2 v3 v4 v5)
    have HF := hide (below_put6 hbz (b := w.heap.size + 1) (by omega) v0 v1 v2 v3 v4 v5)
    have hlv2 : LiesV (fun q => q < (put6 w2 (w.heap.size + 1) v0 v1 v2 v3 v4 v5).heap.size) f' (put6 w2 (w.heap.size + 1) v0 v1 v2 v3 v4 v5) [v0, v1, v2, v3, v4, v5] y := by
     have hb2 := b2.size
     refine hlv.kept (fun q h => ?_) (by rw [valus.put6_size]; exact Nat.le_refl _) (fun q h hq => ?_)
     ·rw [valus.put6_size]
      rcases h with h | h <;> omega
     ·have hne : q ≠ w.heap.size + 1 := by rcases h with h | h <;> omega
      simp only [put6]
      rw [Below.heap_setCell _ _ _ _ hne, Below.heap_setCell _ _ _ _ hne, Below.heap_setCell _ _ _ _ hne, Below.heap_setCell _ _ _ _ hne, Below.heap_setCell _ _ _ _ hne, Below.heap_setCell _ _ _ _ hne]
    have HLV := hide (And.intro hlv2 hny)
    clear hr hbz b2 hlv hlv2 KCP hny
    obtain ⟨gk, gn, gb, gs, gpL, gnL, gcL, gpE, gnE, gcE, rfl, rfl, rfl, rfl, rfl, rfl⟩ := HLV.out.1.form
    go_wp2
    obtain ⟨Y, hYe⟩ : ∃ Y, Y = put6 w2 (w.heap.size + 1) (.int .i64 gk) (.int .i64 gn) (.int .u64 (gb : Int)) (.string gs) (.slice gpL gnL gcL) (.slice gpE gnE gcE) := ⟨_, rfl⟩
    rw [← hYe] at HY HF HLV
    simp only [put6] at hYe
    rw [← hYe]
    clear hYe x0 x1 x2 x3 x4 x5 z0 z1 z2 z3 z4 z5
    refine bodyPost_ret (results_get _ HY.out) rfl ?_
    rw [HLD2.out]
    exact ⟨.inl ⟨y, f', _, _, _, _, _, _, rfl, rfl, HLV.out.1, HLV.out.2⟩, HF.out⟩
 ·have hLP : leadP t P = .inr (chkP P) := by unfold leadP; rw [if_neg hc]
  rw [hLP]
  have hne2 : (chkP P != 0) = true := bne_iff_ne.2 hc
  have HNE := hide hc
  clear hLP hc bA b0 hbox hres hl0 hp0 hl hn hP hT hPB HPA HPB HP0
  generalize chkP P = ce at *
  go_enter Tryd.func8, Tryd.ntmps8
  go_wp2_with fail
  rw [← hW0]
  refine (unhide KC).mono ?_
  rintro _ w1 ⟨rfl, b1⟩
  have hr := HRES.out.below b1
  have hbz := HB0.out.trans (b1.mono (by omega))
  clear KC b1
  have x0 := hr.cell 0 _ rfl
  have x1 := hr.cell 1 _ rfl
  have x2 := hr.cell 2 _ rfl
  have x3 := hr.cell 3 _ rfl
  have x4 := hr.cell 4 _ rfl
  have x5 := hr.cell 5 _ rfl
  simp only [List.getElem_toArray, List.getElem_cons_zero, List.getElem_cons_succ] at x0 x1 x2 x3 x4 x5
  have z0 := Blk.froz hr 0
  have z1 := Blk.froz hr 1
  have z2 := Blk.froz hr 2
  have z3 := Blk.froz hr 3
  have z4 := Blk.froz hr 4
  have z5 := Blk.froz hr 5
  have HY := hide (put6_blk hr (.int .i64 0) (.int .i64 0) (.int .u64 0) (.string ⟨#[]⟩) (.slice none 0 0) (.slice none 0 0))
  have HF := hide (below_put6 hbz (b := w.heap.size + 1) (by omega) (.int .i64 0) (.int .i64 0) (.int .u64 0) (.string ⟨#[]⟩) (.slice none 0 0) (.slice none 0 0))
  go_wp2
  obtain ⟨Y, hYe⟩ : ∃ Y, Y = put6 w1 (w.heap.size + 1) (.int .i64 0) (.int .i64 0) (.int .u64 0) (.string ⟨#[]⟩) (.slice none 0 0) (.slice none 0 0) := ⟨_, rfl⟩
  rw [← hYe] at HY HF
  simp only [put6] at hYe
  rw [← hYe]
  clear hYe x0 x1 x2 x3 x4 x5 z0 z1 z2 z3 z4 z5
  refine bodyPost_ret (results_get _ HY.out) rfl ?_
  exact ⟨.inr ⟨ce, rfl, HNE.out, rfl⟩, HF.out⟩
end Go.Proofs.YtadaehaemmelfaaDoor.paths
namespace Go.Proofs.YtadaehaemmelfaaDoor.paths
open Go.RowKit
open utfs (hide unhide)
open valus (V opn opnE ent mkV idx parts sumOf nodesV LiesV RowIn Blk blk_alloc put6 put6_blk below_put6)
theorem results_partOf {w : World} {B : Nat} {u0 u1 u2 u3 u4 u5 y : Value} (tmps : Array Value) (h : Blk w B #[u0, u1, u2, u3, u4, u5] 26) (ht : tmps[4]? = some (.pointer (some ⟨B, 0, none⟩)) := by rfl) (hy : tmps[5]? = some y := by rfl) : (results Tryd.f35 tmps).run Tryd.prog w = .ok (.tuple #[.agg #[u0, u1, u2, u3, u4, u5], y]) w := by
 obtain ⟨c0, c1, c2, c3, c4, c5⟩ := h.cells6
 simp [results, Tryd.f35, ht, hy, go_sem, c0, c1, c2, c3, c4, c5]
theorem lies_put6 {N f B : Nat} {w : World} {us : List Value} {t : V} (h : LiesV (fun q => q < N) f w us t) (hB : N ≤ B) (v0 v1 v2 v3 v4 v5 : Value) : LiesV (fun q => q < N) f (put6 w B v0 v1 v2 v3 v4 v5) us t := by
 refine h.kept (fun q h => h) (by rw [valus.put6_size]; exact Nat.le_refl _) (fun q hq _ => ?_)
 have hne : q ≠ B := by omega
 simp only [put6]
 rw [Below.heap_setCell _ _ _ _ hne, Below.heap_setCell _ _ _ _ hne, Below.heap_setCell _ _ _ _ hne, Below.heap_setCell _ _ _ _ hne, Below.heap_setCell _ _ _ _ hne, Below.heap_setCell _ _ _ _ hne]
abbrev PartRW (N M : Nat) (x : V ⊕ Int) (w : World) (e : Ending) (w' : World) : Prop :=
 ((∃ (y : V) (f : Nat) (x0 x1 x2 x3 x4 x5 : Value), x = .inl y ∧ e = .returned (.tuple #[.agg #[x0, x1, x2, x3, x4, x5], .int .i64 0]) ∧ LiesV (fun q => q < N) f w' [x0, x1, x2, x3, x4, x5] y ∧ nodesV f y ≤ M) ∨ ∃ er, x = .inr er ∧ er ≠ 0 ∧ e = .returned (.tuple #[.agg #[.int .i64 0, .int .i64 0, .int .u64 0, .string ⟨#[]⟩, .slice none 0 0, .slice none 0 0], .int .i64 er])) ∧ Below w.heap.size w w'
theorem partOf_any (N M : Nat) (w : World) (hN : N ≤ w.heap.size) (f : Nat) (t : V) (a0 a1 a2 a3 a4 a5 : Value) (hl : LiesV (fun q => q < N) f w [a0, a1, a2, a3, a4, a5] t) (hn : nodesV f t ≤ M) (key : ByteArray) (i : Int) (hi : -1 ≤ i) :
  Calls Tryd.prog 35 #[.agg #[a0, a1, a2, a3, a4, a5], .agg #[.string key, .int .i64 i]] w (PartRW N M (partV t (key.data.toList, i)) w) := by
 cases f with
 | zero => exact hl.elim
 | succ f =>
  obtain ⟨k, n, b, s, L, E, pL, pE, cL, cE, rfl, hx, ⟨h3, _⟩, ⟨hL1, hL2, hE1, hE2⟩, rL, rE⟩ := hl
  simp only [List.cons.injEq, and_true] at hx
  obtain ⟨rfl, rfl, rfl, rfl, rfl, rfl⟩ := hx
  obtain ⟨W0, hW0⟩ : ∃ W0, W0 = (((w.alloc (.cells #[.int .i64 k, .int .i64 n, .int .u64 (b : Int), .string s, .slice pL L.length cL, .slice pE E.length cE] 26)).alloc (.cells #[.string key, .int .i64 i] 60)).alloc (.cells #[.int .i64 0, .int .i64 0, .int .u64 0, .string ⟨#[]⟩, .slice none 0 0, .slice none 0 0] 26)).alloc (.cells #[.int .i64 0, .int .i64 0, .int .u64 0, .string ⟨#[]⟩, .slice none 0 0, .slice none 0 0] 26) := ⟨_, rfl⟩
  have bA : Below w.heap.size w (w.alloc (.cells #[.int .i64 k, .int .i64 n, .int .u64 (b : Int), .string s, .slice pL L.length cL, .slice pE E.length cE] 26)) := (Below.refl _ w).alloc (Nat.le_refl _) _
  have bB : Below w.heap.size w ((w.alloc (.cells #[.int .i64 k, .int .i64 n, .int .u64 (b : Int), .string s, .slice pL L.length cL, .slice pE E.length cE] 26)).alloc (.cells #[.string key, .int .i64 i] 60)) := bA.alloc bA.size _
  have bC : Below w.heap.size w (((w.alloc (.cells #[.int .i64 k, .int .i64 n, .int .u64 (b : Int), .string s, .slice pL L.length cL, .slice pE E.length cE] 26)).alloc (.cells #[.string key, .int .i64 i] 60)).alloc (.cells #[.int .i64 0, .int .i64 0, .int .u64 0, .string ⟨#[]⟩, .slice none 0 0, .slice none 0 0] 26)) := bB.alloc bB.size _
  have b0 : Below w.heap.size w W0 := by rw [hW0]; exact bC.alloc bC.size _
  have s0 : W0.heap.size = w.heap.size + 4 := by rw [hW0]; simp
  have k0 : Blk W0 w.heap.size #[.int .i64 k, .int .i64 n, .int .u64 (b : Int), .string s, .slice pL L.length cL, .slice pE E.length cE] 26 := by rw [hW0]; exact (((blk_alloc w _ _).alloc _).alloc _).alloc _
  have k1 : Blk W0 (w.heap.size + 1) #[.string key, .int .i64 i] 60 := by
   rw [hW0]
   have h := blk_alloc (w.alloc (.cells #[.int .i64 k, .int .i64 n, .int .u64 (b : Int), .string s, .slice pL L.length cL, .slice pE E.length cE] 26)) #[.string key, .int .i64 i] 60
   rw [World.size_alloc] at h
   exact (h.alloc _).alloc _
  have k2 : Blk W0 (w.heap.size + 2) #[.int .i64 0, .int .i64 0, .int .u64 0, .string ⟨#[]⟩, .slice none 0 0, .slice none 0 0] 26 := by
   rw [hW0]
   have h := blk_alloc ((w.alloc (.cells #[.int .i64 k, .int .i64 n, .int .u64 (b : Int), .string s, .slice pL L.length cL, .slice pE E.length cE] 26)).alloc (.cells #[.string key, .int .i64 i] 60)) #[.int .i64 0, .int .i64 0, .int .u64 0, .string ⟨#[]⟩, .slice none 0 0, .slice none 0 0] 26
   rw [World.size_alloc, World.size_alloc] at h
   exact h.alloc _
  have k3 : Blk W0 (w.heap.size + 3) #[.int .i64 0, .int .i64 0, .int .u64 0, .string ⟨#[]⟩, .slice none 0 0, .slice none 0 0] 26 := by
   rw [hW0]
   have h := blk_alloc (((w.alloc (.cells #[.int .i64 k, .int .i64 n, .int .u64 (b : Int), .string s, .slice pL L.length cL, .slice pE E.length cE] 26)).alloc (.cells #[.string key, .int .i64 i] 60)).alloc (.cells #[.int .i64 0, .int .i64 0, .int .u64 0, .string ⟨#[]⟩, .slice none 0 0, .slice none 0 0] 26)) #[.int .i64 0, .int .i64 0, .int .u64 0, .string ⟨#[]⟩, .slice none 0 0, .slice none 0 0] 26
   rw [World.size_alloc, World.size_alloc, World.size_alloc] at h
   exact h
  have rL0 : RowIn (fun q => q < N) W0 pL 6 L.length (fun j us => ∃ y, L[j]? = some y ∧ LiesV (fun q => q < N) f W0 us y) := rL.kept (fun _ h => h) b0.size (fun q h _ => b0.block q (by omega)) (fun j us _ ⟨y, h1, h2⟩ => ⟨y, h1, h2.kept (fun _ h => h) b0.size (fun q h _ => b0.block q (by omega))⟩)
  have rE0 : valus.RowN (fun q => q < N) f W0 pE E := rE.kept (fun _ h => h) b0.size (fun q h _ => b0.block q (by omega)) (fun j us _ ⟨kk, y, xs, h1, h2, h3, h4⟩ => ⟨kk, y, xs, h1, h2, h3, h4.kept (fun _ h => h) b0.size (fun q h _ => b0.block q (by omega))⟩)
  have HB0 := hide b0
  clear bA bB bC rL rE b0
  by_cases e : i = -1
  ·subst e
   have hpv : partV (mkV (k, n, b, s.data.toList) L E) (key.data.toList, -1) = if k ≠ 6 then .inr 10 else if idx (fun q => decide (q = key.data.toList)) 0 E < 0 then .inr 8 else .inl (opnE (E.getD (idx (fun q => decide (q = key.data.toList)) 0 E).toNat .nil)).2 := by
    unfold partV
    rw [if_pos rfl]
    rfl
   by_cases hk : k = 6
   ·subst hk
    rw [if_neg (by simp)] at hpv
    have KE := hide (valus.entryAt_any (fun q => q < N) f W0 E pE cE key rE0 hE1 hE2)
    have hix := idx_lt (fun q => decide (q = key.data.toList)) E 0
    generalize idx (fun q => decide (q = key.data.toList)) 0 E = ix at *
    have K0 := hide k0
    have K1 := hide k1
    have K3 := hide k3
    by_cases hi2 : ix < 0
    ·rw [if_pos hi2] at hpv
     have HPV := hide hpv
     have HK := hide (And.intro k0 (And.intro k1 (And.intro k2 k3)))
     clear hpv rL0 rE0 hn hix k0 k1 k2 k3
     go_enter Tryd.func35, Tryd.ntmps35
     go_upto_region 2 with fail
     rw [← hW0]
     clear hW0
     have p0 := K0.out.cell 0 _ rfl
     have p1 := K0.out.cell 1 _ rfl
     have p2 := K0.out.cell 2 _ rfl
     have p3 := K0.out.cell 3 _ rfl
     have p4 := K0.out.cell 4 _ rfl
     have p5 := K0.out.cell 5 _ rfl
     have q0 := K1.out.cell 0 _ rfl
     have q1 := K1.out.cell 1 _ rfl
     have r0 := K3.out.cell 0 _ rfl
     have r1 := K3.out.cell 1 _ rfl
     have r2 := K3.out.cell 2 _ rfl
     have r3 := K3.out.cell 3 _ rfl
     have r4 := K3.out.cell 4 _ rfl
     have r5 := K3.out.cell 5 _ rfl
     simp only [List.getElem_toArray, List.getElem_cons_zero, List.getElem_cons_succ] at p0 p1 p2 p3 p4 p5 q0 q1 r0 r1 r2 r3 r4 r5
     clear K0 K1 K3
     go_wp2_with fail
     refine (unhide KE).mono ?_
     rintro _ w1 ⟨rfl, b1⟩
     have K0 := hide (HK.out.1.below b1)
     have K1 := hide (HK.out.2.1.below b1)
     have K2 := hide (HK.out.2.2.1.below b1)
     have K3 := hide (HK.out.2.2.2.below b1)
     have HB := hide (HB0.out.trans (b1.mono (by omega)))
     clear KE b1 HK HB0 p0 p1 p2 p3 p4 p5 q0 q1 r0 r1 r2 r3 r4 r5
     have p0 := K0.out.cell 0 _ rfl
     have p1 := K0.out.cell 1 _ rfl
     have p2 := K0.out.cell 2 _ rfl
     have p3 := K0.out.cell 3 _ rfl
     have p4 := K0.out.cell 4 _ rfl
     have p5 := K0.out.cell 5 _ rfl
     have q0 := K1.out.cell 0 _ rfl
     have q1 := K1.out.cell 1 _ rfl
     have r0 := K3.out.cell 0 _ rfl
     have r1 := K3.out.cell 1 _ rfl
     have r2 := K3.out.cell 2 _ rfl
     have r3 := K3.out.cell 3 _ rfl
     have r4 := K3.out.cell 4 _ rfl
     have r5 := K3.out.cell 5 _ rfl
     simp only [List.getElem_toArray, List.getElem_cons_zero, List.getElem_cons_succ] at p0 p1 p2 p3 p4 p5 q0 q1 r0 r1 r2 r3 r4 r5
     have x0 := K2.out.cell 0 _ rfl
     have x1 := K2.out.cell 1 _ rfl
     have x2 := K2.out.cell 2 _ rfl
     have x3 := K2.out.cell 3 _ rfl
     have x4 := K2.out.cell 4 _ rfl
     have x5 := K2.out.cell 5 _ rfl
     simp only [List.getElem_toArray, List.getElem_cons_zero, List.getElem_cons_succ] at x0 x1 x2 x3 x4 x5
     have z0 := Blk.froz K2.out 0
     have z1 := Blk.froz K2.out 1
     have z2 := Blk.froz K2.out 2
     have z3 := Blk.froz K2.out 3
     have z4 := Blk.froz K2.out 4
     have z5 := Blk.froz K2.out 5
     have HY := hide (put6_blk K2.out (.int .i64 0) (.int .i64 0) (.int .u64 0) (.string ⟨#[]⟩) (.slice none 0 0) (.slice none 0 0))
     have HF := hide (below_put6 HB.out (b := w.heap.size + 2) (by omega) (.int .i64 0) (.int .i64 0) (.int .u64 0) (.string ⟨#[]⟩) (.slice none 0 0) (.slice none 0 0))
     go_wp2
     obtain ⟨Y, hYe⟩ : ∃ Y, Y = put6 w1 (w.heap.size + 2) (.int .i64 0) (.int .i64 0) (.int .u64 0) (.string ⟨#[]⟩) (.slice none 0 0) (.slice none 0 0) := ⟨_, rfl⟩
     rw [← hYe] at HY HF
     simp only [put6] at hYe
     rw [← hYe]
     clear hYe x0 x1 x2 x3 x4 x5 z0 z1 z2 z3 z4 z5 p0 p1 p2 p3 p4 p5 q0 q1 r0 r1 r2 r3 r4 r5
     refine bodyPost_ret (results_partOf _ HY.out) rfl ?_
     exact ⟨.inr ⟨8, HPV.out, by omega, rfl⟩, HF.out⟩
    ·rw [if_neg hi2] at hpv
     obtain ⟨j, rfl⟩ : ∃ j : Nat, ix = j := ⟨ix.toNat, by omega⟩
     have hj : j < E.length := by omega
     obtain ⟨B2, o2, rfl, ok2, hB2, y0, y1, y2, y3, y4, y5, y6, ⟨kk, y, xs, hy, hus, hks, hly⟩, d00, d0, d1, d2, d3, d4, d5⟩ := rE0.seven hj
     injection hus with hu0 hu1
     subst hu1
     have hget : (opnE (E.getD (j : Int).toNat .nil)).2 = y := by rw [Int.toNat_natCast, List.getD_eq_getElem?_getD, hy]; rfl
     rw [hget] at hpv
     have hmem : y ∈ parts (mkV (6, n, b, s.data.toList) L E) := by
      rw [valus.parts_mk]
      exact List.mem_append_right _ (List.mem_map.2 ⟨_, List.mem_of_getElem? hy, rfl⟩)
     have hle : nodesV f y ≤ M := by
      have h1 : nodesV (f + 1) (mkV (6, n, b, s.data.toList) L E) = sumOf (nodesV f) (parts (mkV (6, n, b, s.data.toList) L E)) + 1 := rfl
      have h2 := valus.le_sumOf (q := nodesV f) hmem
      omega
     obtain ⟨gk, gn, gb, gs, gpL, gnL, gcL, gpE, gnE, gcE, rfl, rfl, rfl, rfl, rfl, rfl⟩ := hly.form
     have HPV := hide hpv
     have HLE := hide hle
     have HK := hide (And.intro k0 (And.intro k1 (And.intro k2 k3)))
     have HD := hide (And.intro d0 (And.intro d1 (And.intro d2 (And.intro d3 (And.intro d4 d5)))))
     have HLY0 := hide hly
     have i1 : (j : Int) < (E.length : Int) := by omega
     have i2 : (0 : Int) ≤ (j : Int) := by omega
     have hB3 : B2 < w.heap.size + 4 := by have : B2 < N := ok2; omega
     clear hpv rL0 rE0 hn hix k0 k1 k2 k3 hget hmem hle hy hly d0 d1 d2 d3 d4 d5 d00 ok2 hu0
     go_enter Tryd.func35, Tryd.ntmps35
     go_upto_region 2 with fail
     rw [← hW0]
     clear hW0
     have p0 := K0.out.cell 0 _ rfl
     have p1 := K0.out.cell 1 _ rfl
     have p2 := K0.out.cell 2 _ rfl
     have p3 := K0.out.cell 3 _ rfl
     have p4 := K0.out.cell 4 _ rfl
     have p5 := K0.out.cell 5 _ rfl
     have q0 := K1.out.cell 0 _ rfl
     have q1 := K1.out.cell 1 _ rfl
     have r0 := K3.out.cell 0 _ rfl
     have r1 := K3.out.cell 1 _ rfl
     have r2 := K3.out.cell 2 _ rfl
     have r3 := K3.out.cell 3 _ rfl
     have r4 := K3.out.cell 4 _ rfl
     have r5 := K3.out.cell 5 _ rfl
     simp only [List.getElem_toArray, List.getElem_cons_zero, List.getElem_cons_succ] at p0 p1 p2 p3 p4 p5 q0 q1 r0 r1 r2 r3 r4 r5
     clear K0 K1 K3
     go_wp2_with fail
     refine (unhide KE).mono ?_
     rintro _ w1 ⟨rfl, b1⟩
     have K0 := hide (HK.out.1.below b1)
     have K1 := hide (HK.out.2.1.below b1)
     have K2 := hide (HK.out.2.2.1.below b1)
     have K3 := hide (HK.out.2.2.2.below b1)
     obtain ⟨d0, d1, d2, d3, d4, d5⟩ := HD.out
     replace d0 := (b1.cell (p := ⟨B2, o2 + j * 7 + 1, none⟩) (show B2 < W0.heap.size by omega)).trans d0
     replace d1 := (b1.cell (p := ⟨B2, o2 + j * 7 + 2, none⟩) (show B2 < W0.heap.size by omega)).trans d1
     replace d2 := (b1.cell (p := ⟨B2, o2 + j * 7 + 3, none⟩) (show B2 < W0.heap.size by omega)).trans d2
     replace d3 := (b1.cell (p := ⟨B2, o2 + j * 7 + 4, none⟩) (show B2 < W0.heap.size by omega)).trans d3
     replace d4 := (b1.cell (p := ⟨B2, o2 + j * 7 + 5, none⟩) (show B2 < W0.heap.size by omega)).trans d4
     replace d5 := (b1.cell (p := ⟨B2, o2 + j * 7 + 6, none⟩) (show B2 < W0.heap.size by omega)).trans d5
     have HLY := hide (HLY0.out.kept (fun _ h => h) b1.size (fun q hq hq2 => b1.block q hq2))
     have HB := hide (HB0.out.trans (b1.mono (by omega)))
     clear KE b1 HK HD HLY0 HB0 p0 p1 p2 p3 p4 p5 q0 q1 r0 r1 r2 r3 r4 r5
     have p0 := K0.out.cell 0 _ rfl
     have p1 := K0.out.cell 1 _ rfl
     have p2 := K0.out.cell 2 _ rfl
     have p3 := K0.out.cell 3 _ rfl
     have p4 := K0.out.cell 4 _ rfl
     have p5 := K0.out.cell 5 _ rfl
     have q0 := K1.out.cell 0 _ rfl
     have q1 := K1.out.cell 1 _ rfl
     have r0 := K3.out.cell 0 _ rfl
     have r1 := K3.out.cell 1 _ rfl
     have r2 := K3.out.cell 2 _ rfl
     have r3 := K3.out.cell 3 _ rfl
     have r4 := K3.out.cell 4 _ rfl
     have r5 := K3.out.cell 5 _ rfl
     simp only [List.getElem_toArray, List.getElem_cons_zero, List.getElem_cons_succ] at p0 p1 p2 p3 p4 p5 q0 q1 r0 r1 r2 r3 r4 r5
     have x0 := K2.out.cell 0 _ rfl
     have x1 := K2.out.cell 1 _ rfl
     have x2 := K2.out.cell 2 _ rfl
     have x3 := K2.out.cell 3 _ rfl
     have x4 := K2.out.cell 4 _ rfl
     have x5 := K2.out.cell 5 _ rfl
     simp only [List.getElem_toArray, List.getElem_cons_zero, List.getElem_cons_succ] at x0 x1 x2 x3 x4 x5
     have z0 := Blk.froz K2.out 0
     have z1 := Blk.froz K2.out 1
     have z2 := Blk.froz K2.out 2
     have z3 := Blk.froz K2.out 3
     have z4 := Blk.froz K2.out 4
     have z5 := Blk.froz K2.out 5
     have HY := hide (put6_blk K2.out (.int .i64 gk) (.int .i64 gn) (.int .u64 (gb : Int)) (.string gs) (.slice gpL gnL gcL) (.slice gpE gnE gcE))
     have HF := hide (below_put6 HB.out (b := w.heap.size + 2) (by omega) (.int .i64 gk) (.int .i64 gn) (.int .u64 (gb : Int)) (.string gs) (.slice gpL gnL gcL) (.slice gpE gnE gcE))
     have HLV := hide (lies_put6 HLY.out (B := w.heap.size + 2) (by omega) (.int .i64 gk) (.int .i64 gn) (.int .u64 (gb : Int)) (.string gs) (.slice gpL gnL gcL) (.slice gpE gnE gcE))
     go_wp2
     obtain ⟨Y, hYe⟩ : ∃ Y, Y = put6 w1 (w.heap.size + 2) (.int .i64 gk) (.int .i64 gn) (.int .u64 (gb : Int)) (.string gs) (.slice gpL gnL gcL) (.slice gpE gnE gcE) := ⟨_, rfl⟩
     rw [← hYe] at HY HF HLV
     simp only [put6] at hYe
     rw [← hYe]
     clear hYe x0 x1 x2 x3 x4 x5 z0 z1 z2 z3 z4 z5 p0 p1 p2 p3 p4 p5 q0 q1 r0 r1 r2 r3 r4 r5 d0 d1 d2 d3 d4 d5
     refine bodyPost_ret (results_partOf _ HY.out) rfl ?_
     exact ⟨.inl ⟨y, f, _, _, _, _, _, _, HPV.out, rfl, HLV.out, HLE.out⟩, HF.out⟩
   ·rw [if_pos hk] at hpv
    have HPV := hide hpv
    have hk' : (k != 6) = true := bne_iff_ne.2 hk
    have K0 := hide k0
    have K1 := hide k1
    have K2 := hide k2
    have K3 := hide k3
    have HB := HB0
    clear hpv rL0 rE0 hn k0 k1 k2 k3
    go_enter Tryd.func35, Tryd.ntmps35
    go_upto_region 2 with fail
    rw [← hW0]
    clear hW0
    have p0 := K0.out.cell 0 _ rfl
    have p1 := K0.out.cell 1 _ rfl
    have p2 := K0.out.cell 2 _ rfl
    have p3 := K0.out.cell 3 _ rfl
    have p4 := K0.out.cell 4 _ rfl
    have p5 := K0.out.cell 5 _ rfl
    have q0 := K1.out.cell 0 _ rfl
    have q1 := K1.out.cell 1 _ rfl
    have r0 := K3.out.cell 0 _ rfl
    have r1 := K3.out.cell 1 _ rfl
    have r2 := K3.out.cell 2 _ rfl
    have r3 := K3.out.cell 3 _ rfl
    have r4 := K3.out.cell 4 _ rfl
    have r5 := K3.out.cell 5 _ rfl
    simp only [List.getElem_toArray, List.getElem_cons_zero, List.getElem_cons_succ] at p0 p1 p2 p3 p4 p5 q0 q1 r0 r1 r2 r3 r4 r5
    have x0 := K2.out.cell 0 _ rfl
    have x1 := K2.out.cell 1 _ rfl
    have x2 := K2.out.cell 2 _ rfl
    have x3 := K2.out.cell 3 _ rfl
    have x4 := K2.out.cell 4 _ rfl
    have x5 := K2.out.cell 5 _ rfl
    simp only [List.getElem_toArray, List.getElem_cons_zero, List.getElem_cons_succ] at x0 x1 x2 x3 x4 x5
    have z0 := Blk.froz K2.out 0
    have z1 := Blk.froz K2.out 1
    have z2 := Blk.froz K2.out 2
    have z3 := Blk.froz K2.out 3
    have z4 := Blk.froz K2.out 4
    have z5 := Blk.froz K2.out 5
    have HY := hide (put6_blk K2.out (.int .i64 0) (.int .i64 0) (.int .u64 0) (.string ⟨#[]⟩) (.slice none 0 0) (.slice none 0 0))
    have HF := hide (below_put6 HB.out (b := w.heap.size + 2) (by omega) (.int .i64 0) (.int .i64 0) (.int .u64 0) (.string ⟨#[]⟩) (.slice none 0 0) (.slice none 0 0))
    go_wp2
    obtain ⟨Y, hYe⟩ : ∃ Y, Y = put6 W0 (w.heap.size + 2) (.int .i64 0) (.int .i64 0) (.int .u64 0) (.string ⟨#[]⟩) (.slice none 0 0) (.slice none 0 0) := ⟨_, rfl⟩
    rw [← hYe] at HY HF
    simp only [put6] at hYe
    rw [← hYe]
    clear hYe x0 x1 x2 x3 x4 x5 z0 z1 z2 z3 z4 z5 p0 p1 p2 p3 p4 p5 q0 q1 r0 r1 r2 r3 r4 r5
    refine bodyPost_ret (results_partOf _ HY.out) rfl ?_
    exact ⟨.inr ⟨10, HPV.out, by omega, rfl⟩, HF.out⟩
  ·have hpv : partV (mkV (k, n, b, s.data.toList) L E) (key.data.toList, i) = if k ≠ 5 then .inr 10 else if (L.length : Int) ≤ i then .inr 8 else .inl (L.getD i.toNat .nil) := by
    unfold partV
    rw [if_neg e]
    rfl
   have e1 : (i == -1) = false := beq_false_of_ne e
   have K0 := hide k0
   have K1 := hide k1
   have K2 := hide k2
   have K3 := hide k3
   have HB := HB0
   clear k0 k1 k2 k3
   by_cases hk : k = 5
   ·subst hk
    rw [if_neg (by simp)] at hpv
    by_cases hi2 : (L.length : Int) ≤ i
    ·rw [if_pos hi2] at hpv
     have HPV := hide hpv
     have hi3 : i ≥ (L.length : Int) := hi2
     clear hpv rL0 rE0 hn
     go_enter Tryd.func35, Tryd.ntmps35
     go_upto_region 2 with fail
     rw [← hW0]
     clear hW0
     have p0 := K0.out.cell 0 _ rfl
     have p1 := K0.out.cell 1 _ rfl
     have p2 := K0.out.cell 2 _ rfl
     have p3 := K0.out.cell 3 _ rfl
     have p4 := K0.out.cell 4 _ rfl
     have p5 := K0.out.cell 5 _ rfl
     have q0 := K1.out.cell 0 _ rfl
     have q1 := K1.out.cell 1 _ rfl
     have r0 := K3.out.cell 0 _ rfl
     have r1 := K3.out.cell 1 _ rfl
     have r2 := K3.out.cell 2 _ rfl
     have r3 := K3.out.cell 3 _ rfl
     have r4 := K3.out.cell 4 _ rfl
     have r5 := K3.out.cell 5 _ rfl
     simp only [List.getElem_toArray, List.getElem_cons_zero, List.getElem_cons_succ] at p0 p1 p2 p3 p4 p5 q0 q1 r0 r1 r2 r3 r4 r5
     have x0 := K2.out.cell 0 _ rfl
     have x1 := K2.out.cell 1 _ rfl
     have x2 := K2.out.cell 2 _ rfl
     have x3 := K2.out.cell 3 _ rfl
     have x4 := K2.out.cell 4 _ rfl
     have x5 := K2.out.cell 5 _ rfl
     simp only [List.getElem_toArray, List.getElem_cons_zero, List.getElem_cons_succ] at x0 x1 x2 x3 x4 x5
     have z0 := Blk.froz K2.out 0
     have z1 := Blk.froz K2.out 1
     have z2 := Blk.froz K2.out 2
     have z3 := Blk.froz K2.out 3
     have z4 := Blk.froz K2.out 4
     have z5 := Blk.froz K2.out 5
     have HY := hide (put6_blk K2.out (.int .i64 0) (.int .i64 0) (.int .u64 0) (.string ⟨#[]⟩) (.slice none 0 0) (.slice none 0 0))
     have HF := hide (below_put6 HB.out (b := w.heap.size + 2) (by omega) (.int .i64 0) (.int .i64 0) (.int .u64 0) (.string ⟨#[]⟩) (.slice none 0 0) (.slice none 0 0))
     go_wp2
     obtain ⟨Y, hYe⟩ : ∃ Y, Y = put6 W0 (w.heap.size + 2) (.int .i64 0) (.int .i64 0) (.int .u64 0) (.string ⟨#[]⟩) (.slice none 0 0) (.slice none 0 0) := ⟨_, rfl⟩
     rw [← hYe] at HY HF
     simp only [put6] at hYe
     rw [← hYe]
     clear hYe x0 x1 x2 x3 x4 x5 z0 z1 z2 z3 z4 z5 p0 p1 p2 p3 p4 p5 q0 q1 r0 r1 r2 r3 r4 r5
     refine bodyPost_ret (results_partOf _ HY.out) rfl ?_
     exact ⟨.inr ⟨8, HPV.out, by omega, rfl⟩, HF.out⟩
    ·rw [if_neg hi2] at hpv
     obtain ⟨j, rfl⟩ : ∃ j : Nat, i = j := ⟨i.toNat, by omega⟩
     have hj : j < L.length := by omega
     obtain ⟨B2, o2, rfl, ok2, hB2, y0, y1, y2, y3, y4, y5, ⟨y, hy, hly⟩, d0, d1, d2, d3, d4, d5⟩ := rL0.six hj
     have hget : L.getD (j : Int).toNat .nil = y := by rw [Int.toNat_natCast, List.getD_eq_getElem?_getD, hy]; rfl
     rw [hget] at hpv
     have hmem : y ∈ parts (mkV (5, n, b, s.data.toList) L E) := by rw [valus.parts_mk]; exact List.mem_append_left _ (List.mem_of_getElem? hy)
     have hle : nodesV f y ≤ M := by
      have h1 : nodesV (f + 1) (mkV (5, n, b, s.data.toList) L E) = sumOf (nodesV f) (parts (mkV (5, n, b, s.data.toList) L E)) + 1 := rfl
      have h2 := valus.le_sumOf (q := nodesV f) hmem
      omega
     obtain ⟨gk, gn, gb, gs, gpL, gnL, gcL, gpE, gnE, gcE, rfl, rfl, rfl, rfl, rfl, rfl⟩ := hly.form
     have HPV := hide hpv
     have HLE := hide hle
     have HLY := hide hly
     have i1 : (j : Int) < (L.length : Int) := by omega
     have i2 : (0 : Int) ≤ (j : Int) := by omega
     clear hpv rL0 rE0 hn hget hmem hle hy hly ok2
     go_enter Tryd.func35, Tryd.ntmps35
     go_upto_region 2 with fail
     rw [← hW0]
     clear hW0
     have p0 := K0.out.cell 0 _ rfl
     have p1 := K0.out.cell 1 _ rfl
     have p2 := K0.out.cell 2 _ rfl
     have p3 := K0.out.cell 3 _ rfl
     have p4 := K0.out.cell 4 _ rfl
     have p5 := K0.out.cell 5 _ rfl
     have q0 := K1.out.cell 0 _ rfl
     have q1 := K1.out.cell 1 _ rfl
     have r0 := K3.out.cell 0 _ rfl
     have r1 := K3.out.cell 1 _ rfl
     have r2 := K3.out.cell 2 _ rfl
     have r3 := K3.out.cell 3 _ rfl
     have r4 := K3.out.cell 4 _ rfl
     have r5 := K3.out.cell 5 _ rfl
     simp only [List.getElem_toArray, List.getElem_cons_zero, List.getElem_cons_succ] at p0 p1 p2 p3 p4 p5 q0 q1 r0 r1 r2 r3 r4 r5
     have x0 := K2.out.cell 0 _ rfl
     have x1 := K2.out.cell 1 _ rfl
     have x2 := K2.out.cell 2 _ rfl
     have x3 := K2.out.cell 3 _ rfl
     have x4 := K2.out.cell 4 _ rfl
     have x5 := K2.out.cell 5 _ rfl
     simp only [List.getElem_toArray, List.getElem_cons_zero, List.getElem_cons_succ] at x0 x1 x2 x3 x4 x5
     have z0 := Blk.froz K2.out 0
     have z1 := Blk.froz K2.out 1
     have z2 := Blk.froz K2.out 2
     have z3 := Blk.froz K2.out 3
     have z4 := Blk.froz K2.out 4
     have z5 := Blk.froz K2.out 5
     have HY := hide (put6_blk K2.out (.int .i64 gk) (.int .i64 gn) (.int .u64 (gb : Int)) (.string gs) (.slice gpL gnL gcL) (.slice gpE gnE gcE))
     have HF := hide (below_put6 HB.out (b := w.heap.size + 2) (by omega) (.int .i64 gk) (.int .i64 gn) (.int .u64 (gb : Int)) (.string gs) (.slice gpL gnL gcL) (.slice gpE gnE gcE))
     have HLV := hide (lies_put6 HLY.out (B := w.heap.size + 2) (by omega) (.int .i64 gk) (.int .i64 gn) (.int .u64 (gb : Int)) (.string gs) (.slice gpL gnL gcL) (.slice gpE gnE gcE))
     go_wp2
     obtain ⟨Y, hYe⟩ : ∃ Y, Y = put6 W0 (w.heap.size + 2) (.int .i64 gk) (.int .i64 gn) (.int .u64 (gb : Int)) (.string gs) (.slice gpL gnL gcL) (.slice gpE gnE gcE) := ⟨_, rfl⟩
     rw [← hYe] at HY HF HLV
     simp only [put6] at hYe
     rw [← hYe]
     clear hYe x0 x1 x2 x3 x4 x5 z0 z1 z2 z3 z4 z5 p0 p1 p2 p3 p4 p5 q0 q1 r0 r1 r2 r3 r4 r5 d0 d1 d2 d3 d4 d5
     refine bodyPost_ret (results_partOf _ HY.out) rfl ?_
     exact ⟨.inl ⟨y, f, _, _, _, _, _, _, HPV.out, rfl, HLV.out, HLE.out⟩, HF.out⟩
   ·rw [if_pos hk] at hpv
    have HPV := hide hpv
    have hk' : (k != 5) = true := bne_iff_ne.2 hk
    clear hpv rL0 rE0 hn
    go_enter Tryd.func35, Tryd.ntmps35
    go_upto_region 2 with fail
    rw [← hW0]
    clear hW0
    have p0 := K0.out.cell 0 _ rfl
    have p1 := K0.out.cell 1 _ rfl
    have p2 := K0.out.cell 2 _ rfl
    have p3 := K0.out.cell 3 _ rfl
    have p4 := K0.out.cell 4 _ rfl
    have p5 := K0.out.cell 5 _ rfl
    have q0 := K1.out.cell 0 _ rfl
    have q1 := K1.out.cell 1 _ rfl
    have r0 := K3.out.cell 0 _ rfl
    have r1 := K3.out.cell 1 _ rfl
    have r2 := K3.out.cell 2 _ rfl
    have r3 := K3.out.cell 3 _ rfl
    have r4 := K3.out.cell 4 _ rfl
    have r5 := K3.out.cell 5 _ rfl
    simp only [List.getElem_toArray, List.getElem_cons_zero, List.getElem_cons_succ] at p0 p1 p2 p3 p4 p5 q0 q1 r0 r1 r2 r3 r4 r5
    have x0 := K2.out.cell 0 _ rfl
    have x1 := K2.out.cell 1 _ rfl
    have x2 := K2.out.cell 2 _ rfl
    have x3 := K2.out.cell 3 _ rfl
    have x4 := K2.out.cell 4 _ rfl
    have x5 := K2.out.cell 5 _ rfl
    simp only [List.getElem_toArray, List.getElem_cons_zero, List.getElem_cons_succ] at x0 x1 x2 x3 x4 x5
    have z0 := Blk.froz K2.out 0
    have z1 := Blk.froz K2.out 1
    have z2 := Blk.froz K2.out 2
    have z3 := Blk.froz K2.out 3
    have z4 := Blk.froz K2.out 4
    have z5 := Blk.froz K2.out 5
    have HY := hide (put6_blk K2.out (.int .i64 0) (.int .i64 0) (.int .u64 0) (.string ⟨#[]⟩) (.slice none 0 0) (.slice none 0 0))
    have HF := hide (below_put6 HB.out (b := w.heap.size + 2) (by omega) (.int .i64 0) (.int .i64 0) (.int .u64 0) (.string ⟨#[]⟩) (.slice none 0 0) (.slice none 0 0))
    go_wp2
    obtain ⟨Y, hYe⟩ : ∃ Y, Y = put6 W0 (w.heap.size + 2) (.int .i64 0) (.int .i64 0) (.int .u64 0) (.string ⟨#[]⟩) (.slice none 0 0) (.slice none 0 0) := ⟨_, rfl⟩
    rw [← hYe] at HY HF
    simp only [put6] at hYe
    rw [← hYe]
    clear hYe x0 x1 x2 x3 x4 x5 z0 z1 z2 z3 z4 z5 p0 p1 p2 p3 p4 p5 q0 q1 r0 r1 r2 r3 r4 r5
    refine bodyPost_ret (results_partOf _ HY.out) rfl ?_
    exact ⟨.inr ⟨10, HPV.out, by omega, rfl⟩, HF.out⟩
end Go.Proofs.YtadaehaemmelfaaDoor.paths
