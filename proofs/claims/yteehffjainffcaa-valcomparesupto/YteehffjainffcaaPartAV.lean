/- The law ValCompares. -/
import Derived.Test.YteehffjainffcaaPartAO
import Derived.Test.YteehffjainffcaaPartAU
import Derived.Test.YteehffjainffcaaPartAE
import Derived.Test.YteehffjainffcaaPartAI
import Derived.Deep.RegionHeld3
set_option linter.unusedVariables false
namespace Go.Proofs.Yteehffjainffcaa.valus
open Go.RowKit

/-- Two values in their boxes, and nothing below turned. -/
structure Held2 (w : World) (N : Nat) (x0 x1 x2 x3 x4 x5 y0 y1 y2 y3 y4 y5 : Value) (u : World) : Prop where
  bel : Below N w u
  lt : N + 1 < u.heap.size
  c0 : u.cell? ⟨N, 0, none⟩ = some x0
  c1 : u.cell? ⟨N, 1, none⟩ = some x1
  c2 : u.cell? ⟨N, 2, none⟩ = some x2
  c3 : u.cell? ⟨N, 3, none⟩ = some x3
  c4 : u.cell? ⟨N, 4, none⟩ = some x4
  c5 : u.cell? ⟨N, 5, none⟩ = some x5
  d0 : u.cell? ⟨N + 1, 0, none⟩ = some y0
  d1 : u.cell? ⟨N + 1, 1, none⟩ = some y1
  d2 : u.cell? ⟨N + 1, 2, none⟩ = some y2
  d3 : u.cell? ⟨N + 1, 3, none⟩ = some y3
  d4 : u.cell? ⟨N + 1, 4, none⟩ = some y4
  d5 : u.cell? ⟨N + 1, 5, none⟩ = some y5
theorem Held2.below {w : World} {N : Nat} {x0 x1 x2 x3 x4 x5 y0 y1 y2 y3 y4 y5 : Value} {u u' : World} (h : Held2 w N x0 x1 x2 x3 x4 x5 y0 y1 y2 y3 y4 y5 u) (hb : Below u.heap.size u u') : Held2 w N x0 x1 x2 x3 x4 x5 y0 y1 y2 y3 y4 y5 u' := by
  have l1 := h.lt
  have k : ∀ j, u'.cell? ⟨N, j, none⟩ = u.cell? ⟨N, j, none⟩ := fun j => hb.cell (p := ⟨N, j, none⟩) (by simp only; omega)
  have k' : ∀ j, u'.cell? ⟨N + 1, j, none⟩ = u.cell? ⟨N + 1, j, none⟩ := fun j => hb.cell (p := ⟨N + 1, j, none⟩) (by simp only; omega)
  exact ⟨h.bel.trans (hb.mono (by omega)), Nat.lt_of_lt_of_le h.lt hb.size, (k 0).trans h.c0, (k 1).trans h.c1, (k 2).trans h.c2, (k 3).trans h.c3, (k 4).trans h.c4, (k 5).trans h.c5, (k' 0).trans h.d0, (k' 1).trans h.d1, (k' 2).trans h.d2, (k' 3).trans h.d3, (k' 4).trans h.d4, (k' 5).trans h.d5⟩
/-- A row of entries in memory that is there. -/
structure EntAt (f : Nat) (u : World) (p : Option Addr) (c : Nat) (F : List V) : Prop where
  le : F.length ≤ c
  mx : c ≤ maxLen
  row : RowN (fun b => b < u.heap.size) f u p F
theorem EntAt.below {f : Nat} {u u' : World} {p : Option Addr} {c : Nat} {F : List V} (h : EntAt f u p c F) (hb : Below u.heap.size u u') : EntAt f u' p c F :=
  ⟨h.le, h.mx, h.row.kept (fun b hb' => Nat.lt_of_lt_of_le hb' hb.size) hb.size (fun b _ hlt => hb.block b hlt) (fun j us _ ⟨key, y, xs, a1, a2, a3, a4⟩ => ⟨key, y, xs, a1, a2, a3, a4.kept (fun b hb' => Nat.lt_of_lt_of_le hb' hb.size) hb.size (fun b _ hlt => hb.block b hlt)⟩)⟩
theorem EntAt.loose {f : Nat} {u : World} {p : Option Addr} {c : Nat} {F : List V} (h1 : F.length ≤ c) (h2 : c ≤ maxLen) (h : RowN (fun _ => True) f u p F) : EntAt f u p c F :=
  ⟨h1, h2, frame.tightR h (fun j us _ ⟨key, y, xs, a1, a2, a3, a4⟩ => ⟨key, y, xs, a1, a2, a3, frame.tight a4⟩)⟩
theorem tab_same {f : Nat} {w : World} {p : Option Addr} {c : Nat} {F : List V} (h : EntAt f w p c F) : decide (cmpV (f + 1) (tabV F) (tabV F) = .eq) = true :=
  decide_eq_true ((cmpV_ord (f + 1)).refl (tab_lies h.row h.le h.mx).isV)
theorem EntAt.same {f : Nat} {u : World} {p q : Option Addr} {c d : Nat} {F : List V} (h : EntAt f u p c F) (k : EntAt f u q d F) : Calls Try.prog 8 #[.slice p F.length c, .slice q F.length d] u fun e w' => e = .returned (.bool true) ∧ Below u.heap.size u w' := by
  have := sameEnts_any f _ _ u p q c d F F h.row h.le h.mx k.row k.le k.mx
  rw [tab_same h] at this
  exact this

set_option maxHeartbeats 8000000 in
set_option maxRecDepth 100000 in
theorem lawCompares (f : Nat) (w : World) (t u : V) (a0 a1 a2 a3 a4 a5 b0 b1 b2 b3 b4 b5 : Value) (E : List V) (pE : Option Addr) (cE : Nat) (kk : ByteArray) (hl : LiesV (fun b => b < w.heap.size) f w [a0, a1, a2, a3, a4, a5] t) (hl' : LiesV (fun b => b < w.heap.size) f w [b0, b1, b2, b3, b4, b5] u) (hE : RowN (fun b => b < w.heap.size) f w pE E) (h1 : E.length ≤ cE) (h2 : cE ≤ maxLen) (hkk : kk.size ≤ maxLen)
    (hn : nodesV f t ≤ 1048576) (hln : E.length ≤ 1048576) (hnod : ∀ e, e ∈ E → nodesV f (opnE e).2 ≤ 1048576) :
    Calls Try.prog 3 #[.agg #[a0, a1, a2, a3, a4, a5], .agg #[b0, b1, b2, b3, b4, b5], .slice pE E.length cE, .string kk] w fun e w' => e = .returned (.bool true) ∧ Below w.heap.size w w' := by
  obtain ⟨k, n, b, s, pL, nL, cL, pV, nV, cV, rfl, rfl, rfl, rfl, rfl, rfl⟩ := hl.form
  obtain ⟨k', n', b', s', qL, mL, dL, qV, mV, dV, rfl, rfl, rfl, rfl, rfl, rfl⟩ := hl'.form
  have bE : EntAt f w pE cE E := ⟨h1, h2, hE⟩
  obtain ⟨H, hH⟩ : ∃ H : World → Prop, H = Held2 w w.heap.size (.int .i64 k) (.int .i64 n) (.int .u64 (b : Int)) (.string s) (.slice pL nL cL) (.slice pV nV cV) (.int .i64 k') (.int .i64 n') (.int .u64 (b' : Int)) (.string s') (.slice qL mL dL) (.slice qV mV dV) := ⟨_, rfl⟩
  have hbel : ∀ v, H v → Below w.heap.size w v := fun v h => by rw [hH] at h; exact h.bel
  have hbw : ∀ v v', H v → Below v.heap.size v v' → H v' := fun v v' h hb => by rw [hH] at h ⊢; exact h.below hb
  have up : ∀ {v}, H v → LiesV (fun b => b < v.heap.size) f v [.int .i64 k, .int .i64 n, .int .u64 (b : Int), .string s, .slice pL nL cL, .slice pV nV cV] t := fun h => hl.kept (fun b h' => Nat.lt_of_lt_of_le h' (hbel _ h).size) (hbel _ h).size (fun b h' _ => (hbel _ h).block b h')
  have up' : ∀ {v}, H v → LiesV (fun b => b < v.heap.size) f v [.int .i64 k', .int .i64 n', .int .u64 (b' : Int), .string s', .slice qL mL dL, .slice qV mV dV] u := fun h => hl'.kept (fun b h' => Nat.lt_of_lt_of_le h' (hbel _ h).size) (hbel _ h).size (fun b h' _ => (hbel _ h).block b h')
  have upE : ∀ {v}, H v → EntAt f v pE cE E := fun h => bE.below (hbel _ h)
  have KC : ∀ v, Hid (H v → Calls Try.prog 4 #[.agg #[.int .i64 k, .int .i64 n, .int .u64 (b : Int), .string s, .slice pL nL cL, .slice pV nV cV], .agg #[.int .i64 k', .int .i64 n', .int .u64 (b' : Int), .string s', .slice qL mL dL, .slice qV mV dV]] v fun e w' => e = .returned (.int .i64 (ordI (cmpV f t u))) ∧ H w') := fun v h => (callsIn_wide.1 (compare_any f v t u _ _ _ _ _ _ _ _ _ _ _ _ (up h) (up' h) (by omega))).mono fun e w' ⟨e1, e2⟩ => ⟨e1, hbw v w' h e2⟩
  have KB : ∀ v, Hid (H v → Calls Try.prog 5 #[.agg #[.int .i64 k, .int .i64 n, .int .u64 (b : Int), .string s, .slice pL nL cL, .slice pV nV cV], .agg #[.int .i64 k', .int .i64 n', .int .u64 (b' : Int), .string s', .slice qL mL dL, .slice qV mV dV]] v fun e w' => e = .returned (.int .i64 (ordI (cmpV f t u))) ∧ H w') := fun v h => (beside_any f _ _ v t u _ _ _ _ _ _ _ _ _ _ _ _ (up h) (up' h)).mono fun e w' ⟨e1, e2⟩ => ⟨e1, hbw v w' h e2⟩
  have KF : ∀ v, Hid (H v → Calls Try.prog 6 #[.slice pE E.length cE, .string kk] v fun e w' => e = .returned (.int .i64 (idx (fun x => decide (x = kk.data.toList)) 0 E)) ∧ H w') := fun v h => (find_any _ f v E pE cE kk (upE h).row h1 h2).mono fun e w' ⟨e1, e2⟩ => ⟨e1, hbw v w' h e2⟩
  have KA : ∀ v, Hid (H v → Calls Try.prog 7 #[.slice pE E.length cE, .string kk] v fun e w' => e = .returned (.int .i64 (idx (fun x => decide (x = kk.data.toList)) 0 E)) ∧ H w') := fun v h => (entryAt_any _ f v E pE cE kk (upE h).row h1 h2).mono fun e w' ⟨e1, e2⟩ => ⟨e1, hbw v w' h e2⟩
  obtain ⟨F, hF⟩ : ∃ F, F = insV kk.data.toList t (drpV kk.data.toList E) := ⟨_, rfl⟩
  obtain ⟨D, hD⟩ : ∃ D, D = drpV kk.data.toList E := ⟨_, rfl⟩
  have KP : ∀ v, Hid (H v → Calls Try.prog 9 #[.slice pE E.length cE, .string kk, .agg #[.int .i64 k, .int .i64 n, .int .u64 (b : Int), .string s, .slice pL nL cL, .slice pV nV cV]] v fun e w' => (∃ p c, e = .returned (.slice p F.length c) ∧ EntAt f w' p c F) ∧ H w') := fun v h => (put_any _ f v E pE cE kk t k n b s pL nL cL pV nV cV (upE h).row h1 h2 (fun _ h => h) (by omega) (fun e he => by have := hnod e he; omega) hkk (up h) (by omega)).mono fun e w' ⟨⟨p, c, e1, e3, e4, e5⟩, e2⟩ => ⟨⟨p, c, by rw [hF]; exact e1, by rw [hF]; exact EntAt.loose e3 e4 e5⟩, hbw v w' h e2⟩
  have KW : ∀ v, Hid (H v → Calls Try.prog 10 #[.slice pE E.length cE, .string kk, .agg #[.int .i64 k, .int .i64 n, .int .u64 (b : Int), .string s, .slice pL nL cL, .slice pV nV cV]] v fun e w' => (∃ p c, e = .returned (.slice p F.length c) ∧ EntAt f w' p c F) ∧ H w' ∧ Below v.heap.size v w') := fun v h => (with_any _ f v E pE cE kk t k n b s pL nL cL pV nV cV (upE h).row h1 h2 (fun _ h => h) (by omega) hkk (up h)).mono fun e w' ⟨⟨p, c, e1, e3, e4, e5⟩, e2⟩ => ⟨⟨p, c, by rw [hF]; exact e1, by rw [hF]; exact EntAt.loose e3 e4 e5⟩, hbw v w' h e2, e2⟩
  have KD : ∀ v, Hid (H v → Calls Try.prog 11 #[.slice pE E.length cE, .string kk] v fun e w' => (∃ p c, e = .returned (.slice p D.length c) ∧ EntAt f w' p c D) ∧ H w') := fun v h => (drop_any _ f v E pE cE kk (upE h).row h1 h2 (fun _ h => h) (by omega) (fun e he => by have := hnod e he; omega)).mono fun e w' ⟨x, e1, e3, e2⟩ => by
    obtain ⟨p, c, rfl, m1, m2, hR⟩ := e3.row2
    exact ⟨⟨p, c, by rw [hD]; exact e1, by rw [hD]; exact ⟨m1, m2, hR⟩⟩, hbw v w' h e2⟩
  have KO : ∀ v, Hid (H v → Calls Try.prog 12 #[.slice pE E.length cE, .string kk] v fun e w' => (∃ p c, e = .returned (.slice p D.length c) ∧ EntAt f w' p c D) ∧ H w' ∧ Below v.heap.size v w') := fun v h => (without_any _ f v E pE cE kk (upE h).row h1 h2 (fun _ h => h) (by omega)).mono fun e w' ⟨x, e1, e3, e2⟩ => by
    obtain ⟨p, c, rfl, m1, m2, hR⟩ := e3.row2
    exact ⟨⟨p, c, by rw [hD]; exact e1, by rw [hD]; exact ⟨m1, m2, hR⟩⟩, hbw v w' h e2, e2⟩
  have KS : ∀ v (G : List V) p c q d, Hid (H v → EntAt f v p c G → EntAt f v q d G → Calls Try.prog 8 #[.slice p G.length c, .slice q G.length d] v fun e w' => e = .returned (.bool true) ∧ H w') := fun v G p c q d h k1 k2 => (k1.same k2).mono fun e w' ⟨e1, e2⟩ => ⟨e1, hbw v w' h e2⟩
  have hA : H ((w.alloc (.cells #[.int .i64 k, .int .i64 n, .int .u64 (b : Int), .string s, .slice pL nL cL, .slice pV nV cV] 26)).alloc (.cells #[.int .i64 k', .int .i64 n', .int .u64 (b' : Int), .string s', .slice qL mL dL, .slice qV mV dV] 26)).drew := by
    rw [hH]
    have hb := ((blk_alloc w #[.int .i64 k, .int .i64 n, .int .u64 (b : Int), .string s, .slice pL nL cL, .slice pV nV cV] 26).alloc (.cells #[.int .i64 k', .int .i64 n', .int .u64 (b' : Int), .string s', .slice qL mL dL, .slice qV mV dV] 26))
    have hb' := blk_alloc (w.alloc (.cells #[.int .i64 k, .int .i64 n, .int .u64 (b : Int), .string s, .slice pL nL cL, .slice pV nV cV] 26)) #[.int .i64 k', .int .i64 n', .int .u64 (b' : Int), .string s', .slice qL mL dL, .slice qV mV dV] 26
    rw [World.size_alloc] at hb'
    exact ⟨(((Below.refl _ w).alloc (Nat.le_refl _) _).alloc (by simp) _).drew, by simp, hb.cell 0 _ rfl, hb.cell 1 _ rfl, hb.cell 2 _ rfl, hb.cell 3 _ rfl, hb.cell 4 _ rfl, hb.cell 5 _ rfl, hb'.cell 0 _ rfl, hb'.cell 1 _ rfl, hb'.cell 2 _ rfl, hb'.cell 3 _ rfl, hb'.cell 4 _ rfl, hb'.cell 5 _ rfl⟩
  have hcells : ∀ v, Hid (H v → v.cell? ⟨w.heap.size, 0, none⟩ = some (.int .i64 k) ∧ v.cell? ⟨w.heap.size, 1, none⟩ = some (.int .i64 n) ∧ v.cell? ⟨w.heap.size, 2, none⟩ = some (.int .u64 (b : Int)) ∧ v.cell? ⟨w.heap.size, 3, none⟩ = some (.string s) ∧ v.cell? ⟨w.heap.size, 4, none⟩ = some (.slice pL nL cL) ∧ v.cell? ⟨w.heap.size, 5, none⟩ = some (.slice pV nV cV) ∧ v.cell? ⟨w.heap.size + 1, 0, none⟩ = some (.int .i64 k') ∧ v.cell? ⟨w.heap.size + 1, 1, none⟩ = some (.int .i64 n') ∧ v.cell? ⟨w.heap.size + 1, 2, none⟩ = some (.int .u64 (b' : Int)) ∧ v.cell? ⟨w.heap.size + 1, 3, none⟩ = some (.string s') ∧ v.cell? ⟨w.heap.size + 1, 4, none⟩ = some (.slice qL mL dL) ∧ v.cell? ⟨w.heap.size + 1, 5, none⟩ = some (.slice qV mV dV)) := fun v h => by
    rw [hH] at h
    exact ⟨h.c0, h.c1, h.c2, h.c3, h.c4, h.c5, h.d0, h.d1, h.d2, h.d3, h.d4, h.d5⟩
  obtain ⟨s0, s1, s2, s3, s4, s5, s6, s7, s8, s9, s10, s11⟩ := unhide (hcells _) hA
  have HB := hide hbel
  clear hbel hbw up up' upE bE hl hl' hE hH hF hD
  generalize ordI (cmpV f t u) = z1 at *
  generalize idx (fun x => decide (x = kk.data.toList)) 0 E = z2 at *
  go_enter Try.func3, Try.ntmps3
  go_wp2
  generalize hN : w.heap.size = N at *
  have HN := hide hN
  clear hN
  go_region_held3 (fun w' => w'.cell? ⟨N, 0, none⟩ = some (.int .i64 k) ∧ w'.cell? ⟨N, 1, none⟩ = some (.int .i64 n) ∧ w'.cell? ⟨N, 2, none⟩ = some (.int .u64 (b : Int)) ∧ w'.cell? ⟨N, 3, none⟩ = some (.string s) ∧ w'.cell? ⟨N, 4, none⟩ = some (.slice pL nL cL) ∧ w'.cell? ⟨N, 5, none⟩ = some (.slice pV nV cV) ∧ w'.cell? ⟨N + 1, 0, none⟩ = some (.int .i64 k') ∧ w'.cell? ⟨N + 1, 1, none⟩ = some (.int .i64 n') ∧ w'.cell? ⟨N + 1, 2, none⟩ = some (.int .u64 (b' : Int)) ∧ w'.cell? ⟨N + 1, 3, none⟩ = some (.string s') ∧ w'.cell? ⟨N + 1, 4, none⟩ = some (.slice qL mL dL) ∧ w'.cell? ⟨N + 1, 5, none⟩ = some (.slice qV mV dV)) (go_keep)
    (first
      | (go_at_call 4; refine (unhide (KC _) (by assumption)).mono ?_; rintro e w9 ⟨rfl, G9⟩; obtain ⟨s0, s1, s2, s3, s4, s5, s6, s7, s8, s9, s10, s11⟩ := unhide (hcells _) G9)
      | (go_at_call 5; refine (unhide (KB _) (by assumption)).mono ?_; rintro e w9 ⟨rfl, G9⟩; obtain ⟨s0, s1, s2, s3, s4, s5, s6, s7, s8, s9, s10, s11⟩ := unhide (hcells _) G9)
      | (go_at_call 6; refine (unhide (KF _) (by assumption)).mono ?_; rintro e w9 ⟨rfl, G9⟩; obtain ⟨s0, s1, s2, s3, s4, s5, s6, s7, s8, s9, s10, s11⟩ := unhide (hcells _) G9)
      | (go_at_call 7; refine (unhide (KA _) (by assumption)).mono ?_; rintro e w9 ⟨rfl, G9⟩; obtain ⟨s0, s1, s2, s3, s4, s5, s6, s7, s8, s9, s10, s11⟩ := unhide (hcells _) G9)
      | (go_at_call 9; refine (unhide (KP _) (by assumption)).mono ?_; rintro e w9 ⟨⟨pP, cP, rfl, ZP⟩, G9⟩; obtain ⟨s0, s1, s2, s3, s4, s5, s6, s7, s8, s9, s10, s11⟩ := unhide (hcells _) G9)
      | (go_at_call 10; refine (unhide (KW _) (by assumption)).mono ?_; rintro e w9 ⟨⟨pW, cW, rfl, ZW⟩, G9, bW⟩; have ZP2 := ZP.below bW; obtain ⟨s0, s1, s2, s3, s4, s5, s6, s7, s8, s9, s10, s11⟩ := unhide (hcells _) G9)
      | (go_at_call 11; refine (unhide (KD _) (by assumption)).mono ?_; rintro e w9 ⟨⟨pD, cD, rfl, ZD⟩, G9⟩; obtain ⟨s0, s1, s2, s3, s4, s5, s6, s7, s8, s9, s10, s11⟩ := unhide (hcells _) G9)
      | (go_at_call 12; refine (unhide (KO _) (by assumption)).mono ?_; rintro e w9 ⟨⟨pO, cO, rfl, ZO⟩, G9, bO⟩; have ZD2 := ZD.below bO; obtain ⟨s0, s1, s2, s3, s4, s5, s6, s7, s8, s9, s10, s11⟩ := unhide (hcells _) G9)
      | (go_at_call 8; refine (unhide (KS _ _ _ _ _ _) (by assumption) (by assumption) (by assumption)).mono ?_; rintro e w9 ⟨rfl, G9⟩; obtain ⟨s0, s1, s2, s3, s4, s5, s6, s7, s8, s9, s10, s11⟩ := unhide (hcells _) G9))
  all_goals
    go_wp2
    go_ret
    exact ⟨rfl, by rw [HN.out]; exact HB.out _ G9⟩
theorem le_sumE {q : V → Nat} : ∀ {l : List V} {x : V}, x ∈ l → q x ≤ sumOf q l
  | y :: l, x, h => by
    have e : sumOf q (y :: l) = q y + sumOf q l := rfl
    rcases List.mem_cons.1 h with rfl | h
    · omega
    · have := le_sumE (q := q) h
      omega
theorem len_sumE {q : V → Nat} : ∀ {l : List V}, (∀ x ∈ l, 1 ≤ q x) → l.length ≤ sumOf q l
  | [], _ => Nat.zero_le _
  | y :: l, h => by
    have e : sumOf q (y :: l) = q y + sumOf q l := rfl
    have h1 := h y (by simp)
    have h2 := len_sumE (q := q) (l := l) (fun x hx => h x (by simp [hx]))
    rw [List.length_cons]
    omega
theorem lawComparesAll (w : World) (f0 f1 f2 : Nat) (t u : V) (a0 a1 a2 a3 a4 a5 b0 b1 b2 b3 b4 b5 : Value) (E : List V) (pE : Option Addr) (cE : Nat) (kk : ByteArray) (hl : LiesV (fun b => b < w.heap.size) f0 w [a0, a1, a2, a3, a4, a5] t) (hl' : LiesV (fun b => b < w.heap.size) f1 w [b0, b1, b2, b3, b4, b5] u) (hE : RowN (fun b => b < w.heap.size) f2 w pE E) (h1 : E.length ≤ cE) (h2 : cE ≤ maxLen) (hkk : kk.size ≤ 1048576)
    (hn : nodesV f0 t ≤ 1048576) (hs : sumOf (fun e => nodesV f2 (opnE e).2) E ≤ 1048576) :
    Calls Try.prog 3 #[.agg #[a0, a1, a2, a3, a4, a5], .agg #[b0, b1, b2, b3, b4, b5], .slice pE E.length cE, .string kk] w fun e w' => e = .returned (.bool true) ∧ Below w.heap.size w w' := by
  have is : ∀ e, e ∈ E → IsV f2 (opnE e).2 := fun e he => by
    obtain ⟨j, hj, ej⟩ := List.getElem_of_mem he
    obtain ⟨B, o, _, _, _, hk⟩ := hE (by omega)
    obtain ⟨us, _, _, key, y, xs, hy, _, _, hly⟩ := hk j hj
    rw [List.getElem?_eq_getElem hj, ej] at hy
    injection hy with hy
    rw [hy, opnE_ent]
    exact hly.isV
  refine lawCompares (f0 + f1 + f2) w t u a0 a1 a2 a3 a4 a5 b0 b1 b2 b3 b4 b5 E pE cE kk (hl.to (by omega)) (hl'.to (by omega)) (hE.kept (fun _ h => h) (Nat.le_refl _) (fun _ _ _ => rfl) (fun j us _ ⟨key, y, xs, c1, c2, c3, c4⟩ => ⟨key, y, xs, c1, c2, c3, c4.to (by omega)⟩)) h1 h2 (by unfold maxLen; omega) ?_ ?_ (fun e he => ?_)
  · rw [nodesV_le hl.isV (by omega)]
    exact hn
  · have := len_sumE (q := fun e => nodesV f2 (opnE e).2) (l := E) (fun x hx => nodes_pos (is x hx))
    omega
  · rw [nodesV_le (is e he) (by omega)]
    have := le_sumE (q := fun e => nodesV f2 (opnE e).2) he
    omega
end Go.Proofs.Yteehffjainffcaa.valus
