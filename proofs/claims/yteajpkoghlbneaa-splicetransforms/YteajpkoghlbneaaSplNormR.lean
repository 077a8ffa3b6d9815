/- The document's NormalOf. -/
import Derived.Test.YteajpkoghlbneaaSplAtomW
import Derived.Test.YteajpkoghlbneaaSplKeepW
set_option linter.unusedVariables false
namespace Go.Proofs.Yteajpkoghlbneaa.spls
open Go.RowKit

/-- What NormalOf holds in its four boxes from R on. -/
def NS (R : Nat) (S : DS) (w : World) : Prop :=
  ∃ v, Blk w R #[v] 22 ∧ OwnP w 0 v S.1 ∧ (∀ g, v.ownBlock = some g → R + 4 ≤ g) ∧ Blk w (R + 1) #[.string ⟨S.2.1.toArray⟩] 9 ∧ Blk w (R + 2) #[.int .i64 (S.2.2.1 : Int)] 3 ∧ Blk w (R + 3) #[.int .i64 (S.2.2.2 : Int)] 3
theorem NS.cells {R : Nat} {S : DS} {w : World} (h : NS R S w) : ∃ q n k, w.cell? ⟨R, 0, none⟩ = some (.slice q n k) ∧ w.cell? ⟨R + 1, 0, none⟩ = some (.string ⟨S.2.1.toArray⟩) ∧ w.cell? ⟨R + 2, 0, none⟩ = some (.int .i64 (S.2.2.1 : Int)) ∧ w.cell? ⟨R + 3, 0, none⟩ = some (.int .i64 (S.2.2.2 : Int)) ∧ w.frozen? ⟨R, 0, none⟩ = false ∧ w.frozen? ⟨R + 1, 0, none⟩ = false ∧ w.frozen? ⟨R + 2, 0, none⟩ = false ∧ w.frozen? ⟨R + 3, 0, none⟩ = false := by
  obtain ⟨v, b0, ho, hv, b1, b2, b3⟩ := h
  obtain ⟨q, c, rfl, _⟩ := own_form ho
  exact ⟨_, _, _, b0.cell 0 _ rfl, b1.cell 0 _ rfl, b2.cell 0 _ rfl, b3.cell 0 _ rfl, b0.froz 0, b1.froz 0, b2.froz 0, b3.froz 0⟩
theorem NS.lt {R : Nat} {S : DS} {w : World} (h : NS R S w) : R + 4 ≤ w.heap.size := by
  obtain ⟨v, b0, ho, hv, b1, b2, b3⟩ := h
  have := b3.lt
  omega
theorem NS.chg {R : Nat} {S : DS} {w w' : World} (h : NS R S w) (hb : Below w.heap.size w w') : NS R S w' := by
  obtain ⟨v, b0, ho, hv, b1, b2, b3⟩ := h
  have hc : Chg (fun _ => False) w w' := Chg.of_below hb _
  exact ⟨v, b0.chg hc (fun h => h), own_chg ho hc (fun _ _ h => h), hv, b1.chg hc (fun h => h), b2.chg hc (fun h => h), b3.chg hc (fun h => h)⟩
/-- What lies ahead of R stands, and so does each atom. -/
def BR (R : Nat) (w w' : World) : Prop := Below R w w' ∧ ∀ (b : Nat) (cs : Array Value), Blk w b cs 41 → Blk w' b cs 41
theorem BR.trans {R : Nat} {a b c : World} (h : BR R a b) (k : BR R b c) : BR R a c := ⟨h.1.trans k.1, fun x cs hx => k.2 x cs (h.2 x cs hx)⟩
theorem blk_ne {w : World} {a b : Nat} {cs ds : Array Value} {t u : Nat} (h : Blk w a cs t) (k : Blk w b ds u) (hne : t ≠ u) : b ≠ a := fun e => by
  subst e
  unfold Blk at h k
  rw [h] at k
  injection k with k
  injection k with _ k
  exact hne k
/-- One part more. -/
theorem NS.push {R : Nat} {S : DS} {w : World} (h : NS R S w) (x : Pt) (hl : S.1.length ≤ 1000000) {q : Option Addr} {n k : Nat} (hc : w.cell? ⟨R, 0, none⟩ = some (.slice q n k)) : ∃ q' n' k' W', (Builtin.append_ #[22, 22] 22 #[.slice q n k, .slice (some ⟨w.heap.size, 0, none⟩) 1 1]).run Try.prog (w.alloc (.cells #[.int .i64 x.1, .int .i64 x.2.1, .string ⟨x.2.2.toArray⟩] 46)) = .ok (.slice q' n' k') W' ∧ W'.cell? ⟨R, 0, none⟩ = some (.slice q n k) ∧ W'.frozen? ⟨R, 0, none⟩ = false ∧ NS R (S.1 ++ [x], S.2) (W'.setCell ⟨R, 0, none⟩ (.slice q' n' k')) ∧ BR R w (W'.setCell ⟨R, 0, none⟩ (.slice q' n' k')) := by
  have hlt := h.lt
  obtain ⟨v, b0, ho, hv, b1, b2, b3⟩ := h
  have e : v = .slice q n k := by
    have := b0.cell 0 _ rfl
    rw [hc] at this
    injection this with this
    exact this.symm
  subst e
  obtain ⟨v', W', hrun, ho', hch, hat⟩ := push_part w _ S.1 ho x hl 22
  obtain ⟨q', n', k', rfl⟩ : ∃ q N c, v' = .slice q N c := by obtain ⟨q, c, e, _⟩ := own_form ho'; exact ⟨_, _, _, e⟩
  have nx : ∀ i, i < 4 → ¬ (Value.slice q n k).ownBlock = some (R + i) := fun i hi e => by have := hv _ e; omega
  have k0 : Blk W' R #[.slice q n k] 22 := b0.chg hch (nx 0 (by omega))
  have k1 : Blk W' (R + 1) _ _ := b1.chg hch (nx 1 (by omega))
  have k2 : Blk W' (R + 2) _ _ := b2.chg hch (nx 2 (by omega))
  have k3 : Blk W' (R + 3) _ _ := b3.chg hch (nx 3 (by omega))
  have hge : ∀ g, (Value.slice q' n' k').ownBlock = some g → R + 4 ≤ g := fun g hg => by
    rcases hat with e | ⟨g2, e, h2⟩
    · rw [e] at hg; exact hv g hg
    · rw [e] at hg
      injection hg with hg
      omega
  have hcs : Chg (fun b => b = R) W' (W'.setCell ⟨R, 0, none⟩ (.slice q' n' k')) := (Chg.refl (fun b => b = R) W').set (B := R) (.inl rfl) 0 _
  refine ⟨q', n', k', W', hrun, k0.cell 0 _ rfl, k0.froz 0, ⟨_, k0.set 0 _, own_chg ho' hcs (fun g hg e => by have := hge g hg; omega), hge, k1.chg hcs (by omega), k2.chg hcs (by omega), k3.chg hcs (by omega)⟩, ?_⟩
  refine ⟨⟨hcs.os.trans hch.os, hcs.tape.trans hch.tape, hcs.output.trans hch.output, Nat.le_trans hch.size hcs.size, fun b hb => (hcs.block b (by have := hch.size; omega) (by omega)).trans (hch.block b (by omega) (fun e => by have := hv b e; omega))⟩, fun b cs hb => ?_⟩
  have hb2 : Blk W' b cs 41 := hb.chg hch (fun e => own_type ho hb (by decide) b e rfl)
  exact hb2.chg hcs (blk_ne k0 hb2 (by decide))
theorem NS.setK {R : Nat} {S : DS} {w : World} (h : NS R S w) (m : Nat) : NS R (S.1, S.2.1, S.2.2.1, m) (w.setCell ⟨R + 3, 0, none⟩ (.int .i64 (m : Int))) ∧ BR R w (w.setCell ⟨R + 3, 0, none⟩ (.int .i64 (m : Int))) := by
  obtain ⟨v, b0, ho, hv, b1, b2, b3⟩ := h
  have hc : Chg (fun b => b = R + 3) w (w.setCell ⟨R + 3, 0, none⟩ (.int .i64 (m : Int))) := (Chg.refl (fun b => b = R + 3) w).set (B := R + 3) (.inl rfl) 0 _
  exact ⟨⟨v, b0.chg hc (by omega), own_chg ho hc (fun g hg e => by have := hv g hg; omega), hv, b1.chg hc (by omega), b2.chg hc (by omega), b3.set 0 _⟩, ⟨(Below.refl R w).setCell (p := ⟨R + 3, 0, none⟩) (by show R ≤ R + 3; omega) _, fun b cs hb => hb.chg hc (blk_ne b3 hb (by decide))⟩⟩
theorem NS.setX {R : Nat} {S : DS} {w : World} (h : NS R S w) (m : Nat) : NS R (S.1, S.2.1, m, S.2.2.2) (w.setCell ⟨R + 2, 0, none⟩ (.int .i64 (m : Int))) ∧ BR R w (w.setCell ⟨R + 2, 0, none⟩ (.int .i64 (m : Int))) := by
  obtain ⟨v, b0, ho, hv, b1, b2, b3⟩ := h
  have hc : Chg (fun b => b = R + 2) w (w.setCell ⟨R + 2, 0, none⟩ (.int .i64 (m : Int))) := (Chg.refl (fun b => b = R + 2) w).set (B := R + 2) (.inl rfl) 0 _
  exact ⟨⟨v, b0.chg hc (by omega), own_chg ho hc (fun g hg e => by have := hv g hg; omega), hv, b1.chg hc (by omega), b2.set 0 _, b3.chg hc (by omega)⟩, ⟨(Below.refl R w).setCell (p := ⟨R + 2, 0, none⟩) (by show R ≤ R + 2; omega) _, fun b cs hb => hb.chg hc (blk_ne b2 hb (by decide))⟩⟩
theorem NS.setP {R : Nat} {S : DS} {w : World} (h : NS R S w) (t : List UInt8) : NS R (S.1, t, S.2.2) (w.setCell ⟨R + 1, 0, none⟩ (.string ⟨t.toArray⟩)) ∧ BR R w (w.setCell ⟨R + 1, 0, none⟩ (.string ⟨t.toArray⟩)) := by
  obtain ⟨v, b0, ho, hv, b1, b2, b3⟩ := h
  have hc : Chg (fun b => b = R + 1) w (w.setCell ⟨R + 1, 0, none⟩ (.string ⟨t.toArray⟩)) := (Chg.refl (fun b => b = R + 1) w).set (B := R + 1) (.inl rfl) 0 _
  exact ⟨⟨v, b0.chg hc (by omega), own_chg ho hc (fun g hg e => by have := hv g hg; omega), hv, b1.set 0 _, b2.chg hc (by omega), b3.chg hc (by omega)⟩, ⟨(Below.refl R w).setCell (p := ⟨R + 1, 0, none⟩) (by show R ≤ R + 1; omega) _, fun b cs hb => hb.chg hc (blk_ne b1 hb (by decide))⟩⟩
set_option maxHeartbeats 8000000 in
set_option maxRecDepth 100000 in
theorem flush000 (R : Nat) (out : List Pt) (pt : List UInt8) (nx kp : Nat) (w : World) (tq : Nat) (h : NS R (out, pt, nx, kp) w) (hk : kp = 0) (hp : pt = []) (hg : tq ≤ nx) (hl : out.length ≤ 900000) (b1 : nx ≤ 100000000) (b2 : kp ≤ 100000000) (b3 : tq ≤ 100000000) :
    Calls Try.prog 28 #[.int .i64 (tq : Int), .pointer (some ⟨R + 3, 0, none⟩), .pointer (some ⟨R + 1, 0, none⟩), .pointer (some ⟨R + 2, 0, none⟩), .pointer (some ⟨R, 0, none⟩)] w fun e w' => e = .returned (.tuple #[]) ∧ NS R (flO out pt (tq - nx) kp, [], nx, flK pt (tq - nx) kp) w' ∧ BR R w w' := by
  have HFO : Hid (flO out pt (tq - nx) kp = (out) ++ ([] ++ [])) := hide (by unfold flO putP cutP; rw [if_neg (fun h => by omega), if_pos hp, if_pos (by omega)])
  have HFK : Hid (flK pt (tq - nx) kp = kp) := hide (by unfold flK; rw [if_neg (fun h => by omega)])
  have h0 := h
  obtain ⟨q0, n0, k0, c00, c01, c02, c03, f00, f01, f02, f03⟩ := h0.cells
  obtain ⟨h1, B1⟩ := h0.setP []
  have HFIN : Hid (NS R (flO out pt (tq - nx) kp, [], nx, flK pt (tq - nx) kp) (w.setCell ⟨R + 1, 0, none⟩ (.string ⟨#[]⟩)) ∧ BR R w (w.setCell ⟨R + 1, 0, none⟩ (.string ⟨#[]⟩))) := hide (by
    rw [HFO.out, HFK.out]
    refine ⟨?_, ?_⟩
    · have := h1
      rw [hk] at this ⊢; show NS R (out ++ [], _) _; rw [List.append_nil]; exact this
    · exact B1)
  have i1 : ¬ (kp : Int) > 0 := by omega
  have i2 : ¬ (tq : Int) > (nx : Int) := by omega
  have i3 := isEmptyYes ⟨pt.toArray⟩ (by rw [size_mk, hp]; rfl)
  clear h h0 h1 B1
  dsimp only at *
  generalize (⟨pt.toArray⟩ : ByteArray) = PT at *
  obtain ⟨FO, hFO⟩ : ∃ FO, FO = flO out pt (tq - nx) kp := ⟨_, rfl⟩
  obtain ⟨FK, hFK⟩ : ∃ FK, FK = flK pt (tq - nx) kp := ⟨_, rfl⟩
  rw [← hFO, ← hFK] at HFIN
  rw [← hFO, ← hFK]
  have HX := hide (And.intro hp (And.intro hk (And.intro hg (And.intro hFO hFK))))
  clear hp hk hg hFO hFK HFO HFK
  go_enter Try.func28, Try.ntmps28
  go_wp2
  go_end0
  exact ⟨rfl, HFIN.out⟩
set_option maxHeartbeats 8000000 in
set_option maxRecDepth 100000 in
theorem flush001 (R : Nat) (out : List Pt) (pt : List UInt8) (nx kp : Nat) (w : World) (tq : Nat) (h : NS R (out, pt, nx, kp) w) (hk : kp = 0) (hp : pt = []) (hg : nx < tq) (hl : out.length ≤ 900000) (b1 : nx ≤ 100000000) (b2 : kp ≤ 100000000) (b3 : tq ≤ 100000000) :
    Calls Try.prog 28 #[.int .i64 (tq : Int), .pointer (some ⟨R + 3, 0, none⟩), .pointer (some ⟨R + 1, 0, none⟩), .pointer (some ⟨R + 2, 0, none⟩), .pointer (some ⟨R, 0, none⟩)] w fun e w' => e = .returned (.tuple #[]) ∧ NS R (flO out pt (tq - nx) kp, [], nx, flK pt (tq - nx) kp) w' ∧ BR R w w' := by
  have HFO : Hid (flO out pt (tq - nx) kp = (out) ++ ([] ++ [(2, ((tq - nx : Nat) : Int), [])])) := hide (by unfold flO putP cutP; rw [if_neg (fun h => by omega), if_pos hp, if_neg (by omega)])
  have HFK : Hid (flK pt (tq - nx) kp = kp) := hide (by unfold flK; rw [if_neg (fun h => by omega)])
  have h0 := h
  obtain ⟨q0, n0, k0, c00, c01, c02, c03, f00, f01, f02, f03⟩ := h0.cells
  obtain ⟨r1, s1, t1, V1, hrun1, d1, g1, h1, B1⟩ := h0.push (2, ((tq - nx : Nat) : Int), []) (by first | omega | (simp; omega)) c00
  have hru1 : (Builtin.append_ #[22, 22] 22 #[.slice q0 n0 k0, .slice (some ⟨w.heap.size, 0, none⟩) 1 1]).run Try.prog (w.alloc (.cells #[.int .i64 2, .int .i64 ((tq : Int) - (nx : Int)), .string ⟨#[]⟩] 46)) = .ok (.slice r1 s1 t1) V1 := by rw [show (tq : Int) - (nx : Int) = ((tq - nx : Nat) : Int) from by omega]; exact hrun1
  clear hrun1
  generalize hZ1 : (V1.setCell ⟨R, 0, none⟩ (.slice r1 s1 t1)) = Z1 at *
  obtain ⟨q1, n1, k1, c10, c11, c12, c13, f10, f11, f12, f13⟩ := h1.cells
  obtain ⟨h2, B2⟩ := h1.setP []
  have HFIN : Hid (NS R (flO out pt (tq - nx) kp, [], nx, flK pt (tq - nx) kp) (Z1.setCell ⟨R + 1, 0, none⟩ (.string ⟨#[]⟩)) ∧ BR R w (Z1.setCell ⟨R + 1, 0, none⟩ (.string ⟨#[]⟩))) := hide (by
    rw [HFO.out, HFK.out]
    refine ⟨?_, ?_⟩
    · have := h2
      rw [hk] at this ⊢; exact this
    · exact (BR.trans B1 B2))
  have i1 : ¬ (kp : Int) > 0 := by omega
  have i2 : (tq : Int) > (nx : Int) := by omega
  have i3 := isEmptyYes ⟨pt.toArray⟩ (by rw [size_mk, hp]; rfl)
  clear h h0 h1 h2 B1 B2
  dsimp only at *
  generalize (⟨pt.toArray⟩ : ByteArray) = PT at *
  obtain ⟨FO, hFO⟩ : ∃ FO, FO = flO out pt (tq - nx) kp := ⟨_, rfl⟩
  obtain ⟨FK, hFK⟩ : ∃ FK, FK = flK pt (tq - nx) kp := ⟨_, rfl⟩
  rw [← hFO, ← hFK] at HFIN
  rw [← hFO, ← hFK]
  have HX := hide (And.intro hp (And.intro hk (And.intro hg (And.intro hFO hFK))))
  clear hp hk hg hFO hFK HFO HFK
  go_enter Try.func28, Try.ntmps28
  go_upto_region 7 with (at_builtin; refine Lib.wpList_append_run _ rfl _ _ _ _ rfl _ _ rfl rfl _ _ hru1 ?_)
  go_wp2
  go_end0
  exact ⟨rfl, HFIN.out⟩
set_option maxHeartbeats 8000000 in
set_option maxRecDepth 100000 in
theorem flush010 (R : Nat) (out : List Pt) (pt : List UInt8) (nx kp : Nat) (w : World) (tq : Nat) (h : NS R (out, pt, nx, kp) w) (hk : kp = 0) (hp : pt ≠ []) (hg : tq ≤ nx) (hl : out.length ≤ 900000) (b1 : nx ≤ 100000000) (b2 : kp ≤ 100000000) (b3 : tq ≤ 100000000) :
    Calls Try.prog 28 #[.int .i64 (tq : Int), .pointer (some ⟨R + 3, 0, none⟩), .pointer (some ⟨R + 1, 0, none⟩), .pointer (some ⟨R + 2, 0, none⟩), .pointer (some ⟨R, 0, none⟩)] w fun e w' => e = .returned (.tuple #[]) ∧ NS R (flO out pt (tq - nx) kp, [], nx, flK pt (tq - nx) kp) w' ∧ BR R w w' := by
  have HFO : Hid (flO out pt (tq - nx) kp = (out) ++ ([(3, 0, pt)] ++ [])) := hide (by unfold flO putP cutP; rw [if_neg (fun h => by omega), if_neg hp, if_pos (by omega)])
  have HFK : Hid (flK pt (tq - nx) kp = kp) := hide (by unfold flK; rw [if_neg (fun h => by omega)])
  have h0 := h
  obtain ⟨q0, n0, k0, c00, c01, c02, c03, f00, f01, f02, f03⟩ := h0.cells
  obtain ⟨r1, s1, t1, V1, hrun1, d1, g1, h1, B1⟩ := h0.push (3, 0, pt) (by first | omega | (simp; omega)) c00
  have hru1 : (Builtin.append_ #[22, 22] 22 #[.slice q0 n0 k0, .slice (some ⟨w.heap.size, 0, none⟩) 1 1]).run Try.prog (w.alloc (.cells #[.int .i64 3, .int .i64 0, .string ⟨pt.toArray⟩] 46)) = .ok (.slice r1 s1 t1) V1 := by exact hrun1
  clear hrun1
  generalize hZ1 : (V1.setCell ⟨R, 0, none⟩ (.slice r1 s1 t1)) = Z1 at *
  obtain ⟨q1, n1, k1, c10, c11, c12, c13, f10, f11, f12, f13⟩ := h1.cells
  obtain ⟨h2, B2⟩ := h1.setP []
  have HFIN : Hid (NS R (flO out pt (tq - nx) kp, [], nx, flK pt (tq - nx) kp) (Z1.setCell ⟨R + 1, 0, none⟩ (.string ⟨#[]⟩)) ∧ BR R w (Z1.setCell ⟨R + 1, 0, none⟩ (.string ⟨#[]⟩))) := hide (by
    rw [HFO.out, HFK.out]
    refine ⟨?_, ?_⟩
    · have := h2
      rw [hk] at this ⊢; exact this
    · exact (BR.trans B1 B2))
  have i1 : ¬ (kp : Int) > 0 := by omega
  have i2 : ¬ (tq : Int) > (nx : Int) := by omega
  have i3 := isEmptyNo ⟨pt.toArray⟩ (by rw [size_mk]; exact List.length_pos_iff.2 hp)
  clear h h0 h1 h2 B1 B2
  dsimp only at *
  generalize (⟨pt.toArray⟩ : ByteArray) = PT at *
  obtain ⟨FO, hFO⟩ : ∃ FO, FO = flO out pt (tq - nx) kp := ⟨_, rfl⟩
  obtain ⟨FK, hFK⟩ : ∃ FK, FK = flK pt (tq - nx) kp := ⟨_, rfl⟩
  rw [← hFO, ← hFK] at HFIN
  rw [← hFO, ← hFK]
  have HX := hide (And.intro hp (And.intro hk (And.intro hg (And.intro hFO hFK))))
  clear hp hk hg hFO hFK HFO HFK
  go_enter Try.func28, Try.ntmps28
  go_upto_region 5 with (at_builtin; refine Lib.wpList_append_run _ rfl _ _ _ _ rfl _ _ rfl rfl _ _ hru1 ?_)
  go_wp2
  go_end0
  exact ⟨rfl, HFIN.out⟩
set_option maxHeartbeats 8000000 in
set_option maxRecDepth 100000 in
theorem flush011 (R : Nat) (out : List Pt) (pt : List UInt8) (nx kp : Nat) (w : World) (tq : Nat) (h : NS R (out, pt, nx, kp) w) (hk : kp = 0) (hp : pt ≠ []) (hg : nx < tq) (hl : out.length ≤ 900000) (b1 : nx ≤ 100000000) (b2 : kp ≤ 100000000) (b3 : tq ≤ 100000000) :
    Calls Try.prog 28 #[.int .i64 (tq : Int), .pointer (some ⟨R + 3, 0, none⟩), .pointer (some ⟨R + 1, 0, none⟩), .pointer (some ⟨R + 2, 0, none⟩), .pointer (some ⟨R, 0, none⟩)] w fun e w' => e = .returned (.tuple #[]) ∧ NS R (flO out pt (tq - nx) kp, [], nx, flK pt (tq - nx) kp) w' ∧ BR R w w' := by
  have HFO : Hid (flO out pt (tq - nx) kp = (out) ++ ([(3, 0, pt)] ++ [(2, ((tq - nx : Nat) : Int), [])])) := hide (by unfold flO putP cutP; rw [if_neg (fun h => by omega), if_neg hp, if_neg (by omega)])
  have HFK : Hid (flK pt (tq - nx) kp = kp) := hide (by unfold flK; rw [if_neg (fun h => by omega)])
  have h0 := h
  obtain ⟨q0, n0, k0, c00, c01, c02, c03, f00, f01, f02, f03⟩ := h0.cells
  obtain ⟨r1, s1, t1, V1, hrun1, d1, g1, h1, B1⟩ := h0.push (3, 0, pt) (by first | omega | (simp; omega)) c00
  have hru1 : (Builtin.append_ #[22, 22] 22 #[.slice q0 n0 k0, .slice (some ⟨w.heap.size, 0, none⟩) 1 1]).run Try.prog (w.alloc (.cells #[.int .i64 3, .int .i64 0, .string ⟨pt.toArray⟩] 46)) = .ok (.slice r1 s1 t1) V1 := by exact hrun1
  clear hrun1
  generalize hZ1 : (V1.setCell ⟨R, 0, none⟩ (.slice r1 s1 t1)) = Z1 at *
  obtain ⟨q1, n1, k1, c10, c11, c12, c13, f10, f11, f12, f13⟩ := h1.cells
  obtain ⟨r2, s2, t2, V2, hrun2, d2, g2, h2, B2⟩ := h1.push (2, ((tq - nx : Nat) : Int), []) (by first | omega | (simp; omega)) c10
  have hru2 : (Builtin.append_ #[22, 22] 22 #[.slice q1 n1 k1, .slice (some ⟨Z1.heap.size, 0, none⟩) 1 1]).run Try.prog (Z1.alloc (.cells #[.int .i64 2, .int .i64 ((tq : Int) - (nx : Int)), .string ⟨#[]⟩] 46)) = .ok (.slice r2 s2 t2) V2 := by rw [show (tq : Int) - (nx : Int) = ((tq - nx : Nat) : Int) from by omega]; exact hrun2
  clear hrun2
  generalize hZ2 : (V2.setCell ⟨R, 0, none⟩ (.slice r2 s2 t2)) = Z2 at *
  obtain ⟨q2, n2, k2, c20, c21, c22, c23, f20, f21, f22, f23⟩ := h2.cells
  obtain ⟨h3, B3⟩ := h2.setP []
  have HFIN : Hid (NS R (flO out pt (tq - nx) kp, [], nx, flK pt (tq - nx) kp) (Z2.setCell ⟨R + 1, 0, none⟩ (.string ⟨#[]⟩)) ∧ BR R w (Z2.setCell ⟨R + 1, 0, none⟩ (.string ⟨#[]⟩))) := hide (by
    rw [HFO.out, HFK.out]
    refine ⟨?_, ?_⟩
    · have := h3
      rw [hk] at this ⊢; rw [List.append_assoc] at this; exact this
    · exact (BR.trans (BR.trans B1 B2) B3))
  have i1 : ¬ (kp : Int) > 0 := by omega
  have i2 : (tq : Int) > (nx : Int) := by omega
  have i3 := isEmptyNo ⟨pt.toArray⟩ (by rw [size_mk]; exact List.length_pos_iff.2 hp)
  clear h h0 h1 h2 h3 B1 B2 B3
  dsimp only at *
  generalize (⟨pt.toArray⟩ : ByteArray) = PT at *
  obtain ⟨FO, hFO⟩ : ∃ FO, FO = flO out pt (tq - nx) kp := ⟨_, rfl⟩
  obtain ⟨FK, hFK⟩ : ∃ FK, FK = flK pt (tq - nx) kp := ⟨_, rfl⟩
  rw [← hFO, ← hFK] at HFIN
  rw [← hFO, ← hFK]
  have HX := hide (And.intro hp (And.intro hk (And.intro hg (And.intro hFO hFK))))
  clear hp hk hg hFO hFK HFO HFK
  go_enter Try.func28, Try.ntmps28
  go_upto_region 5 with (at_builtin; refine Lib.wpList_append_run _ rfl _ _ _ _ rfl _ _ rfl rfl _ _ hru1 ?_)
  go_upto_region 7 with (at_builtin; refine Lib.wpList_append_run _ rfl _ _ _ _ rfl _ _ rfl rfl _ _ hru2 ?_)
  go_wp2
  go_end0
  exact ⟨rfl, HFIN.out⟩
set_option maxHeartbeats 8000000 in
set_option maxRecDepth 100000 in
theorem flush100 (R : Nat) (out : List Pt) (pt : List UInt8) (nx kp : Nat) (w : World) (tq : Nat) (h : NS R (out, pt, nx, kp) w) (hk : 0 < kp) (hp : pt = []) (hg : tq ≤ nx) (hl : out.length ≤ 900000) (b1 : nx ≤ 100000000) (b2 : kp ≤ 100000000) (b3 : tq ≤ 100000000) :
    Calls Try.prog 28 #[.int .i64 (tq : Int), .pointer (some ⟨R + 3, 0, none⟩), .pointer (some ⟨R + 1, 0, none⟩), .pointer (some ⟨R + 2, 0, none⟩), .pointer (some ⟨R, 0, none⟩)] w fun e w' => e = .returned (.tuple #[]) ∧ NS R (flO out pt (tq - nx) kp, [], nx, flK pt (tq - nx) kp) w' ∧ BR R w w' := by
  have HFO : Hid (flO out pt (tq - nx) kp = (out) ++ ([] ++ [])) := hide (by unfold flO putP cutP; rw [if_neg (fun h => h.2.elim (fun h => h hp) (fun h => by omega)), if_pos hp, if_pos (by omega)])
  have HFK : Hid (flK pt (tq - nx) kp = kp) := hide (by unfold flK; rw [if_neg (fun h => h.2.elim (fun h => h hp) (fun h => by omega))])
  have h0 := h
  obtain ⟨q0, n0, k0, c00, c01, c02, c03, f00, f01, f02, f03⟩ := h0.cells
  obtain ⟨h1, B1⟩ := h0.setP []
  have HFIN : Hid (NS R (flO out pt (tq - nx) kp, [], nx, flK pt (tq - nx) kp) (w.setCell ⟨R + 1, 0, none⟩ (.string ⟨#[]⟩)) ∧ BR R w (w.setCell ⟨R + 1, 0, none⟩ (.string ⟨#[]⟩))) := hide (by
    rw [HFO.out, HFK.out]
    refine ⟨?_, ?_⟩
    · have := h1
      show NS R (out ++ [], _) _; rw [List.append_nil]; exact this
    · exact B1)
  have i1 : (kp : Int) > 0 := by omega
  have i2 : ¬ (tq : Int) > (nx : Int) := by omega
  have i3 := isEmptyYes ⟨pt.toArray⟩ (by rw [size_mk, hp]; rfl)
  clear h h0 h1 B1
  dsimp only at *
  generalize (⟨pt.toArray⟩ : ByteArray) = PT at *
  obtain ⟨FO, hFO⟩ : ∃ FO, FO = flO out pt (tq - nx) kp := ⟨_, rfl⟩
  obtain ⟨FK, hFK⟩ : ∃ FK, FK = flK pt (tq - nx) kp := ⟨_, rfl⟩
  rw [← hFO, ← hFK] at HFIN
  rw [← hFO, ← hFK]
  have HX := hide (And.intro hp (And.intro hk (And.intro hg (And.intro hFO hFK))))
  clear hp hk hg hFO hFK HFO HFK
  go_enter Try.func28, Try.ntmps28
  go_wp2
  go_end0
  exact ⟨rfl, HFIN.out⟩
set_option maxHeartbeats 8000000 in
set_option maxRecDepth 100000 in
theorem flush101 (R : Nat) (out : List Pt) (pt : List UInt8) (nx kp : Nat) (w : World) (tq : Nat) (h : NS R (out, pt, nx, kp) w) (hk : 0 < kp) (hp : pt = []) (hg : nx < tq) (hl : out.length ≤ 900000) (b1 : nx ≤ 100000000) (b2 : kp ≤ 100000000) (b3 : tq ≤ 100000000) :
    Calls Try.prog 28 #[.int .i64 (tq : Int), .pointer (some ⟨R + 3, 0, none⟩), .pointer (some ⟨R + 1, 0, none⟩), .pointer (some ⟨R + 2, 0, none⟩), .pointer (some ⟨R, 0, none⟩)] w fun e w' => e = .returned (.tuple #[]) ∧ NS R (flO out pt (tq - nx) kp, [], nx, flK pt (tq - nx) kp) w' ∧ BR R w w' := by
  have HFO : Hid (flO out pt (tq - nx) kp = (out ++ [(1, (kp : Int), [])]) ++ ([] ++ [(2, ((tq - nx : Nat) : Int), [])])) := hide (by unfold flO putP cutP; rw [if_pos (by exact ⟨hk, .inr (by omega)⟩), if_pos hp, if_neg (by omega)])
  have HFK : Hid (flK pt (tq - nx) kp = 0) := hide (by unfold flK; rw [if_pos (by exact ⟨hk, .inr (by omega)⟩)])
  have h0 := h
  obtain ⟨q0, n0, k0, c00, c01, c02, c03, f00, f01, f02, f03⟩ := h0.cells
  obtain ⟨r1, s1, t1, V1, hrun1, d1, g1, h1, B1⟩ := h0.push (1, (kp : Int), []) (by first | omega | (simp; omega)) c00
  have hru1 : (Builtin.append_ #[22, 22] 22 #[.slice q0 n0 k0, .slice (some ⟨w.heap.size, 0, none⟩) 1 1]).run Try.prog (w.alloc (.cells #[.int .i64 1, .int .i64 (kp : Int), .string ⟨#[]⟩] 46)) = .ok (.slice r1 s1 t1) V1 := by exact hrun1
  clear hrun1
  generalize hZ1 : (V1.setCell ⟨R, 0, none⟩ (.slice r1 s1 t1)) = Z1 at *
  obtain ⟨q1, n1, k1, c10, c11, c12, c13, f10, f11, f12, f13⟩ := h1.cells
  obtain ⟨h2, B2⟩ := h1.setK 0
  have hz2 : (Z1.setCell ⟨R + 3, 0, none⟩ (.int .i64 ((0 : Nat) : Int))) = Z1.setCell ⟨R + 3, 0, none⟩ (.int .i64 0) := rfl
  rw [hz2] at h2 B2
  clear hz2
  generalize hZ2 : (Z1.setCell ⟨R + 3, 0, none⟩ (.int .i64 0)) = Z2 at *
  obtain ⟨q2, n2, k2, c20, c21, c22, c23, f20, f21, f22, f23⟩ := h2.cells
  obtain ⟨r3, s3, t3, V3, hrun3, d3, g3, h3, B3⟩ := h2.push (2, ((tq - nx : Nat) : Int), []) (by first | omega | (simp; omega)) c20
  have hru3 : (Builtin.append_ #[22, 22] 22 #[.slice q2 n2 k2, .slice (some ⟨Z2.heap.size, 0, none⟩) 1 1]).run Try.prog (Z2.alloc (.cells #[.int .i64 2, .int .i64 ((tq : Int) - (nx : Int)), .string ⟨#[]⟩] 46)) = .ok (.slice r3 s3 t3) V3 := by rw [show (tq : Int) - (nx : Int) = ((tq - nx : Nat) : Int) from by omega]; exact hrun3
  clear hrun3
  generalize hZ3 : (V3.setCell ⟨R, 0, none⟩ (.slice r3 s3 t3)) = Z3 at *
  obtain ⟨q3, n3, k3, c30, c31, c32, c33, f30, f31, f32, f33⟩ := h3.cells
  obtain ⟨h4, B4⟩ := h3.setP []
  have HFIN : Hid (NS R (flO out pt (tq - nx) kp, [], nx, flK pt (tq - nx) kp) (Z3.setCell ⟨R + 1, 0, none⟩ (.string ⟨#[]⟩)) ∧ BR R w (Z3.setCell ⟨R + 1, 0, none⟩ (.string ⟨#[]⟩))) := hide (by
    rw [HFO.out, HFK.out]
    refine ⟨?_, ?_⟩
    · have := h4
      exact this
    · exact (BR.trans (BR.trans (BR.trans B1 B2) B3) B4))
  have i1 : (kp : Int) > 0 := by omega
  have i2 : (tq : Int) > (nx : Int) := by omega
  have i3 := isEmptyYes ⟨pt.toArray⟩ (by rw [size_mk, hp]; rfl)
  clear h h0 h1 h2 h3 h4 B1 B2 B3 B4
  dsimp only at *
  generalize (⟨pt.toArray⟩ : ByteArray) = PT at *
  obtain ⟨FO, hFO⟩ : ∃ FO, FO = flO out pt (tq - nx) kp := ⟨_, rfl⟩
  obtain ⟨FK, hFK⟩ : ∃ FK, FK = flK pt (tq - nx) kp := ⟨_, rfl⟩
  rw [← hFO, ← hFK] at HFIN
  rw [← hFO, ← hFK]
  have HX := hide (And.intro hp (And.intro hk (And.intro hg (And.intro hFO hFK))))
  clear hp hk hg hFO hFK HFO HFK
  go_enter Try.func28, Try.ntmps28
  go_upto_region 3 with (at_builtin; refine Lib.wpList_append_run _ rfl _ _ _ _ rfl _ _ rfl rfl _ _ hru1 ?_)
  go_upto_region 7 with (at_builtin; refine Lib.wpList_append_run _ rfl _ _ _ _ rfl _ _ rfl rfl _ _ hru3 ?_)
  go_wp2
  go_end0
  exact ⟨rfl, HFIN.out⟩
set_option maxHeartbeats 8000000 in
set_option maxRecDepth 100000 in
theorem flush110 (R : Nat) (out : List Pt) (pt : List UInt8) (nx kp : Nat) (w : World) (tq : Nat) (h : NS R (out, pt, nx, kp) w) (hk : 0 < kp) (hp : pt ≠ []) (hg : tq ≤ nx) (hl : out.length ≤ 900000) (b1 : nx ≤ 100000000) (b2 : kp ≤ 100000000) (b3 : tq ≤ 100000000) :
    Calls Try.prog 28 #[.int .i64 (tq : Int), .pointer (some ⟨R + 3, 0, none⟩), .pointer (some ⟨R + 1, 0, none⟩), .pointer (some ⟨R + 2, 0, none⟩), .pointer (some ⟨R, 0, none⟩)] w fun e w' => e = .returned (.tuple #[]) ∧ NS R (flO out pt (tq - nx) kp, [], nx, flK pt (tq - nx) kp) w' ∧ BR R w w' := by
  have HFO : Hid (flO out pt (tq - nx) kp = (out ++ [(1, (kp : Int), [])]) ++ ([(3, 0, pt)] ++ [])) := hide (by unfold flO putP cutP; rw [if_pos (by exact ⟨hk, .inl hp⟩), if_neg hp, if_pos (by omega)])
  have HFK : Hid (flK pt (tq - nx) kp = 0) := hide (by unfold flK; rw [if_pos (by exact ⟨hk, .inl hp⟩)])
  have h0 := h
  obtain ⟨q0, n0, k0, c00, c01, c02, c03, f00, f01, f02, f03⟩ := h0.cells
  obtain ⟨r1, s1, t1, V1, hrun1, d1, g1, h1, B1⟩ := h0.push (1, (kp : Int), []) (by first | omega | (simp; omega)) c00
  have hru1 : (Builtin.append_ #[22, 22] 22 #[.slice q0 n0 k0, .slice (some ⟨w.heap.size, 0, none⟩) 1 1]).run Try.prog (w.alloc (.cells #[.int .i64 1, .int .i64 (kp : Int), .string ⟨#[]⟩] 46)) = .ok (.slice r1 s1 t1) V1 := by exact hrun1
  clear hrun1
  generalize hZ1 : (V1.setCell ⟨R, 0, none⟩ (.slice r1 s1 t1)) = Z1 at *
  obtain ⟨q1, n1, k1, c10, c11, c12, c13, f10, f11, f12, f13⟩ := h1.cells
  obtain ⟨h2, B2⟩ := h1.setK 0
  have hz2 : (Z1.setCell ⟨R + 3, 0, none⟩ (.int .i64 ((0 : Nat) : Int))) = Z1.setCell ⟨R + 3, 0, none⟩ (.int .i64 0) := rfl
  rw [hz2] at h2 B2
  clear hz2
  generalize hZ2 : (Z1.setCell ⟨R + 3, 0, none⟩ (.int .i64 0)) = Z2 at *
  obtain ⟨q2, n2, k2, c20, c21, c22, c23, f20, f21, f22, f23⟩ := h2.cells
  obtain ⟨r3, s3, t3, V3, hrun3, d3, g3, h3, B3⟩ := h2.push (3, 0, pt) (by first | omega | (simp; omega)) c20
  have hru3 : (Builtin.append_ #[22, 22] 22 #[.slice q2 n2 k2, .slice (some ⟨Z2.heap.size, 0, none⟩) 1 1]).run Try.prog (Z2.alloc (.cells #[.int .i64 3, .int .i64 0, .string ⟨pt.toArray⟩] 46)) = .ok (.slice r3 s3 t3) V3 := by exact hrun3
  clear hrun3
  generalize hZ3 : (V3.setCell ⟨R, 0, none⟩ (.slice r3 s3 t3)) = Z3 at *
  obtain ⟨q3, n3, k3, c30, c31, c32, c33, f30, f31, f32, f33⟩ := h3.cells
  obtain ⟨h4, B4⟩ := h3.setP []
  have HFIN : Hid (NS R (flO out pt (tq - nx) kp, [], nx, flK pt (tq - nx) kp) (Z3.setCell ⟨R + 1, 0, none⟩ (.string ⟨#[]⟩)) ∧ BR R w (Z3.setCell ⟨R + 1, 0, none⟩ (.string ⟨#[]⟩))) := hide (by
    rw [HFO.out, HFK.out]
    refine ⟨?_, ?_⟩
    · have := h4
      exact this
    · exact (BR.trans (BR.trans (BR.trans B1 B2) B3) B4))
  have i1 : (kp : Int) > 0 := by omega
  have i2 : ¬ (tq : Int) > (nx : Int) := by omega
  have i3 := isEmptyNo ⟨pt.toArray⟩ (by rw [size_mk]; exact List.length_pos_iff.2 hp)
  clear h h0 h1 h2 h3 h4 B1 B2 B3 B4
  dsimp only at *
  generalize (⟨pt.toArray⟩ : ByteArray) = PT at *
  obtain ⟨FO, hFO⟩ : ∃ FO, FO = flO out pt (tq - nx) kp := ⟨_, rfl⟩
  obtain ⟨FK, hFK⟩ : ∃ FK, FK = flK pt (tq - nx) kp := ⟨_, rfl⟩
  rw [← hFO, ← hFK] at HFIN
  rw [← hFO, ← hFK]
  have HX := hide (And.intro hp (And.intro hk (And.intro hg (And.intro hFO hFK))))
  clear hp hk hg hFO hFK HFO HFK
  go_enter Try.func28, Try.ntmps28
  go_upto_region 3 with (at_builtin; refine Lib.wpList_append_run _ rfl _ _ _ _ rfl _ _ rfl rfl _ _ hru1 ?_)
  go_upto_region 5 with (at_builtin; refine Lib.wpList_append_run _ rfl _ _ _ _ rfl _ _ rfl rfl _ _ hru3 ?_)
  go_wp2
  go_end0
  exact ⟨rfl, HFIN.out⟩
set_option maxHeartbeats 8000000 in
set_option maxRecDepth 100000 in
theorem flush111 (R : Nat) (out : List Pt) (pt : List UInt8) (nx kp : Nat) (w : World) (tq : Nat) (h : NS R (out, pt, nx, kp) w) (hk : 0 < kp) (hp : pt ≠ []) (hg : nx < tq) (hl : out.length ≤ 900000) (b1 : nx ≤ 100000000) (b2 : kp ≤ 100000000) (b3 : tq ≤ 100000000) :
    Calls Try.prog 28 #[.int .i64 (tq : Int), .pointer (some ⟨R + 3, 0, none⟩), .pointer (some ⟨R + 1, 0, none⟩), .pointer (some ⟨R + 2, 0, none⟩), .pointer (some ⟨R, 0, none⟩)] w fun e w' => e = .returned (.tuple #[]) ∧ NS R (flO out pt (tq - nx) kp, [], nx, flK pt (tq - nx) kp) w' ∧ BR R w w' := by
  have HFO : Hid (flO out pt (tq - nx) kp = (out ++ [(1, (kp : Int), [])]) ++ ([(3, 0, pt)] ++ [(2, ((tq - nx : Nat) : Int), [])])) := hide (by unfold flO putP cutP; rw [if_pos (by exact ⟨hk, .inl hp⟩), if_neg hp, if_neg (by omega)])
  have HFK : Hid (flK pt (tq - nx) kp = 0) := hide (by unfold flK; rw [if_pos (by exact ⟨hk, .inl hp⟩)])
  have h0 := h
  obtain ⟨q0, n0, k0, c00, c01, c02, c03, f00, f01, f02, f03⟩ := h0.cells
  obtain ⟨r1, s1, t1, V1, hrun1, d1, g1, h1, B1⟩ := h0.push (1, (kp : Int), []) (by first | omega | (simp; omega)) c00
  have hru1 : (Builtin.append_ #[22, 22] 22 #[.slice q0 n0 k0, .slice (some ⟨w.heap.size, 0, none⟩) 1 1]).run Try.prog (w.alloc (.cells #[.int .i64 1, .int .i64 (kp : Int), .string ⟨#[]⟩] 46)) = .ok (.slice r1 s1 t1) V1 := by exact hrun1
  clear hrun1
  generalize hZ1 : (V1.setCell ⟨R, 0, none⟩ (.slice r1 s1 t1)) = Z1 at *
  obtain ⟨q1, n1, k1, c10, c11, c12, c13, f10, f11, f12, f13⟩ := h1.cells
  obtain ⟨h2, B2⟩ := h1.setK 0
  have hz2 : (Z1.setCell ⟨R + 3, 0, none⟩ (.int .i64 ((0 : Nat) : Int))) = Z1.setCell ⟨R + 3, 0, none⟩ (.int .i64 0) := rfl
  rw [hz2] at h2 B2
  clear hz2
  generalize hZ2 : (Z1.setCell ⟨R + 3, 0, none⟩ (.int .i64 0)) = Z2 at *
  obtain ⟨q2, n2, k2, c20, c21, c22, c23, f20, f21, f22, f23⟩ := h2.cells
  obtain ⟨r3, s3, t3, V3, hrun3, d3, g3, h3, B3⟩ := h2.push (3, 0, pt) (by first | omega | (simp; omega)) c20
  have hru3 : (Builtin.append_ #[22, 22] 22 #[.slice q2 n2 k2, .slice (some ⟨Z2.heap.size, 0, none⟩) 1 1]).run Try.prog (Z2.alloc (.cells #[.int .i64 3, .int .i64 0, .string ⟨pt.toArray⟩] 46)) = .ok (.slice r3 s3 t3) V3 := by exact hrun3
  clear hrun3
  generalize hZ3 : (V3.setCell ⟨R, 0, none⟩ (.slice r3 s3 t3)) = Z3 at *
  obtain ⟨q3, n3, k3, c30, c31, c32, c33, f30, f31, f32, f33⟩ := h3.cells
  obtain ⟨r4, s4, t4, V4, hrun4, d4, g4, h4, B4⟩ := h3.push (2, ((tq - nx : Nat) : Int), []) (by first | omega | (simp; omega)) c30
  have hru4 : (Builtin.append_ #[22, 22] 22 #[.slice q3 n3 k3, .slice (some ⟨Z3.heap.size, 0, none⟩) 1 1]).run Try.prog (Z3.alloc (.cells #[.int .i64 2, .int .i64 ((tq : Int) - (nx : Int)), .string ⟨#[]⟩] 46)) = .ok (.slice r4 s4 t4) V4 := by rw [show (tq : Int) - (nx : Int) = ((tq - nx : Nat) : Int) from by omega]; exact hrun4
  clear hrun4
  generalize hZ4 : (V4.setCell ⟨R, 0, none⟩ (.slice r4 s4 t4)) = Z4 at *
  obtain ⟨q4, n4, k4, c40, c41, c42, c43, f40, f41, f42, f43⟩ := h4.cells
  obtain ⟨h5, B5⟩ := h4.setP []
  have HFIN : Hid (NS R (flO out pt (tq - nx) kp, [], nx, flK pt (tq - nx) kp) (Z4.setCell ⟨R + 1, 0, none⟩ (.string ⟨#[]⟩)) ∧ BR R w (Z4.setCell ⟨R + 1, 0, none⟩ (.string ⟨#[]⟩))) := hide (by
    rw [HFO.out, HFK.out]
    refine ⟨?_, ?_⟩
    · have := h5
      rw [List.append_assoc] at this; exact this
    · exact (BR.trans (BR.trans (BR.trans (BR.trans B1 B2) B3) B4) B5))
  have i1 : (kp : Int) > 0 := by omega
  have i2 : (tq : Int) > (nx : Int) := by omega
  have i3 := isEmptyNo ⟨pt.toArray⟩ (by rw [size_mk]; exact List.length_pos_iff.2 hp)
  clear h h0 h1 h2 h3 h4 h5 B1 B2 B3 B4 B5
  dsimp only at *
  generalize (⟨pt.toArray⟩ : ByteArray) = PT at *
  obtain ⟨FO, hFO⟩ : ∃ FO, FO = flO out pt (tq - nx) kp := ⟨_, rfl⟩
  obtain ⟨FK, hFK⟩ : ∃ FK, FK = flK pt (tq - nx) kp := ⟨_, rfl⟩
  rw [← hFO, ← hFK] at HFIN
  rw [← hFO, ← hFK]
  have HX := hide (And.intro hp (And.intro hk (And.intro hg (And.intro hFO hFK))))
  clear hp hk hg hFO hFK HFO HFK
  go_enter Try.func28, Try.ntmps28
  go_upto_region 3 with (at_builtin; refine Lib.wpList_append_run _ rfl _ _ _ _ rfl _ _ rfl rfl _ _ hru1 ?_)
  go_upto_region 5 with (at_builtin; refine Lib.wpList_append_run _ rfl _ _ _ _ rfl _ _ rfl rfl _ _ hru3 ?_)
  go_upto_region 7 with (at_builtin; refine Lib.wpList_append_run _ rfl _ _ _ _ rfl _ _ rfl rfl _ _ hru4 ?_)
  go_wp2
  go_end0
  exact ⟨rfl, HFIN.out⟩
theorem flush_any (R : Nat) (out : List Pt) (pt : List UInt8) (nx kp : Nat) (w : World) (tq : Nat) (h : NS R (out, pt, nx, kp) w) (hl : out.length ≤ 900000) (b1 : nx ≤ 100000000) (b2 : kp ≤ 100000000) (b3 : tq ≤ 100000000) :
    Calls Try.prog 28 #[.int .i64 (tq : Int), .pointer (some ⟨R + 3, 0, none⟩), .pointer (some ⟨R + 1, 0, none⟩), .pointer (some ⟨R + 2, 0, none⟩), .pointer (some ⟨R, 0, none⟩)] w fun e w' => e = .returned (.tuple #[]) ∧ NS R (flO out pt (tq - nx) kp, [], nx, flK pt (tq - nx) kp) w' ∧ BR R w w' := by
  by_cases hk : kp = 0
  · by_cases hp : pt = []
    · by_cases hg : nx < tq
      · exact flush001 R out pt nx kp w tq h hk hp hg hl b1 b2 b3
      · exact flush000 R out pt nx kp w tq h hk hp (by omega) hl b1 b2 b3
    · by_cases hg : nx < tq
      · exact flush011 R out pt nx kp w tq h hk hp hg hl b1 b2 b3
      · exact flush010 R out pt nx kp w tq h hk hp (by omega) hl b1 b2 b3
  · by_cases hp : pt = []
    · by_cases hg : nx < tq
      · exact flush101 R out pt nx kp w tq h (by omega) hp hg hl b1 b2 b3
      · exact flush100 R out pt nx kp w tq h (by omega) hp (by omega) hl b1 b2 b3
    · by_cases hg : nx < tq
      · exact flush111 R out pt nx kp w tq h (by omega) hp hg hl b1 b2 b3
      · exact flush110 R out pt nx kp w tq h (by omega) hp (by omega) hl b1 b2 b3
end Go.Proofs.Yteajpkoghlbneaa.spls
