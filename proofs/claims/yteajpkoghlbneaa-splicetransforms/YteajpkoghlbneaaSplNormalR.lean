/- The document's NormalOf: its loop. -/
import Derived.Test.YteajpkoghlbneaaSplNormR
import Derived.Laws.BytesString
set_option linter.unusedVariables false
namespace Go.Proofs.Yteajpkoghlbneaa.spls
open Go.RowKit

theorem catA (a b : List UInt8) (h : a.length + b.length ≤ 9223372036854775807) (u : World) : (Op.stringOp .add ⟨a.toArray⟩ ⟨b.toArray⟩).run Try.prog u = .ok (.string ⟨(a ++ b).toArray⟩) u := by
  rw [run_string_add_sum _ _ _ (by show a.toArray.size + b.toArray.size ≤ _; rw [List.size_toArray, List.size_toArray]; exact h)]
  congr 2
theorem one_newB (w : World) (x : Value) (t : TypeId) : ∀ j u, [x][j]? = some u → (w.alloc (.cells #[x] t)).cell? ((⟨w.heap.size, 0, none⟩ : Addr).add j) = some u :=
  fun j u hu => World.news_of_block (blk_alloc w #[x] t) j u hu
theorem conv_byte (c : UInt8) (w : World) : (convert 51 9 (.slice (some ⟨w.heap.size, 0, none⟩) 1 1)).run Try.prog (w.alloc (.cells #[.int .u8 (c.toNat : Int)] 5)) = .ok (.string ⟨#[c]⟩) (w.alloc (.cells #[.int .u8 (c.toNat : Int)] 5)) := by
  rw [run_convert_bytes_string _ 51 9 5 _ _ _ Try.underlying51 Try.underlying5 Try.underlying9]
  have h := run_loadCells_list (P := Try.prog) (w := w.alloc (.cells #[.int .u8 (c.toNat : Int)] 5)) ⟨w.heap.size, 0, none⟩ [.int .u8 (c.toNat : Int)] (one_newB _ _ _)
  rw [run_bytesToString _ _ 1 1 [(c.toNat : Int)] h]
  have := fold_bytes [c] ByteArray.empty
  simp only [List.map_cons, List.map_nil] at this
  rw [this]
  congr 2
theorem flO_len (out : List Pt) (pt : List UInt8) (gap kp : Nat) : (flO out pt gap kp).length ≤ out.length + 3 := by
  unfold flO
  have a := nP_le pt
  have b := nC_le gap
  unfold nP at a
  unfold nC at b
  rw [List.length_append, List.length_append]
  split
  · rw [List.length_append]; simp only [List.length_cons, List.length_nil]; omega
  · omega
theorem flK_le (pt : List UInt8) (gap kp : Nat) : flK pt gap kp ≤ kp := by
  unfold flK
  split <;> omega
theorem drun_one {S : DS} {l : List At} {j : Nat} (h : j < l.length) : drun S (l.take (j + 1)) = dstep (drun S (l.take j)) l[j] := by
  rw [List.take_succ_eq_append_getElem h]
  unfold drun
  rw [List.foldl_append]
  rfl
theorem LiesA.at {w : World} {p : Option Addr} {l : List At} (h : LiesA w p l) {j : Nat} (hj : j < l.length) : ∃ B o, p = some ⟨B, o, none⟩ ∧ B < w.heap.size ∧ w.cell? ⟨B, o + j * 2, none⟩ = some (.int .i64 l[j].1) ∧ w.cell? ⟨B, o + j * 2 + 1, none⟩ = some (.int .u8 (l[j].2.toNat : Int)) := by
  obtain ⟨B, o, e, hB, hc⟩ := h (by omega)
  exact ⟨B, o, e, hB, hc j _ (List.getElem?_eq_getElem hj)⟩
theorem ns_start (w wl : World) (hw : wl = (((w.alloc (.cells #[.slice none 0 0] 22)).alloc (.cells #[.string ⟨#[]⟩] 9)).alloc (.cells #[.int .i64 0] 3)).alloc (.cells #[.int .i64 0] 3)) : NS w.heap.size ([], [], 0, 0) wl ∧ Below w.heap.size w wl := by
  subst hw
  have s1 : (w.alloc (.cells #[.slice none 0 0] 22)).heap.size = w.heap.size + 1 := by simp
  have s2 : ((w.alloc (.cells #[.slice none 0 0] 22)).alloc (.cells #[.string ⟨#[]⟩] 9)).heap.size = w.heap.size + 2 := by simp
  have s3 : (((w.alloc (.cells #[.slice none 0 0] 22)).alloc (.cells #[.string ⟨#[]⟩] 9)).alloc (.cells #[.int .i64 0] 3)).heap.size = w.heap.size + 3 := by simp
  have k0 := (((blk_alloc w #[.slice none 0 0] 22).alloc (.cells #[.string ⟨#[]⟩] 9)).alloc (.cells #[.int .i64 0] 3)).alloc (.cells #[.int .i64 0] 3)
  have k1 := ((blk_alloc (w.alloc (.cells #[.slice none 0 0] 22)) #[.string ⟨#[]⟩] 9).alloc (.cells #[.int .i64 0] 3)).alloc (.cells #[.int .i64 0] 3)
  have k2 := (blk_alloc ((w.alloc (.cells #[.slice none 0 0] 22)).alloc (.cells #[.string ⟨#[]⟩] 9)) #[.int .i64 0] 3).alloc (.cells #[.int .i64 0] 3)
  have k3 := blk_alloc (((w.alloc (.cells #[.slice none 0 0] 22)).alloc (.cells #[.string ⟨#[]⟩] 9)).alloc (.cells #[.int .i64 0] 3)) #[.int .i64 0] 3
  rw [s1] at k1
  rw [s2] at k2
  rw [s3] at k3
  exact ⟨⟨_, k0, World.ownsRow_nil _ _ _ _, fun g hg => (by cases hg), k1, k2, k3⟩, ((((Below.refl _ w).alloc (Nat.le_refl _) _).alloc (by omega) _).alloc (by omega) _).alloc (by omega) _⟩
set_option maxHeartbeats 16000000 in
set_option maxRecDepth 100000 in
theorem normalOf_any (w : World) (p : Option Addr) (c : Nat) (l : List At) (n : Nat) (hA : LiesA w p l) (hr : ∀ a ∈ l, -1 ≤ a.1 ∧ a.1 ≤ 1000000) (hl : l.length ≤ 100000) (hn : n ≤ 1000000) :
    Calls Try.prog 16 #[.slice p l.length c, .int .i64 (n : Int)] w fun e w' => ∃ v, e = .returned v ∧ OwnP w' w.heap.size v (dfin (drun ([], [], 0, 0) l) n) ∧ Below w.heap.size w w' := by
  have HA := hide hA
  have HR := hide hr
  have H0 : Hid (∀ wl, wl = (((w.alloc (.cells #[.slice none 0 0] 22)).alloc (.cells #[.string ⟨#[]⟩] 9)).alloc (.cells #[.int .i64 0] 3)).alloc (.cells #[.int .i64 0] 3) → NS w.heap.size ([], [], 0, 0) wl ∧ Below w.heap.size w wl) := hide fun wl h => ns_start w wl h
  clear hA hr
  go_enter Try.func16, Try.ntmps16
  go_wp2_with fail
  generalize hwl : (((w.alloc (.cells #[.slice none 0 0] 22)).alloc (.cells #[.string ⟨#[]⟩] 9)).alloc (.cells #[.int .i64 0] 3)).alloc (.cells #[.int .i64 0] 3) = wl at *
  have HS0 := hide (H0.out wl rfl)
  clear H0
  generalize hR : w.heap.size = R at *
  go_loopw [15] (fun i wr => ∃ (j : Nat) (out : List Pt) (pt : List UInt8) (nx kp : Nat), i = .int .i64 j ∧ j ≤ l.length ∧ Hid ((out, pt, nx, kp) = drun ([], [], 0, 0) (l.take j)) ∧ (out.length ≤ 3 * j ∧ pt.length ≤ j ∧ nx ≤ 1000001 ∧ kp ≤ j) ∧ Hid (NS R (out, pt, nx, kp) wr ∧ Below R w wr)) (fun i _ => l.length - (intOf i).toNat)
  case atStart => exact ⟨0, [], [], 0, 0, rfl, Nat.zero_le _, hide rfl, ⟨Nat.zero_le _, Nat.zero_le _, Nat.zero_le _, Nat.zero_le _⟩, HS0⟩
  case round =>
    obtain ⟨j, out, pt, nx, kp, rfl, hj, HD, ⟨m1, m2, m3, m4⟩, HNS⟩ := hrel
    by_cases hlt : j < l.length
    · obtain ⟨B, o, rfl, hB, c0, c1⟩ := HA.out.at hlt
      rw [hR] at hB
      have x0 := (HNS.out.2.cell (p := ⟨B, o + j * 2, none⟩) hB).trans c0
      have x1 := (HNS.out.2.cell (p := ⟨B, o + j * 2 + 1, none⟩) hB).trans c1
      have hra := HR.out _ (List.getElem_mem hlt)
      have hd1 := drun_one (S := ([], [], 0, 0)) hlt
      rw [← HD.out] at hd1
      have hR4 : R + 4 ≤ wr.heap.size := HNS.out.1.lt
      have hRw : R ≤ wr.heap.size := by omega
      have hb1 : Below wr.heap.size wr (wr.alloc (.cells #[.int .i64 l[j].1, .int .u8 (l[j].2.toNat : Int)] 41)) := (Below.refl _ wr).alloc (Nat.le_refl _) _
      have hN1 : Hid (NS R (out, pt, nx, kp) (wr.alloc (.cells #[.int .i64 l[j].1, .int .u8 (l[j].2.toNat : Int)] 41)) ∧ Below R w (wr.alloc (.cells #[.int .i64 l[j].1, .int .u8 (l[j].2.toNat : Int)] 41))) := hide ⟨HNS.out.1.chg hb1, HNS.out.2.trans (hb1.mono hRw)⟩
      have hbx := blk_alloc wr #[.int .i64 l[j].1, .int .u8 (l[j].2.toNat : Int)] 41
      clear c0 c1 HNS HD
      generalize hlj : l[j] = aa at *
      obtain ⟨av, ac⟩ := aa
      dsimp only at x0 x1 hra hb1 hN1 hbx
      have HBX := hide hbx
      clear hbx hb1
      by_cases hneg : av < 0
      · have HE : Hid ((out, pt ++ [ac], nx, kp) = drun ([], [], 0, 0) (l.take (j + 1))) := hide (by rw [hd1]; unfold dstep; rw [if_pos hneg])
        have hcat := catA pt [ac] (by simp; omega)
        have hsP := hN1.out.1
        obtain ⟨q0, n0, k0, e0, e1, e2, e3, f0, f1, f2, f3⟩ := hsP.cells
        have hcv := conv_byte ac (wr.alloc (.cells #[.int .i64 av, .int .u8 (ac.toNat : Int)] 41))
        rw [show (wr.alloc (.cells #[.int .i64 av, .int .u8 (ac.toNat : Int)] 41)).heap.size = wr.heap.size + 1 from by simp] at hcv
        have hb2 : Below (wr.alloc (.cells #[.int .i64 av, .int .u8 (ac.toNat : Int)] 41)).heap.size (wr.alloc (.cells #[.int .i64 av, .int .u8 (ac.toNat : Int)] 41)) ((wr.alloc (.cells #[.int .i64 av, .int .u8 (ac.toNat : Int)] 41)).alloc (.cells #[.int .u8 (ac.toNat : Int)] 5)) := (Below.refl _ _).alloc (Nat.le_refl _) _
        have hN2 := hsP.chg hb2
        obtain ⟨q2, n2, k2, g0, g1, g2, g3, h0, h1, h2, h3⟩ := hN2.cells
        obtain ⟨s1, s2⟩ := hN2.setP (pt ++ [ac])
        have HF : Hid (NS R (out, pt ++ [ac], nx, kp) (((wr.alloc (.cells #[.int .i64 av, .int .u8 (ac.toNat : Int)] 41)).alloc (.cells #[.int .u8 (ac.toNat : Int)] 5)).setCell ⟨R + 1, 0, none⟩ (.string ⟨(pt ++ [ac]).toArray⟩)) ∧ Below R w (((wr.alloc (.cells #[.int .i64 av, .int .u8 (ac.toNat : Int)] 41)).alloc (.cells #[.int .u8 (ac.toNat : Int)] 5)).setCell ⟨R + 1, 0, none⟩ (.string ⟨(pt ++ [ac]).toArray⟩))) := hide ⟨s1, (hN1.out.2.trans (hb2.mono (by simp; omega))).trans s2.1⟩
        have hlen : (pt ++ [ac]).length ≤ j + 1 := by rw [List.length_append]; simp; omega
        clear hsP hN2 s1 s2 hb2 hN1 hd1 hlj
        dsimp only at *
        rw [show (⟨[ac].toArray⟩ : ByteArray) = ⟨#[ac]⟩ from rfl] at hcat
        generalize (⟨(pt ++ [ac]).toArray⟩ : ByteArray) = P2 at *
        generalize (⟨pt.toArray⟩ : ByteArray) = P1 at *
        go_wp2
        go_roundw
        case rel => exact ⟨j + 1, out, pt ++ [ac], nx, kp, by go_num, hlt, HE, ⟨by omega, hlen, m3, by omega⟩, HF⟩
        case measure => simp only [intOf]; omega
      · obtain ⟨tq, rfl⟩ : ∃ tq : Nat, av = (tq : Int) := ⟨av.toNat, by omega⟩
        have HE : Hid ((flO out pt (tq - nx) kp, ([] : List UInt8), tq + 1, flK pt (tq - nx) kp + 1) = drun ([], [], 0, 0) (l.take (j + 1))) := hide (by rw [hd1]; unfold dstep; rw [if_neg hneg]; rfl)
        have hfl := flO_len out pt (tq - nx) kp
        have hfk := flK_le pt (tq - nx) kp
        have KF := hide (flush_any R out pt nx kp _ tq hN1.out.1 (by omega) (by omega) (by omega) (by omega))
        have e0 : (wr.alloc (.cells #[.int .i64 (tq : Int), .int .u8 (ac.toNat : Int)] 41)).cell? ⟨wr.heap.size, 0, none⟩ = some (.int .i64 (tq : Int)) := HBX.out.cell 0 _ rfl
        generalize hFO : flO out pt (tq - nx) kp = FO at *
        generalize hFK : flK pt (tq - nx) kp = FK at *
        have HM := hide (And.intro m2 hneg)
        clear hd1 hlj hneg m2 hFO hFK
        go_wp2_with fail
        refine (unhide KF).mono ?_
        rintro e w2 ⟨rfl, hs2, hb2⟩
        obtain ⟨q2, n2, k2, g0, g1, g2, g3, h0, h1, h2, h3⟩ := hs2.cells
        obtain ⟨s1, s2⟩ := hs2.setK (FK + 1)
        obtain ⟨t1, t2⟩ := s1.setX (tq + 1)
        obtain ⟨q3, n3, k3, i0, i1, i2, i3, j0, j1, j2, j3⟩ := s1.cells
        have HBB : Hid (Below R w w2 ∧ Below R w2 (w2.setCell ⟨R + 3, 0, none⟩ (.int .i64 ((FK + 1 : Nat) : Int)))) := hide ⟨hN1.out.2.trans hb2.1, s2.1⟩
        have HF : Hid (NS R (FO, [], tq + 1, FK + 1) ((w2.setCell ⟨R + 3, 0, none⟩ (.int .i64 ((FK : Int) + 1))).setCell ⟨R + 2, 0, none⟩ (.int .i64 ((tq : Int) + 1))) ∧ Below R w ((w2.setCell ⟨R + 3, 0, none⟩ (.int .i64 ((FK : Int) + 1))).setCell ⟨R + 2, 0, none⟩ (.int .i64 ((tq : Int) + 1)))) := hide (by
          have e1 : ((FK : Int) + 1) = ((FK + 1 : Nat) : Int) := by omega
          have e2 : ((tq : Int) + 1) = ((tq + 1 : Nat) : Int) := by omega
          rw [e1, e2]
          exact ⟨t1, (HBB.out.1.trans HBB.out.2).trans t2.1⟩)
        have kx := hb2.2 _ _ HBX.out
        have kx2 := s2.2 _ _ kx
        have ax : w2.cell? ⟨wr.heap.size, 0, none⟩ = some (.int .i64 (tq : Int)) := kx.cell 0 _ rfl
        have e1 : ((FK + 1 : Nat) : Int) = (FK : Int) + 1 := by omega
        rw [e1] at kx2 i0 i1 i2 i3 j0 j1 j2 j3
        have ay : (w2.setCell ⟨R + 3, 0, none⟩ (.int .i64 ((FK : Int) + 1))).cell? ⟨wr.heap.size, 0, none⟩ = some (.int .i64 (tq : Int)) := kx2.cell 0 _ rfl
        have hlo : FO.length ≤ 3 * (j + 1) := by omega
        clear hs2 s1 s2 t1 t2 hb2 kx kx2 KF hN1 HBX e1 HBB
        dsimp only at *
        go_wp2
        go_roundw
        case rel => exact ⟨j + 1, FO, [], tq + 1, FK + 1, by go_num, hlt, HE, ⟨hlo, Nat.zero_le _, by omega, by omega⟩, HF⟩
        case measure => simp only [intOf]; omega
    · have hjl : j = l.length := by omega
      have HDF : Hid ((out, pt, nx, kp) = drun ([], [], 0, 0) l) := hide (by rw [HD.out, hjl, List.take_length])
      have KF := hide (flush_any R out pt nx kp _ n HNS.out.1 (by omega) (by omega) (by omega) (by omega))
      have HB0 := hide HNS.out.2
      have hfl := flO_len out pt (n - nx) kp
      have hfk := flK_le pt (n - nx) kp
      have HFN : Hid (dfin (drun ([], [], 0, 0) l) n = flO out pt (n - nx) kp ++ keepP (flK pt (n - nx) kp)) := hide (by rw [← HDF.out]; rfl)
      have i1 : ¬ (j : Int) < (l.length : Int) := by omega
      generalize hFO : flO out pt (n - nx) kp = FO at *
      generalize hFK : flK pt (n - nx) kp = FK at *
      clear hjl HD HNS hFO hFK HDF
      go_wp2_with fail
      refine (unhide KF).mono ?_
      rintro e w2 ⟨rfl, hs2, hb2⟩
      obtain ⟨q2, n2, k2, g0, g1, g2, g3, h0, h1, h2, h3⟩ := hs2.cells
      have hb3 := HB0.out.trans hb2.1
      by_cases hz : FK = 0
      · have HV : Hid (OwnP w2 R (.slice q2 n2 k2) (dfin (drun ([], [], 0, 0) l) n)) := hide (by
          obtain ⟨v, x0, ho, hv, _⟩ := hs2
          have e : v = .slice q2 n2 k2 := by have := x0.cell 0 _ rfl; rw [g0] at this; injection this with this; exact this.symm
          subst e
          rw [HFN.out, hz]
          show OwnP w2 R _ (FO ++ [])
          rw [List.append_nil]
          exact own_base ho (fun g hg => by have := hv g hg; omega))
        have i2 : ¬ (FK : Int) > 0 := by omega
        clear hs2 hb2 KF
        dsimp only at *
        go_wp2
        go_ret
        exact ⟨_, rfl, by first | exact HV.out | (rw [hR]; exact HV.out), by first | exact hb3 | (rw [hR]; exact hb3)⟩
      · have hpush := hs2.push (1, (FK : Int), []) (by show FO.length ≤ 1000000; omega) g0
        obtain ⟨r1, s1, t1, V1, hrun, d1, f1, hs3, hb4⟩ := hpush
        have hru : (Builtin.append_ #[22, 22] 22 #[.slice q2 n2 k2, .slice (some ⟨w2.heap.size, 0, none⟩) 1 1]).run Try.prog (w2.alloc (.cells #[.int .i64 1, .int .i64 (FK : Int), .string ⟨#[]⟩] 46)) = .ok (.slice r1 s1 t1) V1 := hrun
        have hb5 := hb3.trans hb4.1
        have y0 : (V1.setCell ⟨R, 0, none⟩ (.slice r1 s1 t1)).cell? ⟨R, 0, none⟩ = some (.slice r1 s1 t1) := World.cell?_setCell_same' _ _ _ (by rw [d1]; rfl)
        have HV : Hid (OwnP (V1.setCell ⟨R, 0, none⟩ (.slice r1 s1 t1)) R (.slice r1 s1 t1) (dfin (drun ([], [], 0, 0) l) n)) := hide (by
          obtain ⟨v, x0, ho, hv, _⟩ := hs3
          have e : v = .slice r1 s1 t1 := by have := x0.cell 0 _ rfl; rw [y0] at this; injection this with this; exact this.symm
          subst e
          rw [HFN.out, show keepP FK = [(1, (FK : Int), [])] from if_neg hz]
          exact own_base ho (fun g hg => by have := hv g hg; omega))
        have i2 : (FK : Int) > 0 := by omega
        clear hs2 hs3 hb2 KF hrun hb4
        dsimp only at *
        go_wp2_with (at_builtin; refine Lib.wpList_append_run _ rfl _ _ _ _ rfl _ _ rfl rfl _ _ hru ?_)
        go_ret
        exact ⟨_, rfl, by first | exact HV.out | (rw [hR]; exact HV.out), by first | exact hb5 | (rw [hR]; exact hb5)⟩
end Go.Proofs.Yteajpkoghlbneaa.spls
