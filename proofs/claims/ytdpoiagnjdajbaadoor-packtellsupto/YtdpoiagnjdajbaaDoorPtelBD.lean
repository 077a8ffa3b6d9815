/- The law PackBack. -/
import Derived.Test.YtdpoiagnjdajbaaDoorPtelBC
import Derived.Test.YtdpoiagnjdajbaaDoorPtelBB
import Derived.Test.YtdpoiagnjdajbaaDoorPtelAF
import Derived.Test.YtdpoiagnjdajbaaDoorPtelAQ
set_option linter.unusedVariables false
namespace Go.Proofs.YtdpoiagnjdajbaaDoor.valus
open Go.RowKit Go.Shelf

/-- What was packed is read. -/
theorem read_packed {f : Nat} {t : V} (hI : IsV f t) (hG : GoodV f t) (h0 : faultV oneV t = 0) : valM 1001 (encV f t, false, 0) = (t, [], false, nodesV f t) := by
  obtain ⟨hd, hn⟩ := good_sizes hI h0
  have h20 := hI.shallow hd
  have hI2 : IsV 1001 t := h20.le (by omega)
  have hn2 : nodesV 1001 t = nodesV f t := by
    rcases Nat.le_total f 1001 with h | h
    · exact nodesV_le hI h
    · exact (nodesV_le hI2 h).symm
  have h := valM_enc 1001 t hI2 (hG.of hI2) (few_good hI2 h0) [] false 0 (by rw [hn2]; omega)
  rw [List.append_nil, Nat.zero_add, hn2, encV_any hI hI2] at h
  exact h
theorem unp_packed {f n0 : Nat} {t : V} {e : Ending} {w' : World} (hI : IsV f t) (hG : GoodV f t) (h0 : faultV oneV t = 0) (h : UnpRes n0 (encV f t) e w') : ∃ (k n : Int) (b : Nat) (z : ByteArray) (pL : Option Addr) (nL cL : Nat) (pE : Option Addr) (nE cE : Nat), e = .returned (.tuple #[.agg #[.int .i64 k, .int .i64 n, .int .u64 (b : Int), .string z, .slice pL nL cL, .slice pE nE cE], .int .i64 0]) ∧ LiesV (fun b => n0 ≤ b ∧ b < w'.heap.size) 1002 w' [.int .i64 k, .int .i64 n, .int .u64 (b : Int), .string z, .slice pL nL cL, .slice pE nE cE] t := by
  unfold UnpRes at h
  rw [read_packed hI hG h0] at h
  rcases h with ⟨_, _, hx⟩ | ⟨fe, h1 | h1, _⟩
  · exact hx
  · exact absurd (h1.2.1.symm.trans h0) h1.2.2
  · exact absurd ⟨rfl, rfl⟩ h1.1
theorem OwnB.at' {n0 : Nat} {W : World} {v : Value} {l : List UInt8} (h : OwnB n0 W v l) (hl : l ≠ []) : ∃ g cap, v = .slice (some ⟨g, 0, none⟩) l.length cap ∧ l.length ≤ cap ∧ cap ≤ maxLen ∧ BytesAt W (some ⟨g, 0, none⟩) l W.heap.size := by
  rcases h.2 with ⟨_, h2⟩ | ⟨g, cap, cur, h1, h2, h3, h4, h5, h6, h7⟩
  · exact absurd (List.eq_nil_of_length_eq_zero h2) hl
  · refine ⟨g, cap, h1, h4, h5, fun _ => ⟨g, 0, rfl, (Array.getElem?_eq_some_iff.1 h3).1, fun j u hj => ?_⟩⟩
    rw [Nat.mul_one] at h7
    rw [← h7, List.getElem?_take] at hj
    split at hj
    · simp only [World.cell?, h3, Nat.zero_add]
      simpa using hj
    · cases hj
set_option maxHeartbeats 8000000 in
set_option maxRecDepth 100000 in
theorem lawPackBack (f : Nat) (w : World) (t : V) (a0 a1 a2 a3 a4 a5 : Value) (hl : LiesV (fun b => b < w.heap.size) f w [a0, a1, a2, a3, a4, a5] t) (hn : nodesV f t ≤ 1048576) (hT : Lib.Utf8Tabs 1 2 w ∧ ∃ m : Int, w.cell? ⟨0, 0, none⟩ = some (.int .i64 m)) :
    Calls Tryd.prog 4 #[.agg #[a0, a1, a2, a3, a4, a5]] w fun e w' => e = .returned (.bool true) ∧ Below w.heap.size w w' := by
  obtain ⟨hT1, m, hm⟩ := hT
  have hGl := World.block_lt_of_cell? w _ hm
  obtain ⟨k, n, b, s, pL, nL, cL, pE, nE, cE, rfl, rfl, rfl, rfl, rfl, rfl⟩ := hl.form
  obtain ⟨W1, hW1⟩ : ∃ W1, W1 = w.alloc (.cells #[.int .i64 k, .int .i64 n, .int .u64 (b : Int), .string s, .slice pL nL cL, .slice pE nE cE] 26) := ⟨_, rfl⟩
  have b1 : Below w.heap.size w W1 := by rw [hW1]; exact (Below.refl _ w).alloc (Nat.le_refl _) _
  have s1 : W1.heap.size = w.heap.size + 1 := by rw [hW1]; simp
  have hbk : Blk W1 w.heap.size #[.int .i64 k, .int .i64 n, .int .u64 (b : Int), .string s, .slice pL nL cL, .slice pE nE cE] 26 := by rw [hW1]; exact blk_alloc _ _ _
  -- what stands in every later world
  obtain ⟨J, hJ⟩ : ∃ J : World → Prop, J = Below (w.heap.size + 1) W1 := ⟨_, rfl⟩
  have jb : ∀ v, J v → Below w.heap.size w v := fun v h => by rw [hJ] at h; exact b1.trans (h.mono (by omega))
  have jn : ∀ v v', J v → Below v.heap.size v v' → J v' := fun v v' h hb => by rw [hJ] at h ⊢; exact h.trans (hb.mono (by have := h.size; omega))
  have jl : ∀ v, J v → LiesV (fun b => b < v.heap.size) f v [.int .i64 k, .int .i64 n, .int .u64 (b : Int), .string s, .slice pL nL cL, .slice pE nE cE] t := fun v h => hl.kept (fun b h' => Nat.lt_of_lt_of_le h' (jb v h).size) (jb v h).size (fun b h' _ => (jb v h).block b h')
  have jm : ∀ v, J v → v.cell? ⟨0, 0, none⟩ = some (.int .i64 m) := fun v h => ((jb v h).cell (p := ⟨0, 0, none⟩) hGl).trans hm
  have jc : ∀ v, Hid (J v → v.cell? ⟨w.heap.size, 0, none⟩ = some (.int .i64 k) ∧ v.cell? ⟨w.heap.size, 1, none⟩ = some (.int .i64 n) ∧ v.cell? ⟨w.heap.size, 2, none⟩ = some (.int .u64 (b : Int)) ∧ v.cell? ⟨w.heap.size, 3, none⟩ = some (.string s) ∧ v.cell? ⟨w.heap.size, 4, none⟩ = some (.slice pL nL cL) ∧ v.cell? ⟨w.heap.size, 5, none⟩ = some (.slice pE nE cE)) := fun v h => by
    rw [hJ] at h
    have hv : Blk v w.heap.size _ _ := (h.block w.heap.size (by omega)).trans hbk
    exact ⟨hv.cell 0 _ rfl, hv.cell 1 _ rfl, hv.cell 2 _ rfl, hv.cell 3 _ rfl, hv.cell 4 _ rfl, hv.cell 5 _ rfl⟩
  have J1 : J W1 := by rw [hJ]; exact Below.refl _ _
  have K0 : ∀ v, Hid (J v → Calls Tryd.prog 13 #[] v fun e w' => e = .returned (.bool true) ∧ J w') := fun v h => (packs_any v (Utf8Tabs_below hT1 (jb v h)) m (jm v h)).mono fun e w' ⟨e1, e2⟩ => ⟨e1, jn v w' h e2⟩
  have KC : ∀ v, Hid (J v → Calls Tryd.prog 14 #[.agg #[.int .i64 k, .int .i64 n, .int .u64 (b : Int), .string s, .slice pL nL cL, .slice pE nE cE]] v fun e w' => e = .returned (.int .i64 (faultV oneV t)) ∧ J w') := fun v h => (callsIn_wide.1 (check_any f v t _ _ _ _ _ _ (jl v h) (by omega) (Utf8Tabs_below hT1 (jb v h)))).mono fun e w' ⟨e1, e2⟩ => ⟨e1, jn v w' h e2⟩
  have KP : ∀ v, J v → Calls Tryd.prog 7 #[.agg #[.int .i64 k, .int .i64 n, .int .u64 (b : Int), .string s, .slice pL nL cL, .slice pE nE cE]] v fun e w' => PackRes v.heap.size f t e w' ∧ Below v.heap.size v w' := fun v h => pack_any f v t _ _ _ _ _ _ (jl v h) (by omega) (Utf8Tabs_below hT1 (jb v h)) m (jm v h)
  have HJB := hide jb
  have HL := hide jl
  by_cases h0 : faultV oneV t = 0
  · have hgood := good_lies hl h0
    have hI := hl.isV
    have hne : encV f t ≠ [] := by
      cases f with
      | zero => exact hgood.elim
      | succ f => exact fun h => by cases h
    have hlen : (encV f t).length < 90000000 := by
      have h1 := encV_len f t hgood
      have h2 := (good_sizes hI h0).2
      omega
    have hnd : (valM 1001 (encV f t, false, 0)).2.2.1 = false → nodesV 1002 (valM 1001 (encV f t, false, 0)).1 ≤ 10000000 := fun _ => by
      rw [read_packed hI hgood h0]
      have hd := good_sizes hI h0
      have h20 : IsV 20 t := hI.shallow hd.1
      have e1 : nodesV 1002 t = nodesV f t := by
        rcases Nat.le_total f 1002 with h | h
        · exact nodesV_le hI h
        · exact (nodesV_le (h20.le (by omega)) h).symm
      show nodesV 1002 t ≤ _
      rw [e1]
      omega
    have KP2 : ∀ v, Hid (J v → Calls Tryd.prog 7 #[.agg #[.int .i64 k, .int .i64 n, .int .u64 (b : Int), .string s, .slice pL nL cL, .slice pE nE cE]] v fun e w' => (∃ g cap, e = .returned (.tuple #[.slice (some ⟨g, 0, none⟩) (encV f t).length cap, .int .i64 0]) ∧ (encV f t).length ≤ cap ∧ cap ≤ maxLen ∧ BytesAt w' (some ⟨g, 0, none⟩) (encV f t) w'.heap.size) ∧ J w') := fun v h => (KP v h).mono fun e w' ⟨e1, e2⟩ => ⟨by
      rcases e1 with ⟨_, v', e3, e4⟩ | ⟨e3, _⟩
      · obtain ⟨g, cap, rfl, e5, e6, e7⟩ := e4.at' hne
        exact ⟨g, cap, e3, e5, e6, e7⟩
      · exact absurd h0 e3, jn v w' h e2⟩
    have KU : ∀ v g cap, Hid (J v → (encV f t).length ≤ cap → cap ≤ maxLen → BytesAt v (some ⟨g, 0, none⟩) (encV f t) v.heap.size → Calls Tryd.prog 8 #[.slice (some ⟨g, 0, none⟩) (encV f t).length cap] v fun e w' => (∃ (k n : Int) (b : Nat) (z : ByteArray) (pL : Option Addr) (nL cL : Nat) (pE : Option Addr) (nE cE : Nat), e = .returned (.tuple #[.agg #[.int .i64 k, .int .i64 n, .int .u64 (b : Int), .string z, .slice pL nL cL, .slice pE nE cE], .int .i64 0]) ∧ LiesV (fun b => v.heap.size ≤ b ∧ b < w'.heap.size) 1002 w' [.int .i64 k, .int .i64 n, .int .u64 (b : Int), .string z, .slice pL nL cL, .slice pE nE cE] t) ∧ J w') := fun v g cap h c1 c2 c3 => (unpack_any v _ _ cap c1 c2 c3 hlen hnd (Utf8Tabs_below hT1 (jb v h))).mono fun e w' ⟨e1, e2⟩ => ⟨unp_packed hI hgood h0 e1, jn v w' h e2⟩
    have KL : ∀ v (c0 c1 c2 c3 c4 c5 : Value), Hid (J v → LiesV (fun b => b < v.heap.size) 1002 v [c0, c1, c2, c3, c4, c5] t → Calls Tryd.prog 15 #[.agg #[.int .i64 k, .int .i64 n, .int .u64 (b : Int), .string s, .slice pL nL cL, .slice pE nE cE], .agg #[c0, c1, c2, c3, c4, c5]] v fun e w' => e = .returned (.bool true) ∧ J w') := fun v c0 c1 c2 c3 c4 c5 h hx => (alike_same f 1002 t v _ _ _ _ _ _ _ _ _ _ _ _ (jl v h) hx).mono fun e w' ⟨e1, e2⟩ => ⟨e1, jn v w' h e2⟩
    have HA : ∀ v (c : Array Value), Hid (J v → J (v.alloc (.cells c 26))) := fun v c h => jn v _ h ((Below.refl _ v).alloc (Nat.le_refl _) _)
    obtain ⟨x0, x1, x2, x3, x4, x5⟩ := unhide (jc _) J1
    have H1 := hide hW1
    rw [hW1] at x0 x1 x2 x3 x4 x5 J1
    clear KP KC jb jn jl jm hW1 hbk hl hT1 hm hJ b1 s1 h0 hgood hI hne hlen hnd
    generalize (encV f t).length = ln at *
    go_enter Tryd.func4, Tryd.ntmps4
    go_upto_region 7 with (first
      | (go_at_call 13; refine (unhide (K0 _) (by assumption)).mono ?_; rintro e w2 ⟨rfl, G2⟩; obtain ⟨s0, s1, s2, s3, s4, s5⟩ := unhide (jc _) G2)
      | (go_at_call 7; refine (unhide (KP2 _) (by assumption)).mono ?_; rintro e w3 ⟨⟨g, cap, rfl, c1, c2, c3⟩, G3⟩)
      | (go_at_call 8; refine (unhide (KU _ _ _) G3 c1 c2 c3).mono ?_; rintro e w4 ⟨⟨k', n', b', z', qL, mL, dL, qE, mE, dE, rfl, hlv⟩, G4⟩; clear c1 c2 c3))
    have G5 := unhide (HA w4 #[Value.int IntKind.i64 k', .int .i64 n', .int .u64 (b' : Int), .string z', .slice qL mL dL, .slice qE mE dE]) G4
    have b5 : Below w4.heap.size w4 (w4.alloc (.cells #[Value.int IntKind.i64 k', .int .i64 n', .int .u64 (b' : Int), .string z', .slice qL mL dL, .slice qE mE dE] 26)) := (Below.refl _ w4).alloc (Nat.le_refl _) _
    have h5 := blk_alloc w4 #[Value.int IntKind.i64 k', .int .i64 n', .int .u64 (b' : Int), .string z', .slice qL mL dL, .slice qE mE dE] 26
    have l5 := hlv.kept (ok' := fun q => q < (w4.alloc (.cells #[Value.int IntKind.i64 k', .int .i64 n', .int .u64 (b' : Int), .string z', .slice qL mL dL, .slice qE mE dE] 26)).heap.size) (fun q hq => Nat.lt_of_lt_of_le hq.2 b5.size) b5.size (fun q hq _ => b5.block q hq.2)
    clear hlv b5
    generalize w4.alloc (.cells #[Value.int IntKind.i64 k', .int .i64 n', .int .u64 (b' : Int), .string z', .slice qL mL dL, .slice qE mE dE] 26) = X at *
    generalize w4.heap.size = D at *
    obtain ⟨s0, s1, s2, s3, s4, s5⟩ := unhide (jc _) G5
    have q0 := h5.cell 0 _ rfl
    have q1 := h5.cell 1 _ rfl
    have q2 := h5.cell 2 _ rfl
    have q3 := h5.cell 3 _ rfl
    have q4 := h5.cell 4 _ rfl
    have q5 := h5.cell 5 _ rfl
    have HK := hide (unhide (KL X _ _ _ _ _ _) G5 l5)
    clear h5 l5 x0 x1 x2 x3 x4 x5 KL KU KP2 K0
    go_wp2_with (go_at_call 15; refine (unhide HK).mono ?_; rintro e w6 ⟨rfl, G6⟩)
    go_ret
    exact ⟨rfl, HJB.out _ G6⟩
  · have KP2 : ∀ v, Hid (J v → Calls Tryd.prog 7 #[.agg #[.int .i64 k, .int .i64 n, .int .u64 (b : Int), .string s, .slice pL nL cL, .slice pE nE cE]] v fun e w' => e = .returned (.tuple #[.slice none 0 0, .int .i64 (faultV oneV t)]) ∧ J w') := fun v h => (KP v h).mono fun e w' ⟨e1, e2⟩ => ⟨by
      rcases e1 with ⟨e3, _⟩ | ⟨_, e3⟩
      · exact absurd e3 h0
      · exact e3, jn v w' h e2⟩
    obtain ⟨x0, x1, x2, x3, x4, x5⟩ := unhide (jc _) J1
    have H1 := hide hW1
    rw [hW1] at x0 x1 x2 x3 x4 x5 J1
    have g4 : (faultV oneV t != 0) = true := bne_iff_ne.2 h0
    clear KP jb jn jl jm hW1 hbk hl hT1 hm hJ b1 s1
    generalize faultV oneV t = fv at *
    go_enter Tryd.func4, Tryd.ntmps4
    go_wp2_with (first
      | (go_at_call 13; refine (unhide (K0 _) (by assumption)).mono ?_; rintro e w2 ⟨rfl, G2⟩; obtain ⟨s0, s1, s2, s3, s4, s5⟩ := unhide (jc _) G2)
      | (go_at_call 7; refine (unhide (KP2 _) G2).mono ?_; rintro e w3 ⟨rfl, G3⟩; obtain ⟨s0, s1, s2, s3, s4, s5⟩ := unhide (jc _) G3)
      | (go_at_call 14; refine (unhide (KC _) G3).mono ?_; rintro e w4 ⟨rfl, G4⟩))
    go_ret
    exact ⟨rfl, HJB.out _ G4⟩
end Go.Proofs.YtdpoiagnjdajbaaDoor.valus
/- The law PackOne. -/
set_option linter.unusedVariables false
namespace Go.Proofs.YtdpoiagnjdajbaaDoor.valus
open Go.RowKit Go.Shelf

theorem fold_push : ∀ (xs : List Int) (acc : ByteArray), xs.foldl (fun r n => r.push (UInt8.ofNat n.toNat)) acc = ⟨acc.data ++ (xs.map fun n => UInt8.ofNat n.toNat).toArray⟩
  | [], acc => by
    cases acc
    simp
  | x :: r, acc => by
    rw [List.foldl_cons, fold_push r]
    show ByteArray.mk (acc.data.push _ ++ _) = _
    simp
theorem conv_bytes (w : World) (p : Option Addr) (l : List UInt8) (c R : Nat) (hne : l ≠ []) (hB : BytesAt w p l R) :
    (convert 27 9 (.slice p l.length c)).run Tryd.prog w = .ok (.string (strOfNums (l.map fun x => (x.toNat : Int)))) w := by
  obtain ⟨g, o, rfl, _, hc⟩ := hB hne
  rw [run_convert_bytes_string _ 27 9 5 _ _ _ Tryd.underlying27 Tryd.underlying5 Tryd.underlying9]
  have hm : (l.map fun x => (x.toNat : Int)).map (Value.int .u8) = l.map cellB := by
    rw [List.map_map]
    rfl
  have h := run_loadCells_list (P := Tryd.prog) (w := w) ⟨g, o, none⟩ ((l.map fun x => (x.toNat : Int)).map (Value.int .u8)) (fun j u hj => by
    rw [Addr.add_lit]
    rw [hm] at hj
    exact hc j u hj)
  have hn : ((l.map fun x => (x.toNat : Int)).map (Value.int .u8)).length = l.length := by simp
  rw [hn] at h
  rw [run_bytesToString _ _ l.length c (l.map fun x => (x.toNat : Int)) h, fold_push]
  have e : (ByteArray.empty.data ++ ((l.map fun x => (x.toNat : Int)).map fun n => UInt8.ofNat n.toNat).toArray : Array UInt8) = ((l.map fun x => (x.toNat : Int)).map fun n => UInt8.ofNat n.toNat).toArray := Array.empty_append
  rw [e]
  rfl
theorem bytes_backQ (l : List UInt8) : Lib.bytesOf (l.map fun c => (c.toNat : Int)) = l := by
  unfold Lib.bytesOf
  rw [List.map_map]
  conv => rhs; rw [← List.map_id l]
  apply List.map_congr_left
  intro c _
  simp
theorem equalB_any (w : World) (p q : Option Addr) (l : List UInt8) (c d R R' : Nat) (hne : l ≠ []) (h : BytesAt w p l R) (h' : BytesAt w q l R') : Calls Tryd.prog 20 #[.slice p l.length c, .slice q l.length d] w fun e w' => e = .returned (.bool true) ∧ w' = w := by
  have K := Tryd.bytes_Equal (.slice p l.length c) (.slice q l.length d) _ _ w (conv_bytes w p l c R hne h) (conv_bytes w q l d R' hne h')
  refine K.mono fun e w' ⟨e1, e2⟩ => ⟨?_, e2⟩
  rw [e1]
  simp
/-- What is unpacked was packed so. -/
theorem packed_read {l : List UInt8} (hf : (valM 1001 (l, false, 0)).2.2.1 = false) (hr : (valM 1001 (l, false, 0)).2.1 = []) (h0 : faultV oneV (valM 1001 (l, false, 0)).1 = 0) : l = encV 1002 (valM 1001 (l, false, 0)).1 := by
  obtain ⟨_, h2, h3, h4⟩ := valM_one 1001 (l, false, 0) hf
  rw [encV_more h2]
  rcases h4 with ⟨a, _⟩ | a | a
  · rw [hr, List.append_nil] at a
    exact a
  · have hn := (good_sizes h2 h0).2
    have a' : 2000 < 0 + nodesV 1001 (valM 1001 (l, false, 0)).1 := a
    omega
  · exact absurd (few_good h2 h0) a
theorem BytesAt.later {w w' : World} {p : Option Addr} {l : List UInt8} {R : Nat} (h : BytesAt w p l R) (hb : Below R w w') (hs : R ≤ w'.heap.size) : BytesAt w' p l w'.heap.size := fun hl => by
  obtain ⟨g, o, e1, e2, e3⟩ := h hl
  exact ⟨g, o, e1, by omega, fun j u hj => (World.cell?_of_block (a := ⟨g, o + j, none⟩) (hb.block g e2)).trans (e3 j u hj)⟩
set_option maxHeartbeats 8000000 in
set_option maxRecDepth 100000 in
theorem lawPackOne (w : World) (p : Option Addr) (l : List UInt8) (c : Nat) (hl : l.length ≤ c) (hc : c ≤ maxLen) (hB : BytesAt w p l w.heap.size) (h8 : l.length ≤ 1048576) (hT : Lib.Utf8Tabs 1 2 w ∧ ∃ m : Int, w.cell? ⟨0, 0, none⟩ = some (.int .i64 m)) :
    Calls Tryd.prog 6 #[.slice p l.length c] w fun e w' => e = .returned (.bool true) ∧ Below w.heap.size w w' := by
  obtain ⟨hT1, m, hm⟩ := hT
  have hGl := World.block_lt_of_cell? w _ hm
  obtain ⟨J, hJ⟩ : ∃ J : World → Prop, J = Below w.heap.size w := ⟨_, rfl⟩
  have jb : ∀ v, J v → Below w.heap.size w v := fun v h => by rw [hJ] at h; exact h
  have jn : ∀ v v', J v → Below v.heap.size v v' → J v' := fun v v' h hb => by rw [hJ] at h ⊢; exact h.trans (hb.mono h.size)
  have jm : ∀ v, J v → v.cell? ⟨0, 0, none⟩ = some (.int .i64 m) := fun v h => ((jb v h).cell (p := ⟨0, 0, none⟩) hGl).trans hm
  have jB : ∀ v, J v → BytesAt v p l v.heap.size := fun v h => hB.later (jb v h) (jb v h).size
  have J1 : J w := by rw [hJ]; exact Below.refl _ _
  have K0 : ∀ v, Hid (J v → Calls Tryd.prog 13 #[] v fun e w' => e = .returned (.bool true) ∧ J w') := fun v h => (packs_any v (Utf8Tabs_below hT1 (jb v h)) m (jm v h)).mono fun e w' ⟨e1, e2⟩ => ⟨e1, jn v w' h e2⟩
  have KU : ∀ v, J v → Calls Tryd.prog 8 #[.slice p l.length c] v fun e w' => UnpRes v.heap.size l e w' ∧ J w' := fun v h => (unpack_any v p l c hl hc (jB v h) (by omega) (nodes_read l (by omega)) (Utf8Tabs_below hT1 (jb v h))).mono fun e w' ⟨e1, e2⟩ => ⟨e1, jn v w' h e2⟩
  have HJB := hide jb
  have HA : ∀ v (c : Array Value), Hid (J v → J (v.alloc (.cells c 26))) := fun v c h => jn v _ h ((Below.refl _ v).alloc (Nat.le_refl _) _)
  by_cases hg : ((valM 1001 (l, false, 0)).2.2.1 = false ∧ (valM 1001 (l, false, 0)).2.1 = []) ∧ faultV oneV (valM 1001 (l, false, 0)).1 = 0
  · have hle := packed_read hg.1.1 hg.1.2 hg.2
    have hnd := nodes_read l (by omega) hg.1.1
    have hne : l ≠ [] := fun e => by
      rw [e] at hle
      have : encV 1002 (valM 1001 (([] : List UInt8), false, 0)).1 ≠ [] := fun h => by cases h
      exact this hle.symm
    have KU2 : ∀ v, Hid (J v → Calls Tryd.prog 8 #[.slice p l.length c] v fun e w' => (∃ (k n : Int) (b : Nat) (z : ByteArray) (pL : Option Addr) (nL cL : Nat) (pE : Option Addr) (nE cE : Nat), e = .returned (.tuple #[.agg #[.int .i64 k, .int .i64 n, .int .u64 (b : Int), .string z, .slice pL nL cL, .slice pE nE cE], .int .i64 0]) ∧ LiesV (fun b => b < w'.heap.size) 1002 w' [.int .i64 k, .int .i64 n, .int .u64 (b : Int), .string z, .slice pL nL cL, .slice pE nE cE] (valM 1001 (l, false, 0)).1) ∧ J w') := fun v h => (KU v h).mono fun e w' ⟨e1, e2⟩ => ⟨by
      rcases e1 with ⟨_, _, k, n, b, z, pL, nL, cL, pE, nE, cE, e3, e4⟩ | ⟨fe, h1 | h1, _⟩
      · exact ⟨k, n, b, z, pL, nL, cL, pE, nE, cE, e3, e4.kept (fun q hq => hq.2) (Nat.le_refl _) (fun _ _ _ => rfl)⟩
      · exact absurd (h1.2.1.symm.trans hg.2) h1.2.2
      · exact absurd hg.1 h1.1, e2⟩
    have KP : ∀ v (k n : Int) (b : Nat) (z : ByteArray) (pL : Option Addr) (nL cL : Nat) (pE : Option Addr) (nE cE : Nat), Hid (J v → LiesV (fun b => b < v.heap.size) 1002 v [.int .i64 k, .int .i64 n, .int .u64 (b : Int), .string z, .slice pL nL cL, .slice pE nE cE] (valM 1001 (l, false, 0)).1 → Calls Tryd.prog 7 #[.agg #[.int .i64 k, .int .i64 n, .int .u64 (b : Int), .string z, .slice pL nL cL, .slice pE nE cE]] v fun e w' => (∃ g cap, e = .returned (.tuple #[.slice (some ⟨g, 0, none⟩) l.length cap, .int .i64 0]) ∧ BytesAt w' (some ⟨g, 0, none⟩) l w'.heap.size) ∧ J w') := fun v k n b z pL nL cL pE nE cE h hx => (pack_any 1002 v _ _ _ _ _ _ _ hx hnd (Utf8Tabs_below hT1 (jb v h)) m (jm v h)).mono fun e w' ⟨e1, e2⟩ => ⟨by
      rcases e1 with ⟨_, v', e3, e4⟩ | ⟨e3, _⟩
      · rw [← hle] at e4
        obtain ⟨g, cap, rfl, e5, e6, e7⟩ := e4.at' hne
        exact ⟨g, cap, e3, e7⟩
      · exact absurd hg.2 e3, jn v w' h e2⟩
    have KE : ∀ v g cap, Hid (J v → BytesAt v (some ⟨g, 0, none⟩) l v.heap.size → Calls Tryd.prog 20 #[.slice p l.length c, .slice (some ⟨g, 0, none⟩) l.length cap] v fun e w' => e = .returned (.bool true) ∧ J w') := fun v g cap h hx => (equalB_any v p (some ⟨g, 0, none⟩) l c cap _ _ hne (jB v h) hx).mono fun e w' ⟨e1, e2⟩ => ⟨e1, by rw [e2]; exact h⟩
    clear KU jn jm jb jB hT1 hm hJ hle hnd hg hB hl hc hGl
    generalize (valM 1001 (l, false, 0)).1 = t at *
    go_enter Tryd.func6, Tryd.ntmps6
    go_upto_region 4 with (first
      | (go_at_call 13; refine (unhide (K0 _) J1).mono ?_; rintro e w2 ⟨rfl, G2⟩)
      | (go_at_call 8; refine (unhide (KU2 _) G2).mono ?_; rintro e w4 ⟨⟨k, n, b, z, pL, nL, cL, pE, nE, cE, rfl, hlv⟩, G4⟩))
    have G5 := unhide (HA w4 #[.int .i64 k, .int .i64 n, .int .u64 (b : Int), .string z, .slice pL nL cL, .slice pE nE cE]) G4
    have b5 : Below w4.heap.size w4 (w4.alloc (.cells #[.int .i64 k, .int .i64 n, .int .u64 (b : Int), .string z, .slice pL nL cL, .slice pE nE cE] 26)) := (Below.refl _ w4).alloc (Nat.le_refl _) _
    have h5 := blk_alloc w4 #[.int .i64 k, .int .i64 n, .int .u64 (b : Int), .string z, .slice pL nL cL, .slice pE nE cE] 26
    have l5 := hlv.kept (ok' := fun q => q < (w4.alloc (.cells #[.int .i64 k, .int .i64 n, .int .u64 (b : Int), .string z, .slice pL nL cL, .slice pE nE cE] 26)).heap.size) (fun q hq => Nat.lt_of_lt_of_le hq b5.size) b5.size (fun q hq _ => b5.block q hq)
    clear hlv b5
    generalize w4.alloc (.cells #[.int .i64 k, .int .i64 n, .int .u64 (b : Int), .string z, .slice pL nL cL, .slice pE nE cE] 26) = X at *
    generalize w4.heap.size = D at *
    have q0 := h5.cell 0 _ rfl
    have q1 := h5.cell 1 _ rfl
    have q2 := h5.cell 2 _ rfl
    have q3 := h5.cell 3 _ rfl
    have q4 := h5.cell 4 _ rfl
    have q5 := h5.cell 5 _ rfl
    have HK := hide (unhide (KP X _ _ _ _ _ _ _ _ _ _) G5 l5)
    clear h5 l5 KU2 KP K0
    go_wp2_with (first
      | (go_at_call 7; refine (unhide HK).mono ?_; rintro e w6 ⟨⟨g, cap, rfl, c6⟩, G6⟩)
      | (go_at_call 20; refine (unhide (KE _ _ _) G6 c6).mono ?_; rintro e w7 ⟨rfl, G7⟩))
    go_ret
    exact ⟨rfl, HJB.out _ G7⟩
  · have KU2 : ∀ v, Hid (J v → Calls Tryd.prog 8 #[.slice p l.length c] v fun e w' => (∃ fe : Int, e = .returned (.tuple #[.agg #[.int .i64 0, .int .i64 0, .int .u64 0, .string ⟨#[]⟩, .slice none 0 0, .slice none 0 0], .int .i64 fe]) ∧ (fe != 0) = true) ∧ J w') := fun v h => (KU v h).mono fun e w' ⟨e1, e2⟩ => ⟨by
      rcases e1 with ⟨h1, h2, _⟩ | ⟨fe, h1, h2⟩
      · exact absurd ⟨h1, h2⟩ hg
      · refine ⟨fe, h2, ?_⟩
        rcases h1 with ⟨_, _, h3⟩ | ⟨_, h3⟩
        · exact bne_iff_ne.2 h3
        · rw [h3]
          rfl, e2⟩
    have KL : ∀ v, Hid (J v → Calls Tryd.prog 15 #[.agg #[.int .i64 0, .int .i64 0, .int .u64 0, .string ⟨#[]⟩, .slice none 0 0, .slice none 0 0], .agg #[.int .i64 0, .int .i64 0, .int .u64 0, .string ⟨#[]⟩, .slice none 0 0, .slice none 0 0]] v fun e w' => e = .returned (.bool true) ∧ J w') := fun v h => (alike_same 1 1 zeroT v _ _ _ _ _ _ _ _ _ _ _ _ (zero_lies _ v) (zero_lies _ v)).mono fun e w' ⟨e1, e2⟩ => ⟨e1, jn v w' h e2⟩
    clear KU jn jm jb jB hT1 hm hJ hg hB hl hc hGl
    go_enter Tryd.func6, Tryd.ntmps6
    go_upto_region 4 with (first
      | (go_at_call 13; refine (unhide (K0 _) J1).mono ?_; rintro e w2 ⟨rfl, G2⟩)
      | (go_at_call 8; refine (unhide (KU2 _) G2).mono ?_; rintro e w4 ⟨⟨fe, rfl, hfe⟩, G4⟩))
    have G5 := unhide (HA w4 #[.int .i64 0, .int .i64 0, .int .u64 0, .string ⟨#[]⟩, .slice none 0 0, .slice none 0 0]) G4
    have h5 := blk_alloc w4 #[.int .i64 0, .int .i64 0, .int .u64 0, .string ⟨#[]⟩, .slice none 0 0, .slice none 0 0] 26
    generalize w4.alloc (.cells #[.int .i64 0, .int .i64 0, .int .u64 0, .string ⟨#[]⟩, .slice none 0 0, .slice none 0 0] 26) = X at *
    generalize w4.heap.size = D at *
    have q0 := h5.cell 0 _ rfl
    have q1 := h5.cell 1 _ rfl
    have q2 := h5.cell 2 _ rfl
    have q3 := h5.cell 3 _ rfl
    have q4 := h5.cell 4 _ rfl
    have q5 := h5.cell 5 _ rfl
    clear h5 KU2 K0
    go_wp2_with (go_at_call 15; refine (unhide (KL _) G5).mono ?_; rintro e w6 ⟨rfl, G6⟩)
    go_ret
    exact ⟨rfl, HJB.out _ G6⟩
end Go.Proofs.YtdpoiagnjdajbaaDoor.valus
