/- The program's Unpack. -/
import Derived.Test.YtdpoiagnjdajbaaDoorPtelAY
import Derived.Test.YtdpoiagnjdajbaaDoorPtelBB
set_option linter.unusedVariables false
namespace Go.Proofs.YtdpoiagnjdajbaaDoor.valus
open Go.RowKit Go.Shelf

/-- What Unpack answers. -/
def UnpRes (n0 : Nat) (l : List UInt8) (e : Ending) (w' : World) : Prop :=
  (((valM 1001 (l, false, 0)).2.2.1 = false ∧ (valM 1001 (l, false, 0)).2.1 = []) ∧ faultV oneV (valM 1001 (l, false, 0)).1 = 0 ∧ ∃ (k n : Int) (b : Nat) (z : ByteArray) (pL : Option Addr) (nL cL : Nat) (pE : Option Addr) (nE cE : Nat), e = .returned (.tuple #[.agg #[.int .i64 k, .int .i64 n, .int .u64 (b : Int), .string z, .slice pL nL cL, .slice pE nE cE], .int .i64 0]) ∧ LiesV (fun b => n0 ≤ b ∧ b < w'.heap.size) 1002 w' [.int .i64 k, .int .i64 n, .int .u64 (b : Int), .string z, .slice pL nL cL, .slice pE nE cE] (valM 1001 (l, false, 0)).1)
  ∨ (∃ fe : Int, (((valM 1001 (l, false, 0)).2.2.1 = false ∧ (valM 1001 (l, false, 0)).2.1 = []) ∧ faultV oneV (valM 1001 (l, false, 0)).1 = fe ∧ fe ≠ 0 ∨ ¬ ((valM 1001 (l, false, 0)).2.2.1 = false ∧ (valM 1001 (l, false, 0)).2.1 = []) ∧ fe = 4) ∧ e = .returned (.tuple #[.agg #[.int .i64 0, .int .i64 0, .int .u64 0, .string ⟨#[]⟩, .slice none 0 0, .slice none 0 0], .int .i64 fe]))
theorem nodes_read (l : List UInt8) (h8 : l.length < 9000000) (hf : (valM 1001 (l, false, 0)).2.2.1 = false) : nodesV 1002 (valM 1001 (l, false, 0)).1 ≤ 10000000 := by
  have hup := valM_up 1001 (l, false, 0)
  obtain ⟨_, h2, h3, _⟩ := valM_one 1001 (l, false, 0) hf
  rw [nodesV_more h2]
  have h4 : 0 + nodesV 1001 (valM 1001 (l, false, 0)).1 ≤ (valM 1001 (l, false, 0)).2.2.2 := h3
  have h5 : (valM 1001 (l, false, 0)).2.1.length + (valM 1001 (l, false, 0)).2.2.2 ≤ l.length + 0 + 1 := hup.2
  omega
theorem results_unp {w : World} {B : Nat} {u0 u1 u2 u3 u4 u5 : Value} {x : Int} (tmps : Array Value) (h : Blk w B #[u0, u1, u2, u3, u4, u5] 26) (ht : tmps[2]? = some (.pointer (some ⟨B, 0, none⟩)) := by rfl) (hx : tmps[3]? = some (.int .i64 x) := by rfl) : (results Tryd.f8 tmps).run Tryd.prog w = .ok (.tuple #[.agg #[u0, u1, u2, u3, u4, u5], .int .i64 x]) w := by
  obtain ⟨c0, c1, c2, c3, c4, c5⟩ := h.cells6
  simp [results, Tryd.f8, ht, hx, go_sem, c0, c1, c2, c3, c4, c5]
set_option maxHeartbeats 4000000 in
set_option maxRecDepth 100000 in
theorem unpack_any (w : World) (p : Option Addr) (l : List UInt8) (c : Nat) (hl : l.length ≤ c) (hc : c ≤ maxLen) (hB : BytesAt w p l w.heap.size) (h8 : l.length < 90000000) (hnd : (valM 1001 (l, false, 0)).2.2.1 = false → nodesV 1002 (valM 1001 (l, false, 0)).1 ≤ 10000000) (hT : Lib.Utf8Tabs 1 2 w) :
    Calls Tryd.prog 8 #[.slice p l.length c] w fun e w' => UnpRes w.heap.size l e w' ∧ Below w.heap.size w w' := by
  obtain ⟨W1, hW1⟩ : ∃ W1, W1 = (w.alloc (.cells #[.int .i64 0, .int .i64 0, .int .u64 0, .string ⟨#[]⟩, .slice none 0 0, .slice none 0 0] 26)).alloc (.cells #[.slice p l.length c, .bool false, .int .i64 0] 46) := ⟨_, rfl⟩
  have b1 : Below w.heap.size w W1 := by rw [hW1]; exact ((Below.refl _ w).alloc (Nat.le_refl _) _).alloc (by simp) _
  have s1 : W1.heap.size = w.heap.size + 2 := by rw [hW1]; simp
  have hR : Blk W1 (w.heap.size + 1) #[.slice p l.length c, .bool false, .int .i64 0] 46 := by
    have h := blk_alloc (w.alloc (.cells #[.int .i64 0, .int .i64 0, .int .u64 0, .string ⟨#[]⟩, .slice none 0 0, .slice none 0 0] 26)) #[.slice p l.length c, .bool false, .int .i64 0] 46
    rw [World.size_alloc, ← hW1] at h
    exact h
  have hrb0 : Blk W1 w.heap.size #[.int .i64 0, .int .i64 0, .int .u64 0, .string ⟨#[]⟩, .slice none 0 0, .slice none 0 0] 26 := by
    rw [hW1]
    exact (blk_alloc w _ _).alloc _
  have hRd : RdAt W1 (w.heap.size + 1) (l, false, 0) := ⟨p, c, hR, hl, hc, fun hne => by
    obtain ⟨g, o, e1, e2, e3⟩ := hB hne
    exact ⟨g, o, e1, by omega, fun j u hj => (World.cell?_of_block (a := ⟨g, o + j, none⟩) (b1.block g e2)).trans (e3 j u hj)⟩⟩
  have HV := hide (pvalue_all 100000000 (w.heap.size + 1) (by decide) 1001 0 rfl W1 (l, false, 0) hRd (by show l.length + 0 < 100000000; omega) trivial)
  have HG : Hid (∀ w' (k n : Int) (b : Nat) (z : ByteArray) (pL : Option Addr) (nL cL : Nat) (pE : Option Addr) (nE cE : Nat), ((valM 1001 (l, false, 0)).2.2.1 = false ∧ (valM 1001 (l, false, 0)).2.1 = []) → faultV oneV (valM 1001 (l, false, 0)).1 = 0 → LiesV (fun b => w.heap.size ≤ b ∧ b < w'.heap.size) 1002 w' [.int .i64 k, .int .i64 n, .int .u64 (b : Int), .string z, .slice pL nL cL, .slice pE nE cE] (valM 1001 (l, false, 0)).1 → UnpRes w.heap.size l (.returned (.tuple #[.agg #[.int .i64 k, .int .i64 n, .int .u64 (b : Int), .string z, .slice pL nL cL, .slice pE nE cE], .int .i64 0])) w') := hide fun w' k n b z pL nL cL pE nE cE a1 a2 a3 => .inl ⟨a1, a2, k, n, b, z, pL, nL, cL, pE, nE, cE, rfl, a3⟩
  have HN : Hid (∀ w' (fe : Int), (((valM 1001 (l, false, 0)).2.2.1 = false ∧ (valM 1001 (l, false, 0)).2.1 = []) ∧ faultV oneV (valM 1001 (l, false, 0)).1 = fe ∧ fe ≠ 0 ∨ ¬ ((valM 1001 (l, false, 0)).2.2.1 = false ∧ (valM 1001 (l, false, 0)).2.1 = []) ∧ fe = 4) → UnpRes w.heap.size l (.returned (.tuple #[.agg #[.int .i64 0, .int .i64 0, .int .u64 0, .string ⟨#[]⟩, .slice none 0 0, .slice none 0 0], .int .i64 fe])) w') := hide fun w' fe h => .inr ⟨fe, h, rfl⟩
  have HW := hide hW1
  rw [hW1] at HV
  clear hB hRd hR hW1
  generalize hres : valM 1001 (l, false, 0) = res at *
  go_enter Tryd.func8, Tryd.ntmps8
  go_upto_region 3 with (go_at_call 22; refine (unhide HV).mono ?_; rintro e w3 ⟨⟨k, n, b, z, pL, nL, cL, pE, nE, cE, rfl, hlv⟩, r3, o3⟩)
  rw [← HW.out] at o3 hlv
  have hbw : Below w.heap.size W1 w3 := ⟨o3.os, o3.tape, o3.output, o3.size, fun q hq => o3.block q (by omega) (fun e => by have := Option.some.inj e; omega)⟩
  have bD : Below w3.heap.size w3 (w3.alloc (.cells #[.int .i64 k, .int .i64 n, .int .u64 (b : Int), .string z, .slice pL nL cL, .slice pE nE cE] 26)) := (Below.refl _ w3).alloc (Nat.le_refl _) _
  have hD := blk_alloc w3 #[.int .i64 k, .int .i64 n, .int .u64 (b : Int), .string z, .slice pL nL cL, .slice pE nE cE] 26
  have hsz := o3.size
  have hD2 : w.heap.size + 2 ≤ w3.heap.size := by omega
  have hrb3 : Blk w3 w.heap.size #[.int .i64 0, .int .i64 0, .int .u64 0, .string ⟨#[]⟩, .slice none 0 0, .slice none 0 0] 26 := (o3.block w.heap.size (by omega) (fun e => by have := Option.some.inj e; omega)).trans hrb0
  have hrbP : Blk (w3.alloc (.cells #[.int .i64 k, .int .i64 n, .int .u64 (b : Int), .string z, .slice pL nL cL, .slice pE nE cE] 26)) w.heap.size #[.int .i64 0, .int .i64 0, .int .u64 0, .string ⟨#[]⟩, .slice none 0 0, .slice none 0 0] 26 := (bD.block w.heap.size (by omega)).trans hrb3
  have rP := r3.later bD
  have bP : Below w.heap.size w _ := (b1.trans hbw).trans (bD.mono (by omega))
  have lP := hlv.kept (ok' := fun q => w.heap.size + 2 ≤ q ∧ q < (w3.alloc (.cells #[.int .i64 k, .int .i64 n, .int .u64 (b : Int), .string z, .slice pL nL cL, .slice pE nE cE] 26)).heap.size) (fun q hq => ⟨by omega, by rw [World.size_alloc]; omega⟩) bD.size (fun q hq _ => bD.block q hq.2)
  clear hlv r3 o3 hbw bD hrb3 hrb0 HW HV b1 s1
  generalize w3.alloc (.cells #[.int .i64 k, .int .i64 n, .int .u64 (b : Int), .string z, .slice pL nL cL, .slice pE nE cE] 26) = P at *
  obtain ⟨D, hDD⟩ : ∃ D, D = w3.heap.size := ⟨_, rfl⟩
  rw [← hDD] at hD hD2 ⊢
  clear hDD hsz
  obtain ⟨pR, cR, hb1, hb2, hb3, hb4⟩ := rP
  have r0 := hb1.cell 0 _ rfl
  have r1 := hb1.cell 1 _ rfl
  have HRB := hide hrbP
  have HBE := hide bP
  have HLP := hide lP
  have HDB := hide hD
  have HT := hide (Utf8Tabs_below hT bP)
  have HM := hide hnd
  clear lP hb2 hb3 hb4 hb1 hT hnd hl hc h8 hD2
  simp only [List.getElem_toArray, List.getElem_cons_zero, List.getElem_cons_succ] at r0 r1
  obtain ⟨rv, rr, rf, rc⟩ := res
  dsimp only at r0 r1 HG HN HLP HM
  cases rf with
  | true =>
    have x0 := hrbP.cell 0 _ rfl
    have x1 := hrbP.cell 1 _ rfl
    have x2 := hrbP.cell 2 _ rfl
    have x3 := hrbP.cell 3 _ rfl
    have x4 := hrbP.cell 4 _ rfl
    have x5 := hrbP.cell 5 _ rfl
    have y0 := Blk.froz hrbP 0
    have y1 := Blk.froz hrbP 1
    have y2 := Blk.froz hrbP 2
    have y3 := Blk.froz hrbP 3
    have y4 := Blk.froz hrbP 4
    have y5 := Blk.froz hrbP 5
    clear hD bP hrbP r0 hres HLP HM HG
    go_wp2
    have hX := put6_blk HRB.out (.int .i64 0) (.int .i64 0) (.int .u64 0) (.string ⟨#[]⟩) (.slice none 0 0) (.slice none 0 0)
    have hs := put6_size P w.heap.size (.int .i64 0) (.int .i64 0) (.int .u64 0) (.string ⟨#[]⟩) (.slice none 0 0) (.slice none 0 0)
    have hq := fun q hq => put6_other' P w.heap.size q hq (.int .i64 0) (.int .i64 0) (.int .u64 0) (.string ⟨#[]⟩) (.slice none 0 0) (.slice none 0 0)
    have bX := below_put6 (HBE.out) (b := w.heap.size) (Nat.le_refl _) (.int .i64 0) (.int .i64 0) (.int .u64 0) (.string ⟨#[]⟩) (.slice none 0 0) (.slice none 0 0)
    generalize hXX : put6 P w.heap.size (.int .i64 0) (.int .i64 0) (.int .u64 0) (.string ⟨#[]⟩) (.slice none 0 0) (.slice none 0 0) = X at hX hs hq bX
    simp only [put6] at hXX
    rw [hXX]
    clear hXX x0 y0 x1 y1 x2 y2 x3 y3 x4 y4 x5 y5
    refine bodyPost_ret (results_unp _ hX) rfl ⟨HN.out _ 4 (.inr ⟨fun h => (by cases h.1), rfl⟩), bX⟩
  | false =>
    cases rr with
    | cons y ys =>
      have hpos : 0 < (y :: ys).length := by simp
      generalize (y :: ys).length = ln at *
      have hposI : (0 : Int) < (ln : Int) := by omega
      have x0 := hrbP.cell 0 _ rfl
      have x1 := hrbP.cell 1 _ rfl
      have x2 := hrbP.cell 2 _ rfl
      have x3 := hrbP.cell 3 _ rfl
      have x4 := hrbP.cell 4 _ rfl
      have x5 := hrbP.cell 5 _ rfl
      have y0 := Blk.froz hrbP 0
      have y1 := Blk.froz hrbP 1
      have y2 := Blk.froz hrbP 2
      have y3 := Blk.froz hrbP 3
      have y4 := Blk.froz hrbP 4
      have y5 := Blk.froz hrbP 5
      clear hD bP hrbP hres HLP HM HG hpos
      go_wp2
      have hX := put6_blk HRB.out (.int .i64 0) (.int .i64 0) (.int .u64 0) (.string ⟨#[]⟩) (.slice none 0 0) (.slice none 0 0)
      have hs := put6_size P w.heap.size (.int .i64 0) (.int .i64 0) (.int .u64 0) (.string ⟨#[]⟩) (.slice none 0 0) (.slice none 0 0)
      have hq := fun q hq => put6_other' P w.heap.size q hq (.int .i64 0) (.int .i64 0) (.int .u64 0) (.string ⟨#[]⟩) (.slice none 0 0) (.slice none 0 0)
      have bX := below_put6 (HBE.out) (b := w.heap.size) (Nat.le_refl _) (.int .i64 0) (.int .i64 0) (.int .u64 0) (.string ⟨#[]⟩) (.slice none 0 0) (.slice none 0 0)
      generalize hXX : put6 P w.heap.size (.int .i64 0) (.int .i64 0) (.int .u64 0) (.string ⟨#[]⟩) (.slice none 0 0) (.slice none 0 0) = X at hX hs hq bX
      simp only [put6] at hXX
      rw [hXX]
      clear hXX x0 y0 x1 y1 x2 y2 x3 y3 x4 y4 x5 y5
      refine bodyPost_ret (results_unp _ hX) rfl ⟨HN.out _ 4 (.inr ⟨fun h => (by cases h.2), rfl⟩), bX⟩
    | nil =>
      simp only [List.length_nil] at r0
      have LW := HLP.out.kept (ok' := fun q => q < P.heap.size) (w' := P) (fun q hq => hq.2) (Nat.le_refl _) (fun q _ _ => rfl)
      have HC := hide (callsIn_wide.1 (check_any 1002 P rv _ _ _ _ _ _ LW (HM.out rfl) HT.out))
      have HPS := hide (And.intro hD.lt hrbP.lt)
      clear LW
      by_cases h0 : faultV oneV rv = 0
      · rw [h0] at HC
        have HG0 : Hid (∀ w', LiesV (fun b => w.heap.size ≤ b ∧ b < w'.heap.size) 1002 w' [.int .i64 k, .int .i64 n, .int .u64 (b : Int), .string z, .slice pL nL cL, .slice pE nE cE] rv → UnpRes w.heap.size l (.returned (.tuple #[.agg #[.int .i64 k, .int .i64 n, .int .u64 (b : Int), .string z, .slice pL nL cL, .slice pE nE cE], .int .i64 0])) w') := hide fun w' hx => HG.out w' k n b z pL nL cL pE nE cE ⟨rfl, rfl⟩ h0 hx
        have q0 := hD.cell 0 _ rfl
        have q1 := hD.cell 1 _ rfl
        have q2 := hD.cell 2 _ rfl
        have q3 := hD.cell 3 _ rfl
        have q4 := hD.cell 4 _ rfl
        have q5 := hD.cell 5 _ rfl
        clear hD bP hrbP hres HM HG HN h0
        go_upto_region 8 with (go_at_call 14; refine (unhide HC).mono ?_; rintro e w4 ⟨rfl, b4⟩)
        have hD4 := HDB.out.below b4
        have hrb4 := HRB.out.below b4
        have HBE2 := hide (HBE.out.trans (b4.mono HBE.out.size))
        have HL4 := hide (HLP.out.kept (ok' := fun q => w.heap.size + 2 ≤ q ∧ q < w4.heap.size) (w' := w4) (fun q hq => ⟨hq.1, Nat.lt_of_lt_of_le hq.2 b4.size⟩) b4.size (fun q hq _ => b4.block q hq.2))
        clear HRB HBE HLP HDB HC HT HPS b4 q0 q1 q2 q3 q4 q5 r0 r1
        have HRB := hide hrb4
        have HBE := hide HBE2.out
        have x0 := hrb4.cell 0 _ rfl
        have x1 := hrb4.cell 1 _ rfl
        have x2 := hrb4.cell 2 _ rfl
        have x3 := hrb4.cell 3 _ rfl
        have x4 := hrb4.cell 4 _ rfl
        have x5 := hrb4.cell 5 _ rfl
        have y0 := Blk.froz hrb4 0
        have y1 := Blk.froz hrb4 1
        have y2 := Blk.froz hrb4 2
        have y3 := Blk.froz hrb4 3
        have y4 := Blk.froz hrb4 4
        have y5 := Blk.froz hrb4 5
        have q0 := hD4.cell 0 _ rfl
        have q1 := hD4.cell 1 _ rfl
        have q2 := hD4.cell 2 _ rfl
        have q3 := hD4.cell 3 _ rfl
        have q4 := hD4.cell 4 _ rfl
        have q5 := hD4.cell 5 _ rfl
        clear hD4 hrb4 HBE2
        go_wp2
        have hX := put6_blk HRB.out (.int .i64 k) (.int .i64 n) (.int .u64 (b : Int)) (.string z) (.slice pL nL cL) (.slice pE nE cE)
        have hs := put6_size w4 w.heap.size (.int .i64 k) (.int .i64 n) (.int .u64 (b : Int)) (.string z) (.slice pL nL cL) (.slice pE nE cE)
        have hq := fun q hq => put6_other' w4 w.heap.size q hq (.int .i64 k) (.int .i64 n) (.int .u64 (b : Int)) (.string z) (.slice pL nL cL) (.slice pE nE cE)
        have bX := below_put6 (HBE.out) (b := w.heap.size) (Nat.le_refl _) (.int .i64 k) (.int .i64 n) (.int .u64 (b : Int)) (.string z) (.slice pL nL cL) (.slice pE nE cE)
        generalize hXX : put6 w4 w.heap.size (.int .i64 k) (.int .i64 n) (.int .u64 (b : Int)) (.string z) (.slice pL nL cL) (.slice pE nE cE) = X at hX hs hq bX
        simp only [put6] at hXX
        rw [hXX]
        clear hXX x0 y0 x1 y1 x2 y2 x3 y3 x4 y4 x5 y5 q0 q1 q2 q3 q4 q5
        refine bodyPost_ret (results_unp _ hX) rfl ⟨HG0.out _ (HL4.out.kept (fun q hq => ⟨by omega, by rw [hs]; exact hq.2⟩) (Nat.le_of_eq hs.symm) (fun q hq' _ => hq q (by omega))), bX⟩
      · have g4 : (faultV oneV rv != 0) = true := bne_iff_ne.2 h0
        have HN0 := hide (fun w' => HN.out w' (faultV oneV rv) (.inl ⟨⟨rfl, rfl⟩, rfl, h0⟩))
        clear HN HG HM HLP hres
        generalize faultV oneV rv = fv at *
        have q0 := hD.cell 0 _ rfl
        have q1 := hD.cell 1 _ rfl
        have q2 := hD.cell 2 _ rfl
        have q3 := hD.cell 3 _ rfl
        have q4 := hD.cell 4 _ rfl
        have q5 := hD.cell 5 _ rfl
        clear hD bP hrbP
        go_upto_region 7 with (go_at_call 14; refine (unhide HC).mono ?_; rintro e w4 ⟨rfl, b4⟩)
        have hrb4 := HRB.out.below b4
        have HBE2 := hide (HBE.out.trans (b4.mono HBE.out.size))
        clear HRB HBE HDB HC HT HPS b4 q0 q1 q2 q3 q4 q5 r0 r1
        have HRB := hide hrb4
        have HBE := hide HBE2.out
        have x0 := hrb4.cell 0 _ rfl
        have x1 := hrb4.cell 1 _ rfl
        have x2 := hrb4.cell 2 _ rfl
        have x3 := hrb4.cell 3 _ rfl
        have x4 := hrb4.cell 4 _ rfl
        have x5 := hrb4.cell 5 _ rfl
        have y0 := Blk.froz hrb4 0
        have y1 := Blk.froz hrb4 1
        have y2 := Blk.froz hrb4 2
        have y3 := Blk.froz hrb4 3
        have y4 := Blk.froz hrb4 4
        have y5 := Blk.froz hrb4 5
        clear hrb4 HBE2
        go_wp2
        have hX := put6_blk HRB.out (.int .i64 0) (.int .i64 0) (.int .u64 0) (.string ⟨#[]⟩) (.slice none 0 0) (.slice none 0 0)
        have hs := put6_size w4 w.heap.size (.int .i64 0) (.int .i64 0) (.int .u64 0) (.string ⟨#[]⟩) (.slice none 0 0) (.slice none 0 0)
        have hq := fun q hq => put6_other' w4 w.heap.size q hq (.int .i64 0) (.int .i64 0) (.int .u64 0) (.string ⟨#[]⟩) (.slice none 0 0) (.slice none 0 0)
        have bX := below_put6 (HBE.out) (b := w.heap.size) (Nat.le_refl _) (.int .i64 0) (.int .i64 0) (.int .u64 0) (.string ⟨#[]⟩) (.slice none 0 0) (.slice none 0 0)
        generalize hXX : put6 w4 w.heap.size (.int .i64 0) (.int .i64 0) (.int .u64 0) (.string ⟨#[]⟩) (.slice none 0 0) (.slice none 0 0) = X at hX hs hq bX
        simp only [put6] at hXX
        rw [hXX]
        clear hXX x0 y0 x1 y1 x2 y2 x3 y3 x4 y4 x5 y5
        refine bodyPost_ret (results_unp _ hX) rfl ⟨HN0.out _, bX⟩
end Go.Proofs.YtdpoiagnjdajbaaDoor.valus
