/- The law PackTells. -/
import Derived.Test.YtdpoiagnjdajbaaDoorPtelBE
import Derived.Test.YtdpoiagnjdajbaaDoorPtelBH
import Derived.Test.YtdpoiagnjdajbaaDoorPtelBD
import Derived.Test.YtdpoiagnjdajbaaDoorPtelAE
import Derived.Deep.QuietTactic
import Derived.BigQuiet
set_option linter.unusedVariables false
namespace Go.Proofs.YtdpoiagnjdajbaaDoor.valus
open Go.RowKit Go.Shelf

def unpY (l : List UInt8) : V := match unpD l with | .inl y => y | .inr _ => zeroT
def unpF (l : List UInt8) : Int := match unpD l with | .inl _ => 0 | .inr e => e
theorem conv_any (w : World) (p : Option Addr) (l : List UInt8) (c R : Nat) (hB : BytesAt w p l R) : (convert 27 9 (.slice p l.length c)).run Tryd.prog w = .ok (.string (strL l)) w := by
  by_cases hl : l = []
  · subst hl
    rw [run_convert_bytes_string _ 27 9 5 _ _ _ Tryd.underlying27 Tryd.underlying5 Tryd.underlying9]
    cases p with
    | none => rfl
    | some a =>
      have h0 := run_loadCells_list (P := Tryd.prog) (w := w) a ([] : List Value) (fun j v h => by cases j <;> cases h)
      exact run_bytesToString w a 0 c [] h0
  · rw [conv_bytes w p l c R hl hB]
    have e : strOfNums (l.map fun x => (x.toNat : Int)) = strL l := strL_of (by
      have := Lib.strOfNums_toList (l.map fun x => (x.toNat : Int))
      rw [Lib.toList_data] at this
      rw [this, bytes_backQ])
    rw [e]
theorem unp_as {n0 : Nat} {l : List UInt8} {e : Ending} {w' : World} (h : UnpRes n0 l e w') : ∃ (xk xn : Int) (xb : Nat) (xs : ByteArray) (xpL : Option Addr) (xnL xcL : Nat) (xpE : Option Addr) (xnE xcE : Nat), e = .returned (.tuple #[.agg #[.int .i64 xk, .int .i64 xn, .int .u64 (xb : Int), .string xs, .slice xpL xnL xcL, .slice xpE xnE xcE], .int .i64 (unpF l)]) ∧ LiesV (fun q => q < w'.heap.size) 1002 w' [.int .i64 xk, .int .i64 xn, .int .u64 (xb : Int), .string xs, .slice xpL xnL xcL, .slice xpE xnE xcE] (unpY l) := by
  have hu := unp_one l
  unfold unpF unpY
  rcases h with ⟨h1, h2, xk, xn, xb, xs, xpL, xnL, xcL, xpE, xnE, xcE, e3, e4⟩ | ⟨fe, h1, h2⟩
  · rw [if_pos h1, if_pos h2] at hu
    rw [hu]
    exact ⟨xk, xn, xb, xs, xpL, xnL, xcL, xpE, xnE, xcE, e3, e4.kept (fun q hq => hq.2) (Nat.le_refl _) (fun _ _ _ => rfl)⟩
  · have hu2 : unpD l = .inr fe := by
      rcases h1 with ⟨h3, h4, h5⟩ | ⟨h3, h4⟩
      · rw [hu, if_pos h3, if_neg (by rw [h4]; exact h5), h4]
      · rw [hu, if_neg h3, h4]
    rw [hu2]
    exact ⟨0, 0, 0, ⟨#[]⟩, none, 0, 0, none, 0, 0, h2, (zero_lies _ w').to (by omega)⟩
theorem dun_as {n0 : Nat} {l : List UInt8} {e : Ending} {w' : World} (h : DunRes n0 l e w') : ∃ (xk xn : Int) (xb : Nat) (xs : ByteArray) (xpL : Option Addr) (xnL xcL : Nat) (xpE : Option Addr) (xnE xcE : Nat), e = .returned (.tuple #[.agg #[.int .i64 xk, .int .i64 xn, .int .u64 (xb : Int), .string xs, .slice xpL xnL xcL, .slice xpE xnE xcE], .int .i64 (unpF l)]) ∧ LiesV (fun q => q < w'.heap.size) 1001 w' [.int .i64 xk, .int .i64 xn, .int .u64 (xb : Int), .string xs, .slice xpL xnL xcL, .slice xpE xnE xcE] (unpY l) := by
  unfold unpF unpY
  rcases h with ⟨y, xk, xn, xb, xs, xpL, xnL, xcL, xpE, xnE, xcE, h1, e3, e4⟩ | ⟨fe, h1, h2⟩
  · rw [h1]
    exact ⟨xk, xn, xb, xs, xpL, xnL, xcL, xpE, xnE, xcE, e3, e4.kept (fun q hq => hq.2) (Nat.le_refl _) (fun _ _ _ => rfl)⟩
  · rw [h1]
    exact ⟨0, 0, 0, ⟨#[]⟩, none, 0, 0, none, 0, 0, h2, (zero_lies _ w').to (by omega)⟩
theorem cmpV_refl (f : Nat) (t : V) (h : IsV f t) : cmpV f t t = .eq := (cmpV_ord f).same t t h h |>.2 rfl
set_option maxHeartbeats 8000000 in
set_option maxRecDepth 100000 in
theorem lawPackTells (f : Nat) (w : World) (t : V) (a0 a1 a2 a3 a4 a5 : Value) (p : Option Addr) (l : List UInt8) (c : Nat) (hl : LiesV (fun b => b < w.heap.size) f w [a0, a1, a2, a3, a4, a5] t) (hn : nodesV f t ≤ 1048576) (hlc : l.length ≤ c) (hcm : c ≤ maxLen) (hB : BytesAt w p l w.heap.size) (h8 : l.length ≤ 1048576) (hT : Lib.Utf8Tabs 1 2 w ∧ ∃ m : Int, w.cell? ⟨0, 0, none⟩ = some (.int .i64 m)) :
    Calls Tryd.prog 3 #[.agg #[a0, a1, a2, a3, a4, a5], .slice p l.length c] w fun e w' => e = .returned (.bool true) ∧ Below w.heap.size w w' := by
  obtain ⟨hT1, m, hm⟩ := hT
  have hGl := World.block_lt_of_cell? w _ hm
  obtain ⟨k, n, b, s, pL, nL, cL, pE, nE, cE, rfl, rfl, rfl, rfl, rfl, rfl⟩ := hl.form
  obtain ⟨W1, hW1⟩ : ∃ W1, W1 = w.alloc (.cells #[.int .i64 k, .int .i64 n, .int .u64 (b : Int), .string s, .slice pL nL cL, .slice pE nE cE] 26) := ⟨_, rfl⟩
  have b1 : Below w.heap.size w W1 := by rw [hW1]; exact (Below.refl _ w).alloc (Nat.le_refl _) _
  have hbk : Blk W1 w.heap.size #[.int .i64 k, .int .i64 n, .int .u64 (b : Int), .string s, .slice pL nL cL, .slice pE nE cE] 26 := by rw [hW1]; exact blk_alloc _ _ _
  obtain ⟨J, hJ⟩ : ∃ J : World → Prop, J = Below (w.heap.size + 1) W1 := ⟨_, rfl⟩
  have s1 : W1.heap.size = w.heap.size + 1 := by rw [hW1]; simp
  have jb : ∀ v, J v → Below w.heap.size w v := fun v h => by rw [hJ] at h; exact b1.trans (h.mono (by omega))
  have jn : ∀ v v', J v → Below v.heap.size v v' → J v' := fun v v' h hb => by rw [hJ] at h ⊢; exact h.trans (hb.mono (by have := h.size; omega))
  have jl : ∀ v, J v → LiesV (fun b => b < v.heap.size) f v [.int .i64 k, .int .i64 n, .int .u64 (b : Int), .string s, .slice pL nL cL, .slice pE nE cE] t := fun v h => hl.kept (fun b h' => Nat.lt_of_lt_of_le h' (jb v h).size) (jb v h).size (fun b h' _ => (jb v h).block b h')
  have jm : ∀ v, J v → v.cell? ⟨0, 0, none⟩ = some (.int .i64 m) := fun v h => ((jb v h).cell (p := ⟨0, 0, none⟩) hGl).trans hm
  have jB : ∀ v, J v → BytesAt v p l v.heap.size := fun v h => hB.later (jb v h) (jb v h).size
  have jc : ∀ v, Hid (J v → v.cell? ⟨w.heap.size, 0, none⟩ = some (.int .i64 k) ∧ v.cell? ⟨w.heap.size, 1, none⟩ = some (.int .i64 n) ∧ v.cell? ⟨w.heap.size, 2, none⟩ = some (.int .u64 (b : Int)) ∧ v.cell? ⟨w.heap.size, 3, none⟩ = some (.string s) ∧ v.cell? ⟨w.heap.size, 4, none⟩ = some (.slice pL nL cL) ∧ v.cell? ⟨w.heap.size, 5, none⟩ = some (.slice pE nE cE)) := fun v h => by
    rw [hJ] at h
    have hv : Blk v w.heap.size _ _ := (h.block w.heap.size (by omega)).trans hbk
    exact ⟨hv.cell 0 _ rfl, hv.cell 1 _ rfl, hv.cell 2 _ rfl, hv.cell 3 _ rfl, hv.cell 4 _ rfl, hv.cell 5 _ rfl⟩
  have J1 : J W1 := by rw [hJ]; exact Below.refl _ _
  have HJ : ∀ v v', Hid (J v → Below v.heap.size v v' → J v') := fun v v' => jn v v'
  have HA : ∀ v (c : Array Value), Hid (J v → J (v.alloc (.cells c 26))) := fun v c h => jn v _ h ((Below.refl _ v).alloc (Nat.le_refl _) _)
  have KP : ∀ v, J v → Calls Tryd.prog 7 #[.agg #[.int .i64 k, .int .i64 n, .int .u64 (b : Int), .string s, .slice pL nL cL, .slice pE nE cE]] v fun e w' => PackRes v.heap.size f t e w' ∧ Below v.heap.size v w' := fun v h => pack_any f v t _ _ _ _ _ _ (jl v h) (by omega) (Utf8Tabs_below hT1 (jb v h)) m (jm v h)
  have KU : ∀ v, Hid (J v → Calls Tryd.prog 8 #[.slice p l.length c] v fun e w' => (∃ (xk xn : Int) (xb : Nat) (xs : ByteArray) (xpL : Option Addr) (xnL xcL : Nat) (xpE : Option Addr) (xnE xcE : Nat), e = .returned (.tuple #[.agg #[.int .i64 xk, .int .i64 xn, .int .u64 (xb : Int), .string xs, .slice xpL xnL xcL, .slice xpE xnE xcE], .int .i64 (unpF l)]) ∧ LiesV (fun q => q < w'.heap.size) 1002 w' [.int .i64 xk, .int .i64 xn, .int .u64 (xb : Int), .string xs, .slice xpL xnL xcL, .slice xpE xnE xcE] (unpY l)) ∧ Below v.heap.size v w') := fun v h => (unpack_any v p l c hlc hcm (jB v h) (by omega) (nodes_read l (by omega)) (Utf8Tabs_below hT1 (jb v h))).mono fun e w' ⟨e1, e2⟩ => ⟨unp_as e1, e2⟩
  have KV : ∀ v, Hid (J v → (convert 27 9 (.slice p l.length c)).run Tryd.prog v = .ok (.string (strL l)) v) := fun v h => conv_any v p l c _ (jB v h)
  have hsl : (strL l).data.toList = l := by simp
  have KD : ∀ v, Hid (J v → Calls Tryd.prog 9 #[.string (strL l)] v fun e w' => (∃ (xk xn : Int) (xb : Nat) (xs : ByteArray) (xpL : Option Addr) (xnL xcL : Nat) (xpE : Option Addr) (xnE xcE : Nat), e = .returned (.tuple #[.agg #[.int .i64 xk, .int .i64 xn, .int .u64 (xb : Int), .string xs, .slice xpL xnL xcL, .slice xpE xnE xcE], .int .i64 (unpF l)]) ∧ LiesV (fun q => q < w'.heap.size) 1001 w' [.int .i64 xk, .int .i64 xn, .int .u64 (xb : Int), .string xs, .slice xpL xnL xcL, .slice xpE xnE xcE] (unpY l)) ∧ Below v.heap.size v w') := fun v h => (dun_any v (strL l) (by rw [strL_size]; exact h8)).mono fun e w' ⟨e1, e2⟩ => ⟨by rw [hsl] at e1; exact dun_as e1, e2⟩
  have KS : ∀ v (c0 c1 c2 c3 c4 c5 d0 d1 d2 d3 d4 d5 : Value), Hid (J v → LiesV (fun q => q < v.heap.size) 1002 v [c0, c1, c2, c3, c4, c5] (unpY l) → LiesV (fun q => q < v.heap.size) 1002 v [d0, d1, d2, d3, d4, d5] (unpY l) → Calls Tryd.prog 10 #[.agg #[c0, c1, c2, c3, c4, c5], .agg #[d0, d1, d2, d3, d4, d5]] v fun e w' => e = .returned (.bool true) ∧ Below v.heap.size v w') := fun v c0 c1 c2 c3 c4 c5 d0 d1 d2 d3 d4 d5 h hx hy => (same_any 1002 _ _ v _ _ _ _ _ _ _ _ _ _ _ _ _ _ hx hy).mono fun e w' ⟨e1, e2⟩ => ⟨by rw [e1, decide_eq_true (cmpV_refl 1002 _ hx.isV)], e2⟩
  have KF : ∀ v, Hid (J v → Calls Tryd.prog 11 #[.agg #[.int .i64 k, .int .i64 n, .int .u64 (b : Int), .string s, .slice pL nL cL, .slice pE nE cE]] v fun e w' => e = .returned (.int .i64 (faultV oneV t)) ∧ Below v.heap.size v w') := fun v h => fault_any f v t _ _ _ _ _ _ (jl v h) (by omega)
  have HJB := hide jb
  obtain ⟨u0, u1, u2, u3, u4, u5⟩ := unhide (jc _) J1
  have H1 := hide hW1
  rw [hW1] at u0 u1 u2 u3 u4 u5 J1
  have HJN := hide jn
  by_cases h0 : faultV oneV t = 0
  · have hgood := good_lies hl h0
    have hI := hl.isV
    have hsz := good_sizes hI h0
    have hne : encV f t ≠ [] := by
      cases f with
      | zero => exact hgood.elim
      | succ f => exact fun h => by cases h
    obtain ⟨en, hen⟩ : ∃ en, en = encV f t := ⟨_, rfl⟩
    have KP2 : ∀ v, Hid (J v → Calls Tryd.prog 7 #[.agg #[.int .i64 k, .int .i64 n, .int .u64 (b : Int), .string s, .slice pL nL cL, .slice pE nE cE]] v fun e w' => (∃ g cap, e = .returned (.tuple #[.slice (some ⟨g, 0, none⟩) en.length cap, .int .i64 0]) ∧ BytesAt w' (some ⟨g, 0, none⟩) en w'.heap.size) ∧ Below v.heap.size v w') := fun v h => (KP v h).mono fun e w' ⟨e1, e2⟩ => ⟨by
      rcases e1 with ⟨_, v', e3, e4⟩ | ⟨e3, _⟩
      · rw [← hen] at e4
        obtain ⟨g, cap, rfl, e5, e6, e7⟩ := e4.at' (by rw [hen]; exact hne)
        exact ⟨g, cap, e3, e7⟩
      · exact absurd h0 e3, e2⟩
    have KK : ∀ v, Hid (J v → Calls Tryd.prog 12 #[.agg #[.int .i64 k, .int .i64 n, .int .u64 (b : Int), .string s, .slice pL nL cL, .slice pE nE cE]] v fun e w' => e = .returned (.string (strL en)) ∧ Below v.heap.size v w') := fun v h => by
      rw [hen]
      exact pkd_all f t hgood hsz.2 v _ _ _ _ _ _ (jl v h)
    have KCV : ∀ v g cap, Hid (BytesAt v (some ⟨g, 0, none⟩) en v.heap.size → (convert 27 9 (.slice (some ⟨g, 0, none⟩) en.length cap)).run Tryd.prog v = .ok (.string (strL en)) v) := fun v g cap h => conv_any v (some ⟨g, 0, none⟩) en cap _ h
    rw [h0] at KF
    clear KP jb jn jl jm hbk hl hT1 hm hJ b1 s1 hsl jB hB hgood hI hsz hne hen h0 hW1
    generalize hln : en.length = ln at *
    generalize unpF l = ue at *
    generalize l.length = ll at *
    go_enter Tryd.func3, Tryd.ntmps3
    go_upto_region 3 with (first
      | (go_at_call 7; refine (unhide (KP2 _) J1).mono ?_; rintro e w3 ⟨⟨g, cap, rfl, c3⟩, b3⟩; have G3 := unhide (HJ _ _) J1 b3)
      | (go_at_call 8; refine (unhide (KU _) G3).mono ?_; rintro e w4 ⟨⟨xk, xn, xb, xs, xpL, xnL, xcL, xpE, xnE, xcE, rfl, hx⟩, b4⟩; have G4 := unhide (HJ _ _) G3 b4; have c4 := BytesAt.later c3 b4 b4.size))
    have G5 := unhide (HA w4 #[.int .i64 xk, .int .i64 xn, .int .u64 (xb : Int), .string xs, .slice xpL xnL xcL, .slice xpE xnE xcE]) G4
    have hX1 := blk_alloc w4 #[.int .i64 xk, .int .i64 xn, .int .u64 (xb : Int), .string xs, .slice xpL xnL xcL, .slice xpE xnE xcE] 26
    have b5 : Below w4.heap.size w4 (w4.alloc (.cells #[.int .i64 xk, .int .i64 xn, .int .u64 (xb : Int), .string xs, .slice xpL xnL xcL, .slice xpE xnE xcE] 26)) := (Below.refl _ w4).alloc (Nat.le_refl _) _
    have hx5 := hx.kept (ok' := fun q => q < (w4.alloc (.cells #[.int .i64 xk, .int .i64 xn, .int .u64 (xb : Int), .string xs, .slice xpL xnL xcL, .slice xpE xnE xcE] 26)).heap.size) (fun q hq => Nat.lt_of_lt_of_le hq b5.size) b5.size (fun q hq _ => b5.block q hq)
    have c5 := c4.later b5 b5.size
    clear hx b5
    generalize w4.alloc (.cells #[.int .i64 xk, .int .i64 xn, .int .u64 (xb : Int), .string xs, .slice xpL xnL xcL, .slice xpE xnE xcE] 26) = X1 at *
    generalize w4.heap.size = D1 at *
    have HX1 := hide (And.intro hX1 hx5)
    have cvb := unhide (KV _) G5
    clear hX1 hx5
    go_upto_region 4 with (go_at_call 9; refine (unhide (KD _) G5).mono ?_; rintro e w6 ⟨⟨yk, yn, yb, ys, ypL, ynL, ycL, ypE, ynE, ycE, rfl, hy⟩, b6⟩)
    have G6 := unhide (HJ _ _) G5 b6
    have G7 := unhide (HA w6 #[.int .i64 yk, .int .i64 yn, .int .u64 (yb : Int), .string ys, .slice ypL ynL ycL, .slice ypE ynE ycE]) G6
    have hX2 := blk_alloc w6 #[.int .i64 yk, .int .i64 yn, .int .u64 (yb : Int), .string ys, .slice ypL ynL ycL, .slice ypE ynE ycE] 26
    have b7 : Below w6.heap.size w6 (w6.alloc (.cells #[.int .i64 yk, .int .i64 yn, .int .u64 (yb : Int), .string ys, .slice ypL ynL ycL, .slice ypE ynE ycE] 26)) := (Below.refl _ w6).alloc (Nat.le_refl _) _
    have b67 := b6.trans (b7.mono b6.size)
    obtain ⟨hX1, hx5⟩ := HX1.out
    have hX1' := hX1.below b67
    have hx7 := hx5.kept (ok' := fun q => q < (w6.alloc (.cells #[.int .i64 yk, .int .i64 yn, .int .u64 (yb : Int), .string ys, .slice ypL ynL ycL, .slice ypE ynE ycE] 26)).heap.size) (fun q hq => Nat.lt_of_lt_of_le hq b67.size) b67.size (fun q hq _ => b67.block q hq)
    have hy7 := hy.kept (ok' := fun q => q < (w6.alloc (.cells #[.int .i64 yk, .int .i64 yn, .int .u64 (yb : Int), .string ys, .slice ypL ynL ycL, .slice ypE ynE ycE] 26)).heap.size) (fun q hq => Nat.lt_of_lt_of_le hq b7.size) b7.size (fun q hq _ => b7.block q hq)
    have c7 := c5.later b67 b67.size
    clear hy b7 b67 b6 hX1 hx5 HX1 G5 G6 cvb
    generalize w6.alloc (.cells #[.int .i64 yk, .int .i64 yn, .int .u64 (yb : Int), .string ys, .slice ypL ynL ycL, .slice ypE ynE ycE] 26) = X2 at *
    generalize w6.heap.size = D2 at *
    have p0 := hX1'.cell 0 _ rfl
    have p1 := hX1'.cell 1 _ rfl
    have p2 := hX1'.cell 2 _ rfl
    have p3 := hX1'.cell 3 _ rfl
    have p4 := hX1'.cell 4 _ rfl
    have p5 := hX1'.cell 5 _ rfl
    have q0 := hX2.cell 0 _ rfl
    have q1 := hX2.cell 1 _ rfl
    have q2 := hX2.cell 2 _ rfl
    have q3 := hX2.cell 3 _ rfl
    have q4 := hX2.cell 4 _ rfl
    have q5 := hX2.cell 5 _ rfl
    have HS := hide (unhide (KS X2 _ _ _ _ _ _ _ _ _ _ _ _) G7 hx7 (hy7.to (by omega)))
    clear hX1' hX2 hx7 hy7
    obtain ⟨K, hK⟩ : ∃ K : World → Prop, K = fun v => J v ∧ BytesAt v (some ⟨g, 0, none⟩) en v.heap.size := ⟨_, rfl⟩
    have K7 : K X2 := by rw [hK]; exact ⟨G7, c7⟩
    have KKN : Hid (∀ v v', K v → Below v.heap.size v v' → K v') := hide fun v v' h hb => by
      rw [hK] at h ⊢
      exact ⟨HJN.out v v' h.1 hb, h.2.later hb hb.size⟩
    have KJ : Hid (∀ v, K v → J v) := hide fun v h => by rw [hK] at h; exact h.1
    have HCV : Hid (∀ v, K v → (convert 27 9 (.slice (some ⟨g, 0, none⟩) ln cap)).run Tryd.prog v = .ok (.string (strL en)) v) := hide fun v h => by rw [hK] at h; exact unhide (KCV v g cap) h.2
    have HPK : Hid (∀ v, K v → Calls Tryd.prog 12 #[.agg #[.int .i64 k, .int .i64 n, .int .u64 (b : Int), .string s, .slice pL nL cL, .slice pE nE cE]] v fun e w' => e = .returned (.string (strL en)) ∧ K w') := hide fun v h => (unhide (KK v) (KJ.out v h)).mono fun e w' ⟨e1, e2⟩ => ⟨e1, KKN.out v w' h e2⟩
    clear c3 c4 c5 c7 hK KCV KK
    go_upto_region 9 with (first
      | (go_at_call 10; refine (unhide HS).mono ?_; rintro e w8 ⟨rfl, b8⟩; have K8 := KKN.out _ _ K7 b8; obtain ⟨s0, s1, s2, s3, s4, s5⟩ := unhide (jc _) (KJ.out _ K8))
      | (go_at_call 11; refine (unhide (KF _) (KJ.out _ K8)).mono ?_; rintro e w9 ⟨rfl, b9⟩; have K9 := KKN.out _ _ K8 b9))
    have GD := KKN.out _ _ K9 ((Below.refl _ w9).drew)
    refine wp_region_quiet (C := K) (by kernel_rfl) (by kernel_rfl) GD ?_
    simp only
    go_big_quiet_want
    refine ⟨(.int .i64 0), fun w9 G9 => ?_, ?_⟩
    · go_simp
    simp only [Act.put, List.setIfInBounds_toArray, List.set_cons_succ, List.set_cons_zero]
    go_big_quiet_on
    go_big_quiet_want
    refine ⟨(.bool true), fun w9 G9 => ?_, ?_⟩
    · go_simp
    simp only [Act.put, List.setIfInBounds_toArray, List.set_cons_succ, List.set_cons_zero]
    go_big_quiet_on
    go_big_quiet_want
    refine ⟨(.bool true), fun w9 G9 => ?_, ?_⟩
    · go_simp
    simp only [Act.put, List.setIfInBounds_toArray, List.set_cons_succ, List.set_cons_zero]
    go_big_quiet_on
    go_big_quiet_want
    refine ⟨(.slice (some ⟨g, 0, none⟩) ln cap), fun w9 G9 => ?_, ?_⟩
    · go_simp
    simp only [Act.put, List.setIfInBounds_toArray, List.set_cons_succ, List.set_cons_zero]
    go_big_quiet_on
    go_big_quiet_want
    refine ⟨(.string (strL en)), fun w9 G9 => ?_, ?_⟩
    · have cv := unhide HCV w9 G9
      go_simp
    simp only [Act.put, List.setIfInBounds_toArray, List.set_cons_succ, List.set_cons_zero]
    go_big_quiet_on
    go_big_quiet_want
    refine ⟨(.agg #[.int .i64 k, .int .i64 n, .int .u64 (b : Int), .string s, .slice pL nL cL, .slice pE nE cE]), fun w9 G9 => ?_, ?_⟩
    · obtain ⟨s0, s1, s2, s3, s4, s5⟩ := unhide (jc _) (KJ.out _ G9)
      go_simp
    simp only [Act.put, List.setIfInBounds_toArray, List.set_cons_succ, List.set_cons_zero]
    go_big_quiet_on
    go_big_quiet_want
    refine ⟨(.string (strL en)), fun w9 G9 => ?_, ?_⟩
    · go_simp
      exact unhide HPK w9 G9
    simp only [Act.put, List.setIfInBounds_toArray, List.set_cons_succ, List.set_cons_zero]
    go_big_quiet_on
    go_big_quiet_want
    refine ⟨(.bool true), fun w9 G9 => ?_, ?_⟩
    · go_simp
    simp only [Act.put, List.setIfInBounds_toArray, List.set_cons_succ, List.set_cons_zero]
    go_big_quiet_on
    go_big_quiet_want
    refine ⟨(.bool true), fun w9 G9 => ?_, ?_⟩
    · go_simp
    simp only [Act.put, List.setIfInBounds_toArray, List.set_cons_succ, List.set_cons_zero]
    go_big_quiet_on
    go_big_quiet_want
    refine ⟨(.bool true), fun w9 G9 => ?_, ?_⟩
    · go_simp
    simp only [Act.put, List.setIfInBounds_toArray, List.set_cons_succ, List.set_cons_zero]
    go_big_quiet_on
    refine wpQuiet_nil ?_
    intro w9 G9
    go_wp2
    go_ret
    exact ⟨rfl, HJB.out _ (KJ.out _ G9)⟩
  · have KP2 : ∀ v, Hid (J v → Calls Tryd.prog 7 #[.agg #[.int .i64 k, .int .i64 n, .int .u64 (b : Int), .string s, .slice pL nL cL, .slice pE nE cE]] v fun e w' => e = .returned (.tuple #[.slice none 0 0, .int .i64 (faultV oneV t)]) ∧ Below v.heap.size v w') := fun v h => (KP v h).mono fun e w' ⟨e1, e2⟩ => ⟨by
      rcases e1 with ⟨e3, _⟩ | ⟨_, e3⟩
      · exact absurd e3 h0
      · exact e3, e2⟩
    have g4 : (faultV oneV t != 0) = true := bne_iff_ne.2 h0
    clear KP jb jn jl jm hbk hl hT1 hm hJ b1 s1 hsl jB hB hW1
    generalize faultV oneV t = fv at *
    generalize unpF l = ue at *
    generalize l.length = ll at *
    go_enter Tryd.func3, Tryd.ntmps3
    go_upto_region 3 with (first
      | (go_at_call 7; refine (unhide (KP2 _) J1).mono ?_; rintro e w3 ⟨rfl, b3⟩; have G3 := unhide (HJ _ _) J1 b3)
      | (go_at_call 8; refine (unhide (KU _) G3).mono ?_; rintro e w4 ⟨⟨xk, xn, xb, xs, xpL, xnL, xcL, xpE, xnE, xcE, rfl, hx⟩, b4⟩; have G4 := unhide (HJ _ _) G3 b4))
    have G5 := unhide (HA w4 #[.int .i64 xk, .int .i64 xn, .int .u64 (xb : Int), .string xs, .slice xpL xnL xcL, .slice xpE xnE xcE]) G4
    have hX1 := blk_alloc w4 #[.int .i64 xk, .int .i64 xn, .int .u64 (xb : Int), .string xs, .slice xpL xnL xcL, .slice xpE xnE xcE] 26
    have b5 : Below w4.heap.size w4 (w4.alloc (.cells #[.int .i64 xk, .int .i64 xn, .int .u64 (xb : Int), .string xs, .slice xpL xnL xcL, .slice xpE xnE xcE] 26)) := (Below.refl _ w4).alloc (Nat.le_refl _) _
    have hx5 := hx.kept (ok' := fun q => q < (w4.alloc (.cells #[.int .i64 xk, .int .i64 xn, .int .u64 (xb : Int), .string xs, .slice xpL xnL xcL, .slice xpE xnE xcE] 26)).heap.size) (fun q hq => Nat.lt_of_lt_of_le hq b5.size) b5.size (fun q hq _ => b5.block q hq)
    clear hx b5
    generalize w4.alloc (.cells #[.int .i64 xk, .int .i64 xn, .int .u64 (xb : Int), .string xs, .slice xpL xnL xcL, .slice xpE xnE xcE] 26) = X1 at *
    generalize w4.heap.size = D1 at *
    have HX1 := hide (And.intro hX1 hx5)
    have cvb := unhide (KV _) G5
    clear hX1 hx5
    go_upto_region 4 with (go_at_call 9; refine (unhide (KD _) G5).mono ?_; rintro e w6 ⟨⟨yk, yn, yb, ys, ypL, ynL, ycL, ypE, ynE, ycE, rfl, hy⟩, b6⟩)
    have G6 := unhide (HJ _ _) G5 b6
    have G7 := unhide (HA w6 #[.int .i64 yk, .int .i64 yn, .int .u64 (yb : Int), .string ys, .slice ypL ynL ycL, .slice ypE ynE ycE]) G6
    have hX2 := blk_alloc w6 #[.int .i64 yk, .int .i64 yn, .int .u64 (yb : Int), .string ys, .slice ypL ynL ycL, .slice ypE ynE ycE] 26
    have b7 : Below w6.heap.size w6 (w6.alloc (.cells #[.int .i64 yk, .int .i64 yn, .int .u64 (yb : Int), .string ys, .slice ypL ynL ycL, .slice ypE ynE ycE] 26)) := (Below.refl _ w6).alloc (Nat.le_refl _) _
    have b67 := b6.trans (b7.mono b6.size)
    obtain ⟨hX1, hx5⟩ := HX1.out
    have hX1' := hX1.below b67
    have hx7 := hx5.kept (ok' := fun q => q < (w6.alloc (.cells #[.int .i64 yk, .int .i64 yn, .int .u64 (yb : Int), .string ys, .slice ypL ynL ycL, .slice ypE ynE ycE] 26)).heap.size) (fun q hq => Nat.lt_of_lt_of_le hq b67.size) b67.size (fun q hq _ => b67.block q hq)
    have hy7 := hy.kept (ok' := fun q => q < (w6.alloc (.cells #[.int .i64 yk, .int .i64 yn, .int .u64 (yb : Int), .string ys, .slice ypL ynL ycL, .slice ypE ynE ycE] 26)).heap.size) (fun q hq => Nat.lt_of_lt_of_le hq b7.size) b7.size (fun q hq _ => b7.block q hq)
    clear hy b7 b67 b6 hX1 hx5 HX1 G5 G6 cvb
    generalize w6.alloc (.cells #[.int .i64 yk, .int .i64 yn, .int .u64 (yb : Int), .string ys, .slice ypL ynL ycL, .slice ypE ynE ycE] 26) = X2 at *
    generalize w6.heap.size = D2 at *
    have p0 := hX1'.cell 0 _ rfl
    have p1 := hX1'.cell 1 _ rfl
    have p2 := hX1'.cell 2 _ rfl
    have p3 := hX1'.cell 3 _ rfl
    have p4 := hX1'.cell 4 _ rfl
    have p5 := hX1'.cell 5 _ rfl
    have q0 := hX2.cell 0 _ rfl
    have q1 := hX2.cell 1 _ rfl
    have q2 := hX2.cell 2 _ rfl
    have q3 := hX2.cell 3 _ rfl
    have q4 := hX2.cell 4 _ rfl
    have q5 := hX2.cell 5 _ rfl
    have HS := hide (unhide (KS X2 _ _ _ _ _ _ _ _ _ _ _ _) G7 hx7 (hy7.to (by omega)))
    clear hX1' hX2 hx7 hy7
    go_wp2_with (first
      | (go_at_call 10; refine (unhide HS).mono ?_; rintro e w8 ⟨rfl, b8⟩; have G8 := unhide (HJ _ _) G7 b8; obtain ⟨s0, s1, s2, s3, s4, s5⟩ := unhide (jc _) G8)
      | (go_at_call 11; refine (unhide (KF _) G8).mono ?_; rintro e w9 ⟨rfl, b9⟩; have G9 := unhide (HJ _ _) G8 b9))
    go_ret
    exact ⟨rfl, HJB.out _ G9⟩
end Go.Proofs.YtdpoiagnjdajbaaDoor.valus
