/- The walk of the document's answer: how many bytes of each kind stand at the front. -/
import Derived.Test.YtoikdjbgeebadaaTokRefR
set_option linter.unusedVariables false
namespace Go.Proofs.Ytoikdjbgeebadaa.toks
open Go.RowKit

/-- Eight numbers as cells. -/
def c8 (x1 x2 x3 x4 x5 x6 : Nat) : Array Value := #[.int .i64 0, .int .i64 (x1 : Int), .int .i64 (x2 : Int), .int .i64 (x3 : Int), .int .i64 (x4 : Int), .int .i64 (x5 : Int), .int .i64 (x6 : Int), .int .i64 0]
/-- The block of the numbers, the block of the answer. -/
structure F8 (w W : World) (x1 x2 x3 x4 x5 x6 : Nat) : Prop where
  now : Blk W (w.heap.size + 1) (c8 x1 x2 x3 x4 x5 x6) 53
  out : Blk W w.heap.size (c8 0 0 0 0 0 0) 53
  bel : Below w.heap.size w W
theorem F8.set1 {w W : World} {x1 x2 x3 x4 x5 x6 : Nat} (h : F8 w W x1 x2 x3 x4 x5 x6) (v : Nat) : F8 w (W.setCell ⟨w.heap.size + 1, 1, none⟩ (.int .i64 (v : Int))) v x2 x3 x4 x5 x6 :=
  ⟨by simpa [c8] using h.now.set 1 (.int .i64 (v : Int)), h.out.set_other ⟨w.heap.size + 1, 1, none⟩ _ (by simp), h.bel.setCell (p := ⟨w.heap.size + 1, 1, none⟩) (Nat.le_succ _) _⟩
theorem F8.set2 {w W : World} {x1 x2 x3 x4 x5 x6 : Nat} (h : F8 w W x1 x2 x3 x4 x5 x6) (v : Nat) : F8 w (W.setCell ⟨w.heap.size + 1, 2, none⟩ (.int .i64 (v : Int))) x1 v x3 x4 x5 x6 :=
  ⟨by simpa [c8] using h.now.set 2 (.int .i64 (v : Int)), h.out.set_other ⟨w.heap.size + 1, 2, none⟩ _ (by simp), h.bel.setCell (p := ⟨w.heap.size + 1, 2, none⟩) (Nat.le_succ _) _⟩
theorem F8.set3 {w W : World} {x1 x2 x3 x4 x5 x6 : Nat} (h : F8 w W x1 x2 x3 x4 x5 x6) (v : Nat) : F8 w (W.setCell ⟨w.heap.size + 1, 3, none⟩ (.int .i64 (v : Int))) x1 x2 v x4 x5 x6 :=
  ⟨by simpa [c8] using h.now.set 3 (.int .i64 (v : Int)), h.out.set_other ⟨w.heap.size + 1, 3, none⟩ _ (by simp), h.bel.setCell (p := ⟨w.heap.size + 1, 3, none⟩) (Nat.le_succ _) _⟩
theorem F8.set4 {w W : World} {x1 x2 x3 x4 x5 x6 : Nat} (h : F8 w W x1 x2 x3 x4 x5 x6) (v : Nat) : F8 w (W.setCell ⟨w.heap.size + 1, 4, none⟩ (.int .i64 (v : Int))) x1 x2 x3 v x5 x6 :=
  ⟨by simpa [c8] using h.now.set 4 (.int .i64 (v : Int)), h.out.set_other ⟨w.heap.size + 1, 4, none⟩ _ (by simp), h.bel.setCell (p := ⟨w.heap.size + 1, 4, none⟩) (Nat.le_succ _) _⟩
theorem F8.set5 {w W : World} {x1 x2 x3 x4 x5 x6 : Nat} (h : F8 w W x1 x2 x3 x4 x5 x6) (v : Nat) : F8 w (W.setCell ⟨w.heap.size + 1, 5, none⟩ (.int .i64 (v : Int))) x1 x2 x3 x4 v x6 :=
  ⟨by simpa [c8] using h.now.set 5 (.int .i64 (v : Int)), h.out.set_other ⟨w.heap.size + 1, 5, none⟩ _ (by simp), h.bel.setCell (p := ⟨w.heap.size + 1, 5, none⟩) (Nat.le_succ _) _⟩
theorem F8.set6 {w W : World} {x1 x2 x3 x4 x5 x6 : Nat} (h : F8 w W x1 x2 x3 x4 x5 x6) (v : Nat) : F8 w (W.setCell ⟨w.heap.size + 1, 6, none⟩ (.int .i64 (v : Int))) x1 x2 x3 x4 x5 v :=
  ⟨by simpa [c8] using h.now.set 6 (.int .i64 (v : Int)), h.out.set_other ⟨w.heap.size + 1, 6, none⟩ _ (by simp), h.bel.setCell (p := ⟨w.heap.size + 1, 6, none⟩) (Nat.le_succ _) _⟩
theorem f8_start (w : World) : F8 w ((w.alloc (.cells #[.int .i64 0, .int .i64 0, .int .i64 0, .int .i64 0, .int .i64 0, .int .i64 0, .int .i64 0, .int .i64 0] 53)).alloc (.cells #[.int .i64 0, .int .i64 0, .int .i64 0, .int .i64 0, .int .i64 0, .int .i64 0, .int .i64 0, .int .i64 0] 53)) 0 0 0 0 0 0 := by
  have b1 := blk_alloc w (c8 0 0 0 0 0 0) 53
  have b2 := blk_alloc (w.alloc (.cells (c8 0 0 0 0 0 0) 53)) (c8 0 0 0 0 0 0) 53
  have e : (w.alloc (.cells (c8 0 0 0 0 0 0) 53)).heap.size = w.heap.size + 1 := by simp
  rw [e] at b2
  exact ⟨b2, b1.alloc _, ((Below.refl _ w).alloc (Nat.le_refl _) _).alloc (by simp) _⟩
theorem F8.cells {w W : World} {x1 x2 x3 x4 x5 x6 : Nat} (h : F8 w W x1 x2 x3 x4 x5 x6) :
    (W.cell? ⟨w.heap.size + 1, 1, none⟩ = some (.int .i64 (x1 : Int)) ∧ W.frozen? ⟨w.heap.size + 1, 1, none⟩ = false) ∧
    (W.cell? ⟨w.heap.size + 1, 2, none⟩ = some (.int .i64 (x2 : Int)) ∧ W.frozen? ⟨w.heap.size + 1, 2, none⟩ = false) ∧
    (W.cell? ⟨w.heap.size + 1, 3, none⟩ = some (.int .i64 (x3 : Int)) ∧ W.frozen? ⟨w.heap.size + 1, 3, none⟩ = false) ∧
    (W.cell? ⟨w.heap.size + 1, 4, none⟩ = some (.int .i64 (x4 : Int)) ∧ W.frozen? ⟨w.heap.size + 1, 4, none⟩ = false) ∧
    (W.cell? ⟨w.heap.size + 1, 5, none⟩ = some (.int .i64 (x5 : Int)) ∧ W.frozen? ⟨w.heap.size + 1, 5, none⟩ = false) ∧
    (W.cell? ⟨w.heap.size + 1, 6, none⟩ = some (.int .i64 (x6 : Int)) ∧ W.frozen? ⟨w.heap.size + 1, 6, none⟩ = false) :=
  ⟨⟨h.now.cell 1 _ rfl, h.now.froz 1⟩, ⟨h.now.cell 2 _ rfl, h.now.froz 2⟩, ⟨h.now.cell 3 _ rfl, h.now.froz 3⟩, ⟨h.now.cell 4 _ rfl, h.now.froz 4⟩, ⟨h.now.cell 5 _ rfl, h.now.froz 5⟩, ⟨h.now.cell 6 _ rfl, h.now.froz 6⟩⟩
theorem eval_tmp (a : Act) (x : Nat) : a.eval (.tmp x) = a.tmps[x]?.getD undef := by simp [Act.eval]
theorem eval_put_ne {a : Act} {d k : Nat} {v : Value} (h : k ≠ d) : (a.put (some d) v).eval (.tmp k) = a.eval (.tmp k) := by
  simp [Act.put, Act.eval, Ne.symm h]
theorem eval_put_eq {a : Act} {d : Nat} {v : Value} (h : d < a.tmps.size) : (a.put (some d) v).eval (.tmp d) = v := by
  simp [Act.put, Act.eval, h]
theorem wpList_run {P : Program} {ops : Array Oper} {Q : Exit → Act → World → Prop} {a : Act} {w : World} {rest : List Oper} {o : Oper} (hg : o.guard = none) (h : o.wp P a w (wpList P ops Q rest) Q) : wpList P ops Q (o :: rest) a w := by
  unfold wpList
  have e : Region.wanted o (yielded ops a.tmps) = true := by simp [Region.wanted, hg]
  simp only [e, if_true]
  exact .inl h
set_option maxRecDepth 100000 in
theorem run_load8 (a : Act) (w : World) (K : Act → World → Prop) (Q : Exit → Act → World → Prop) (o : Oper) (x b : Nat) (v0 v1 v2 v3 v4 v5 v6 v7 : Value) (hx : a.tmps[x]?.getD undef = .pointer (some ⟨b, 0, none⟩)) (bk : Blk w b #[v0, v1, v2, v3, v4, v5, v6, v7] 53) (ho : o.op = .load 53 (.tmp x)) (h : K (a.put o.dst (.agg #[v0, v1, v2, v3, v4, v5, v6, v7])) w) : o.wp Try.prog a w K Q := by
  have c0 := bk.cell 0 _ rfl
  have c1 := bk.cell 1 _ rfl
  have c2 := bk.cell 2 _ rfl
  have c3 := bk.cell 3 _ rfl
  have c4 := bk.cell 4 _ rfl
  have c5 := bk.cell 5 _ rfl
  have c6 := bk.cell 6 _ rfl
  have c7 := bk.cell 7 _ rfl
  clear bk
  unfold Oper.wp execOp
  rw [ho]
  go_simp
  exact h
set_option maxRecDepth 100000 in
theorem run_store8 (a : Act) (w : World) (K : Act → World → Prop) (Q : Exit → Act → World → Prop) (o : Oper) (x y b : Nat) (u0 u1 u2 u3 u4 u5 u6 u7 : Value) (v0 v1 v2 v3 v4 v5 v6 v7 : Int) (hx : a.tmps[x]?.getD undef = .pointer (some ⟨b, 0, none⟩)) (hy : a.tmps[y]?.getD undef = .agg #[.int .i64 v0, .int .i64 v1, .int .i64 v2, .int .i64 v3, .int .i64 v4, .int .i64 v5, .int .i64 v6, .int .i64 v7]) (bk : Blk w b #[u0, u1, u2, u3, u4, u5, u6, u7] 53) (ho : o.op = .store 53 (.tmp x) (.tmp y))
    (h : K (a.put o.dst undef) ((((((((w.setCell ⟨b, 0, none⟩ (.int .i64 v0)).setCell ⟨b, 1, none⟩ (.int .i64 v1)).setCell ⟨b, 2, none⟩ (.int .i64 v2)).setCell ⟨b, 3, none⟩ (.int .i64 v3)).setCell ⟨b, 4, none⟩ (.int .i64 v4)).setCell ⟨b, 5, none⟩ (.int .i64 v5)).setCell ⟨b, 6, none⟩ (.int .i64 v6)).setCell ⟨b, 7, none⟩ (.int .i64 v7))) : o.wp Try.prog a w K Q := by
  have c0 := bk.cell 0 _ rfl
  have c1 := bk.cell 1 _ rfl
  have c2 := bk.cell 2 _ rfl
  have c3 := bk.cell 3 _ rfl
  have c4 := bk.cell 4 _ rfl
  have c5 := bk.cell 5 _ rfl
  have c6 := bk.cell 6 _ rfl
  have c7 := bk.cell 7 _ rfl
  have z0 := bk.froz 0
  have z1 := bk.froz 1
  have z2 := bk.froz 2
  have z3 := bk.froz 3
  have z4 := bk.froz 4
  have z5 := bk.froz 5
  have z6 := bk.froz 6
  have z7 := bk.froz 7
  clear bk
  unfold Oper.wp execOp
  rw [ho]
  go_simp
  exact h
set_option maxRecDepth 100000 in
theorem last8 {a : Act} {w W : World} {Q : Exit → Act → World → Prop} (p1 p2 : String) (x y d : Nat) (x1 x2 x3 x4 x5 x6 : Nat) (hd : d < a.tmps.size) (hy : y ≠ d)
    (hx : a.tmps[x]?.getD undef = .pointer (some ⟨w.heap.size + 1, 0, none⟩)) (hz : a.tmps[y]?.getD undef = .pointer (some ⟨w.heap.size, 0, none⟩)) (f : F8 w W x1 x2 x3 x4 x5 x6)
    (h : ∀ w', Below w.heap.size w w' → Blk w' w.heap.size (c8 x1 x2 x3 x4 x5 x6) 53 → Q .normal (a.put (some d) (.agg (c8 x1 x2 x3 x4 x5 x6))) w') (id : Nat) (tt t0 : TypeId) (e1 e2 : Array Edge) :
    Code.wp Try.prog (Code.region id #[{ dst := some d, op := Op.load 53 (Operand.tmp x), type := tt, pos := p1, after := e1, guard := none }, { dst := none, op := Op.store 53 (Operand.tmp y) (Operand.tmp d), type := t0, pos := p2, after := e2, guard := none }] false) Q a W := by
  refine wp_region_list (wpList_run rfl (run_load8 a W _ Q _ x _ _ _ _ _ _ _ _ _ hx f.now rfl (wpList_run rfl (run_store8 _ W _ Q _ y d _ _ _ _ _ _ _ _ _ 0 x1 x2 x3 x4 x5 x6 0 ?_ ?_ f.out rfl ?_))))
  · rw [← eval_tmp, eval_put_ne hy, eval_tmp]
    exact hz
  · rw [← eval_tmp, eval_put_eq hd]
  · refine h _ ?_ ?_
    · exact (((((((f.bel.setCell (p := ⟨w.heap.size, 0, none⟩) (Nat.le_refl _) _).setCell (p := ⟨w.heap.size, 1, none⟩) (Nat.le_refl _) _).setCell (p := ⟨w.heap.size, 2, none⟩) (Nat.le_refl _) _).setCell (p := ⟨w.heap.size, 3, none⟩) (Nat.le_refl _) _).setCell (p := ⟨w.heap.size, 4, none⟩) (Nat.le_refl _) _).setCell (p := ⟨w.heap.size, 5, none⟩) (Nat.le_refl _) _).setCell (p := ⟨w.heap.size, 6, none⟩) (Nat.le_refl _) _).setCell (p := ⟨w.heap.size, 7, none⟩) (Nat.le_refl _) _
    · have := (((((((f.out.set 0 (.int .i64 0)).set 1 (.int .i64 (x1 : Int))).set 2 (.int .i64 (x2 : Int))).set 3 (.int .i64 (x3 : Int))).set 4 (.int .i64 (x4 : Int))).set 5 (.int .i64 (x5 : Int))).set 6 (.int .i64 (x6 : Int))).set 7 (.int .i64 0)
      simpa [c8] using this
theorem markT_any (w : World) (c : UInt8) :
    Calls Try.prog 32 #[.int .u8 (c.toNat : Int), .string ⟨#[123, 125, 91, 93, 58, 61, 44]⟩] w fun e w' => e = .returned (.bool (isM c)) ∧ w' = w := by
  have := oneOf_any w c ⟨#[123, 125, 91, 93, 58, 61, 44]⟩ (by decide)
  rwa [one_mark] at this
end Go.Proofs.Ytoikdjbgeebadaa.toks
