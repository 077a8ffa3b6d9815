/- The last region of spanOf: the span is laid where the answer is kept. -/
import Derived.Test.YtobbbhmkcmbekaaDoorFloatSpan7
set_option linter.unusedVariables false
namespace Go.Proofs.YtobbbhmkcmbekaaDoor.bigs
open Go.RowKit
set_option maxRecDepth 100000 in
theorem run_loadS (a : Act) (w : World) (K : Act → World → Prop) (Q : Exit → Act → World → Prop) (o : Oper) (x b : Nat) (v1 v2 v3 v4 v5 : Value) (hx : a.tmps[x]?.getD undef = .pointer (some ⟨b, 0, none⟩)) (bk : Blk w b #[v1, v2, v3, v4, v5] 47) (ho : o.op = .load 47 (.tmp x)) (h : K (a.put o.dst (.agg #[v1, v2, v3, v4, v5])) w) : o.wp Tryd.prog a w K Q := by
  have c0 := bk.cell 0 _ rfl
  have c1 := bk.cell 1 _ rfl
  have c2 := bk.cell 2 _ rfl
  have c3 := bk.cell 3 _ rfl
  have c4 := bk.cell 4 _ rfl
  clear bk
  unfold Oper.wp execOp
  rw [ho]
  go_simp
  exact h
theorem wpList_run {P : Program} {ops : Array Oper} {Q : Exit → Act → World → Prop} {a : Act} {w : World} {rest : List Oper} {o : Oper} (hg : o.guard = none) (h : o.wp P a w (wpList P ops Q rest) Q) : wpList P ops Q (o :: rest) a w := by
  unfold wpList
  have e : Region.wanted o (yielded ops a.tmps) = true := by simp [Region.wanted, hg]
  simp only [e, if_true]
  exact .inl h
set_option maxRecDepth 100000 in
theorem span13 {a : Act} {w : World} {Q : Exit → Act → World → Prop} (p1 p2 : String) (x y d : Nat) (b bR : Nat) (u1 u2 u3 u4 u5 : Value) (y1 y2 y3 t : Int) (c : Bool) (hd : d < a.tmps.size) (hy : y ≠ d)
    (hx : a.tmps[x]?.getD undef = .pointer (some ⟨b, 0, none⟩)) (hz : a.tmps[y]?.getD undef = .pointer (some ⟨bR, 0, none⟩)) (kb : Blk w b #[.int .u64 y1, .int .u64 y2, .int .u64 y3, .bool c, .int .i64 t] 47) (kR : Blk w bR #[u1, u2, u3, u4, u5] 47)
    (h : ∀ w', Below bR w w' → Blk w' bR #[.int .u64 y1, .int .u64 y2, .int .u64 y3, .bool c, .int .i64 t] 47 → Q .normal (a.put (some d) (.agg #[.int .u64 y1, .int .u64 y2, .int .u64 y3, .bool c, .int .i64 t])) w') (id : Nat) (tt t0 : TypeId) (e1 e2 : Array Edge) :
    Code.wp Tryd.prog (Code.region id #[{ dst := some d, op := Op.load 47 (Operand.tmp x), type := tt, pos := p1, after := e1, guard := none }, { dst := none, op := Op.store 47 (Operand.tmp y) (Operand.tmp d), type := t0, pos := p2, after := e2, guard := none }] false) Q a w := by
  refine wp_region_list (wpList_run rfl (run_loadS a w _ Q _ x b _ _ _ _ _ hx kb rfl (wpList_run rfl (run_store _ w _ Q _ y d bR u1 u2 u3 u4 u5 y1 y2 y3 t c ?_ ?_ kR rfl ?_))))
  · rw [← eval_tmp, eval_put_ne hy, eval_tmp]
    exact hz
  · rw [← eval_tmp, eval_put_eq hd]
  · refine h _ ?_ (blk5 kR _ _ _ _ _)
    exact (((((Below.refl _ _).setCell (p := ⟨bR, 0, none⟩) (Nat.le_refl _) _).setCell (p := ⟨bR, 1, none⟩) (Nat.le_refl _) _).setCell (p := ⟨bR, 2, none⟩) (Nat.le_refl _) _).setCell (p := ⟨bR, 3, none⟩) (Nat.le_refl _) _).setCell (p := ⟨bR, 4, none⟩) (Nat.le_refl _) _
end Go.Proofs.YtobbbhmkcmbekaaDoor.bigs
