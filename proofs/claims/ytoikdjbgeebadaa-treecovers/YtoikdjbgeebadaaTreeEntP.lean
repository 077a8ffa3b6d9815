/- Answers that are handed on; an entry's node in memory. -/
import Derived.Test.YtoikdjbgeebadaaTreeBetP
set_option linter.unusedVariables false
namespace Go.Proofs.Ytoikdjbgeebadaa.trees
open Go.RowKit
open toks

theorem put4_lies {w : World} {R0 : Nat} {ok : Nat → Prop} {f : Nat} {vs : List Value} {t : T} (h : Lies ok f w vs t) (ho : ∀ b, ok b → b ≠ R0) (u0 u1 u2 u3 : Value) : Lies ok f (put4 w R0 u0 u1 u2 u3) vs t :=
  h.kept (by rw [put4_size]; exact Nat.le_refl _) (fun b hb _ => put4_heap (ho b hb) _ _ _ _)
/-- A node that a callee has read lies in the answer's block, too. -/
theorem pass_good {u u1 w' : World} {B R0 : Nat} {s : ByteArray} {a : Option Addr} {cap : Nat} {l : List Tk} {d f i : Nat} {pl er : Int} {t : T} {ts : List Sym} {x0 x1 x2 x3 v0 v1 v2 v3 : Value} (hB : B < u.heap.size) (h0 : u.heap.size ≤ R0) (h1 : R0 < u1.heap.size) (hg : u.grownBy u1 (some B)) (hg1 : u1.grownBy w' (some B)) (hz : Blk w' R0 #[x0, x1, x2, x3] 24)
    (hL : Lies (fun b => u1.heap.size ≤ b) f w' [v0, v1, v2, v3] t) (hr : Rd w' B s (.slice a l.length cap) i d pl er) (ha : At s.data.toList l i ts) :
    Res B s a cap l d f u (.inr (t, ts)) (.returned (.tuple #[.agg #[v0, v1, v2, v3], .bool true])) (put4 w' R0 v0 v1 v2 v3) ∧ Cells4 (put4 w' R0 v0 v1 v2 v3) R0 v0 v1 v2 v3 := by
  refine ⟨⟨put4_grown (grown_trans hg hg1) h0 _ _ _ _, v0, v1, v2, v3, rfl, ?_, i, pl, er, put4_other hr (show B ≠ R0 by omega) _ _ _ _, ha⟩, Blk.cells4 (put4_blk hz _ _ _ _)⟩
  exact (put4_lies hL (fun b hb => by omega) _ _ _ _).weaken (fun b hb => by omega)
theorem pass_bad {u u1 w' : World} {B R0 : Nat} {s : ByteArray} {a : Option Addr} {cap : Nat} {l : List Tk} {d f i d' c : Nat} {te : List Sym} {x0 x1 x2 x3 : Value} (hB : B < u.heap.size) (h0 : u.heap.size ≤ R0) (hg : u.grownBy u1 (some B)) (hg1 : u1.grownBy w' (some B)) (hz : Blk w' R0 #[x0, x1, x2, x3] 24)
    (hr : Rd w' B s (.slice a l.length cap) i d' (placeOf s l te : Int) (c : Int)) :
    Res B s a cap l d f u (.inl (c, te)) (.returned (.tuple #[(.agg #[.int .i64 0, .int .i64 0, .int .i64 0, .slice none 0 0]), .bool false])) (put4 w' R0 (.int .i64 0) (.int .i64 0) (.int .i64 0) (.slice none 0 0)) ∧ Cells4 (put4 w' R0 (.int .i64 0) (.int .i64 0) (.int .i64 0) (.slice none 0 0)) R0 (.int .i64 0) (.int .i64 0) (.int .i64 0) (.slice none 0 0) :=
  ⟨⟨put4_grown (grown_trans hg hg1) h0 _ _ _ _, rfl, i, d', put4_other hr (show B ≠ R0 by omega) _ _ _ _⟩, Blk.cells4 (put4_blk hz _ _ _ _)⟩
/-- The return, where the answer lies in such a block. -/
theorem ret_put {P : Program} {fn : Func} {Post : Ending → World → Prop} {a : Act} {w : World} {R0 : Nat} {u0 u1 u2 u3 v : Value} (hc : Cells4 (put4 w R0 u0 u1 u2 u3) R0 u0 u1 u2 u3) (hr : ∀ wF, Cells4 wF R0 u0 u1 u2 u3 → (results fn a.tmps).run P wF = .ok v wF) (hd : a.defers = []) (hP : Post (.returned v) (put4 w R0 u0 u1 u2 u3)) : bodyPost P fn Post .ret a (put4 w R0 u0 u1 u2 u3) :=
  bodyPost_ret (hr _ hc) hd hP
theorem Lies.form' {ok : Nat → Prop} {f : Nat} {w : World} {u0 u1 u2 u3 : Value} {t : T} (h : Lies ok f w [u0, u1, u2, u3] t) : ∃ (k a e : Nat) (p : Option Addr) (n c : Nat), u0 = .int .i64 (k : Int) ∧ u1 = .int .i64 (a : Int) ∧ u2 = .int .i64 (e : Int) ∧ u3 = .slice p n c ∧ endT t = e ∧ ∃ f', f = f' + 1 := by
  cases f with
  | zero => exact h.elim
  | succ f =>
    obtain ⟨k, a, e, l, p, cap, rfl, hv, _⟩ := h
    injection hv with h0 hv
    injection hv with h1 hv
    injection hv with h2 hv
    injection hv with h3 _
    exact ⟨k, a, e, p, _, cap, h0, h1, h2, h3, rfl, f, rfl⟩
/-- What an entry's walk keeps. -/
structure EInv (w : World) (B K : Nat) (i : Nat) (wr : World) : Prop where
  zb : Blk wr w.heap.size #[.int .i64 0, .int .i64 0, .int .i64 0, .slice none 0 0] 24
  kb : Blk wr K #[.int .i64 2, .int .i64 (i : Int), .int .i64 ((i : Int) + 1), .slice none 0 0] 24
  gr : w.grownBy wr (some B)
  lt : B < w.heap.size ∧ w.heap.size < K
theorem EInv.on {w wr wa : World} {B K i : Nat} (h : EInv w B K i wr) (hg : wr.grownBy wa (some B)) : EInv w B K i wa := by
  have h1 := h.lt
  exact ⟨Blk.grown h.zb hg (fun e => by injection e with e; omega), Blk.grown h.kb hg (fun e => by injection e with e; omega), grown_trans h.gr hg, h1⟩
/-- A node with two kids, in a row that was just laid. -/
theorem lies_pair {ok : Nat → Prop} {f : Nat} {w : World} {S : Nat} {k a e : Nat} {i : Nat} {u0 u1 u2 u3 : Value} {v : T} {t : TypeId} (hS : Blk w S #[.int .i64 2, .int .i64 (i : Int), .int .i64 ((i : Int) + 1), .slice none 0 0, u0, u1, u2, u3] t) (hok : ok S) (hv : Lies ok (f + 1) w [u0, u1, u2, u3] v) :
    Lies ok (f + 2) w [.int .i64 (k : Int), .int .i64 (a : Int), .int .i64 (e : Int), .slice (some ⟨S, 0, none⟩) 2 2] (nd k a e [nd 2 i (i + 1) [], v]) := by
  refine ⟨k, a, e, [nd 2 i (i + 1) [], v], some ⟨S, 0, none⟩, 2, rfl, rfl, Nat.le_refl _, fun _ => ⟨S, 0, rfl, hok, Blk.lt hS, fun j hj => ?_⟩⟩
  match j, hj with
  | 0, _ =>
    refine ⟨[.int .i64 2, .int .i64 (i : Int), .int .i64 ((i : Int) + 1), .slice none 0 0], rfl, fun m hm => ?_, ?_⟩
    · match m, hm with
      | 0, _ => exact Blk.cell hS 0 _ rfl
      | 1, _ => exact Blk.cell hS 1 _ rfl
      | 2, _ => exact Blk.cell hS 2 _ rfl
      | 3, _ => exact Blk.cell hS 3 _ rfl
    · have := lies_leaf ok f w 2 i (i + 1)
      rw [show ((i + 1 : Nat) : Int) = (i : Int) + 1 by omega] at this
      exact this
  | 1, _ =>
    refine ⟨[u0, u1, u2, u3], rfl, fun m hm => ?_, hv⟩
    match m, hm with
    | 0, _ => exact Blk.cell hS 4 _ rfl
    | 1, _ => exact Blk.cell hS 5 _ rfl
    | 2, _ => exact Blk.cell hS 6 _ rfl
    | 3, _ => exact Blk.cell hS 7 _ rfl
theorem ent_none {q : List Sym → R} {ts : List Sym} (h : seesB ts 120 = false) : entP q ts = .inl (4, ts) := by
  match ts with
  | [] => rfl
  | [x] => rw [ent_one, if_neg (seesB_no h)]
  | x :: m :: r => rw [ent_two, if_neg (seesB_no h)]
theorem ent_key {q : List Sym → R} {x : Sym} {r : List Sym} (hx : x.1 = 120) (h1 : seesB r 58 = false) (h2 : seesB r 61 = false) : entP q (x :: r) = .inl (4, r) := by
  match r with
  | [] => rw [ent_one, if_pos hx]
  | m :: r => rw [ent_two, if_pos hx, if_neg (fun e => e.elim (seesB_no h1) (seesB_no h2))]
theorem ent_val_bad {q : List Sym → R} {x m : Sym} {r : List Sym} {e : Nat × List Sym} (hx : x.1 = 120) (hm : m.1 = 58 ∨ m.1 = 61) (h : q r = .inl e) : entP q (x :: m :: r) = .inl e := by
  rw [ent_two, if_pos hx, if_pos hm, h]
theorem ent_val_good {q : List Sym → R} {x m : Sym} {r r2 : List Sym} {v : T} (hx : x.1 = 120) (hm : m.1 = 58 ∨ m.1 = 61) (h : q r = .inr (v, r2)) : entP q (x :: m :: r) = .inr (nd 4 x.2 (endT v) [nd 2 x.2 (x.2 + 1) [], v], r2) := by
  rw [ent_two, if_pos hx, if_pos hm, h]
end Go.Proofs.Ytoikdjbgeebadaa.trees
