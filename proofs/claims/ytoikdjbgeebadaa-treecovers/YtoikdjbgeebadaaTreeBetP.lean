/- What the reader of values answers; the lemmas of its loop. -/
import Derived.Test.YtoikdjbgeebadaaTreeSeeW
set_option linter.unusedVariables false
namespace Go.Proofs.Ytoikdjbgeebadaa.trees
open Go.RowKit
open toks

/-- What is answered: a node, or none and what is wrong. -/
def Res (B : Nat) (s : ByteArray) (a : Option Addr) (cap : Nat) (l : List Tk) (d f : Nat) (w : World) (q : R) (e : Ending) (w' : World) : Prop :=
  w.grownBy w' (some B) ∧
  match q with
  | .inl (c, ts) => e = .returned (.tuple #[(.agg #[.int .i64 0, .int .i64 0, .int .i64 0, .slice none 0 0]), .bool false]) ∧ ∃ i d', Rd w' B s (.slice a l.length cap) i d' (placeOf s l ts : Int) (c : Int)
  | .inr (t, ts) => ∃ u0 u1 u2 u3, e = .returned (.tuple #[.agg #[u0, u1, u2, u3], .bool true]) ∧ Lies (fun b => w.heap.size ≤ b) f w' [u0, u1, u2, u3] t ∧ ∃ i pl er, Rd w' B s (.slice a l.length cap) i d pl er ∧ At s.data.toList l i ts
theorem at_two {L : List UInt8} {l : List Tk} {i : Nat} {x : Sym} {r : List Sym} (h : At L l i (x :: r)) : i < l.length ∧ x.2 = i ∧ ∀ j, Nxt l (i + 1) j → At L l j r := by
  obtain ⟨hi, hx, _, _, hr⟩ := at_cons h
  exact ⟨hi, hx, fun j hj => by rw [hr]; exact hj.at⟩
theorem sol_len (L : List UInt8) : ∀ (l : List Tk) (i : Nat), (solF L i l).length ≤ l.length
  | [], i => Nat.le_refl _
  | t :: l, i => by
    have ih := sol_len L l (i + 1)
    by_cases h : 3 < t.kind
    · rw [sol_yes h, List.length_cons, List.length_cons]; omega
    · rw [sol_no h, List.length_cons]; omega
theorem At.len {L : List UInt8} {l : List Tk} {i : Nat} {ts : List Sym} (h : At L l i ts) : ts.length ≤ l.length := by
  rw [h.eq]
  have := sol_len L (l.drop i) i
  rw [List.length_drop] at this
  omega
theorem Rd.lev {w : World} {B : Nat} {s : ByteArray} {tv : Value} {i d : Nat} {pl er : Int} (h : Rd w B s tv i d pl er) (z : Int) (j : Nat) (hz : z = j) : Rd (w.setCell ⟨B, 3, none⟩ (.int .i64 z)) B s tv i j pl er := by
  rw [hz]; exact h.level j
/-- Blocks that are not this one. -/
theorem Lies.own {ok : Nat → Prop} {w : World} : ∀ {f : Nat} {vs : List Value} {t : T}, Lies ok f w vs t → Lies (fun b => ok b ∧ b < w.heap.size) f w vs t
  | 0, _, _, h => h.elim
  | f + 1, vs, t, h => by
    obtain ⟨k, a, e, l, p, cap, h1, h2, h3, h4⟩ := h
    refine ⟨k, a, e, l, p, cap, h1, h2, h3, fun hl => ?_⟩
    obtain ⟨b, o, hp, hok, hlt, hk⟩ := h4 hl
    refine ⟨b, o, hp, ⟨hok, hlt⟩, hlt, fun j hj => ?_⟩
    obtain ⟨us, u1, u2, u3⟩ := hk j hj
    exact ⟨us, u1, u2, Lies.own u3⟩
theorem KidsIn.weaken {ok ok' : Nat → Prop} {w : World} {f : Nat} {vss : List (List Value)} {l : List T} (ho : ∀ b, ok b → ok' b) (h : KidsIn ok f w vss l) : KidsIn ok' f w vss l :=
  ⟨h.len, fun j hj hj' => (h.each j hj hj').weaken ho⟩
theorem KidsIn.own {ok : Nat → Prop} {w : World} {f : Nat} {vss : List (List Value)} {l : List T} (h : KidsIn ok f w vss l) : KidsIn (fun b => ok b ∧ b < w.heap.size) f w vss l :=
  ⟨h.len, fun j hj hj' => (h.each j hj hj').own⟩
theorem infoNode : (Try.prog.info? 24).map (fun i => (i.zero, i.size, i.bytes)) = some (some (.agg #[.int .i64 0, .int .i64 0, .int .i64 0, .slice none 0 0]), 4, 48) := by kernel_rfl
theorem own_ge4 {w : World} {base e n : Nat} {v : Value} {xs : List Value} (h : w.ownsRow base e 4 v n xs) : ∀ g, v.ownBlock = some g → base ≤ g := fun g hg => (h.lt g hg).1
theorem own_kept4 {w w' : World} {base e n B : Nat} {v : Value} {xs : List Value} (h : w.ownsRow base e 4 v n xs) (hg : w.grownBy w' (some B)) (hB : B < base) : w'.ownsRow base e 4 v n xs := by
  refine h.kept hg ?_
  cases hv : v.ownBlock with
  | none => exact .inl rfl
  | some g => exact .inr (fun e => by injection e with e; have := own_ge4 h g hv; omega)
theorem own_not4 {w : World} {base e n B : Nat} {v : Value} {xs : List Value} (h : w.ownsRow base e 4 v n xs) (hB : B < base) : some B ≠ v.ownBlock := fun e => by
  have := own_ge4 h B e.symm
  omega
theorem cell_four_new (w : World) (x y z u : Value) (t : TypeId) : ∀ j r, [x, y, z, u][j]? = some r → (w.alloc (.cells #[x, y, z, u] t)).cell? ((⟨w.heap.size, 0, none⟩ : Addr).add j) = some r :=
  fun j r hu => World.news_of_block (blk_alloc w #[x, y, z, u] t) j r hu
theorem seesB_yes {ts : List Sym} {m : UInt8} (h : seesB ts m = true) : ∃ x r, ts = x :: r ∧ x.1 = m := by
  cases ts with
  | nil => cases h
  | cons x r => exact ⟨x, r, rfl, by simpa [seesB] using h⟩
theorem seesB_no {x : Sym} {r : List Sym} {m : UInt8} (h : seesB (x :: r) m = false) : x.1 ≠ m := by simpa [seesB] using h
theorem loop_end {q : List Sym → R} {ec : UInt8} {kind i F : Nat} {acc : List T} {x : Sym} {r : List Sym} (hx : x.1 = ec) (hF : (x :: r).length < F) : loopP q ec kind i F acc (x :: r) = .inr (nd kind i (x.2 + 1) acc, r) := by
  cases F with
  | zero => omega
  | succ F => rw [loopP, if_pos hx]
theorem loop_kid_bad {q : List Sym → R} {ec : UInt8} {kind i F : Nat} {acc : List T} {ts : List Sym} {e : Nat × List Sym} (hs : seesB ts ec = false) (hq0 : q [] = .inl (4, [])) (hq : q ts = .inl e) (hF : ts.length < F) : loopP q ec kind i F acc ts = .inl e := by
  cases F with
  | zero => omega
  | succ F =>
    cases ts with
    | nil => rw [hq0] at hq; rw [loopP]; exact hq
    | cons x r => rw [loopP, if_neg (seesB_no hs), hq]
theorem loop_comma {q : List Sym → R} {ec : UInt8} {kind i F : Nat} {acc : List T} {ts : List Sym} {t : T} {y : Sym} {r2 : List Sym} (hs : seesB ts ec = false) (hq0 : q [] = .inl (4, [])) (hq : q ts = .inr (t, y :: r2)) (hy : y.1 = 44) (hF : ts.length < F) : loopP q ec kind i F acc ts = loopP q ec kind i (F - 1) (acc ++ [t]) r2 := by
  cases F with
  | zero => omega
  | succ F =>
    cases ts with
    | nil => rw [hq0] at hq; cases hq
    | cons x r =>
      rw [loopP, if_neg (seesB_no hs), hq]
      simp only
      rw [if_pos hy]
      rfl
theorem loop_shut {q : List Sym → R} {ec : UInt8} {kind i F : Nat} {acc : List T} {ts : List Sym} {t : T} {y : Sym} {r2 : List Sym} (hs : seesB ts ec = false) (hq0 : q [] = .inl (4, [])) (hq : q ts = .inr (t, y :: r2)) (hy : y.1 ≠ 44) (hy2 : y.1 = ec) (hF : ts.length < F) : loopP q ec kind i F acc ts = .inr (nd kind i (y.2 + 1) (acc ++ [t]), r2) := by
  cases F with
  | zero => omega
  | succ F =>
    cases ts with
    | nil => rw [hq0] at hq; cases hq
    | cons x r =>
      rw [loopP, if_neg (seesB_no hs), hq]
      simp only
      rw [if_neg hy, if_pos hy2]
theorem loop_else {q : List Sym → R} {ec : UInt8} {kind i F : Nat} {acc : List T} {ts rest : List Sym} {t : T} (hs : seesB ts ec = false) (hq0 : q [] = .inl (4, [])) (hq : q ts = .inr (t, rest)) (h1 : seesB rest 44 = false) (h2 : seesB rest ec = false) (hF : ts.length < F) : loopP q ec kind i F acc ts = .inl (4, rest) := by
  cases F with
  | zero => omega
  | succ F =>
    cases ts with
    | nil => rw [hq0] at hq; cases hq
    | cons x r =>
      rw [loopP, if_neg (seesB_no hs), hq]
      cases rest with
      | nil => rfl
      | cons y r2 =>
        simp only
        rw [if_neg (seesB_no h1), if_neg (seesB_no h2)]
/-- How many solid tokens the reader has ahead of it. -/
def nextN (w : World) (B : Nat) : Nat := match w.cell? ⟨B, 2, none⟩ with | some (.int _ n) => n.toNat | _ => 0
def left (L : List UInt8) (l : List Tk) (B : Nat) (w : World) : Nat := (solF L (nextN w B) (l.drop (nextN w B))).length
theorem left_eq {w : World} {B : Nat} {s : ByteArray} {tv : Value} {i d : Nat} {pl er : Int} {l : List Tk} {ts : List Sym} (h : Rd w B s tv i d pl er) (ha : At s.data.toList l i ts) : left s.data.toList l B w = ts.length := by
  have e : nextN w B = i := by
    unfold nextN
    rw [Blk.cell h 2 (.int .i64 (i : Int)) rfl]
    simp
  unfold left
  rw [e, ← ha.eq]
/-- What holds at the head of the loop. -/
structure BInv (w : World) (B N : Nat) (s : ByteArray) (a : Option Addr) (cap : Nat) (l : List Tk) (d f kind i : Nat) (acc : List T) (vss : List (List Value)) (v : Value) (iC : Nat) (pl er : Int) (ts : List Sym) (wr : World) : Prop where
  rd : Rd wr B s (.slice a l.length cap) iC (d + 1) pl er
  at' : At s.data.toList l iC ts
  nb : Blk wr N #[.int .i64 (kind : Int), .int .i64 (i : Int), .int .i64 0, v] 24
  zb : Blk wr w.heap.size #[.int .i64 0, .int .i64 0, .int .i64 0, .slice none 0 0] 24
  own : wr.ownsRow (N + 1) 24 4 v acc.length vss.flatten
  kids : KidsIn (fun b => N + 1 ≤ b ∧ some b ≠ v.ownBlock) f wr vss acc
  gr : w.grownBy wr (some B)
  lt : B < w.heap.size ∧ w.heap.size < N
theorem BInv.sz {w : World} {B N : Nat} {s : ByteArray} {a : Option Addr} {cap : Nat} {l : List Tk} {d f kind i : Nat} {acc : List T} {vss : List (List Value)} {v : Value} {iC : Nat} {pl er : Int} {ts : List Sym} {wr : World} (h : BInv w B N s a cap l d f kind i acc vss v iC pl er ts wr) : N < wr.heap.size := Blk.lt h.nb
/-- Behind what writes the reader alone, and lays new blocks. -/
theorem BInv.on {w : World} {B N : Nat} {s : ByteArray} {a : Option Addr} {cap : Nat} {l : List Tk} {d f kind i : Nat} {acc : List T} {vss : List (List Value)} {v : Value} {iC : Nat} {pl er : Int} {ts : List Sym} {wr wa : World} (h : BInv w B N s a cap l d f kind i acc vss v iC pl er ts wr) (hg : wr.grownBy wa (some B)) {iC' : Nat} {pl' er' : Int} {ts' : List Sym} (hr : Rd wa B s (.slice a l.length cap) iC' (d + 1) pl' er') (ha : At s.data.toList l iC' ts') :
    BInv w B N s a cap l d f kind i acc vss v iC' pl' er' ts' wa := by
  have h1 := h.lt
  refine ⟨hr, ha, Blk.grown h.nb hg (fun e => by injection e with e; omega), Blk.grown h.zb hg (fun e => by injection e with e; omega), own_kept4 h.own hg (by omega), ?_, grown_trans h.gr hg, h1⟩
  exact h.kids.kept hg.size (fun b hb hlt => hg.block b hlt (fun e => by injection e with e; omega))
theorem BInv.below {w : World} {B N : Nat} {s : ByteArray} {a : Option Addr} {cap : Nat} {l : List Tk} {d f kind i : Nat} {acc : List T} {vss : List (List Value)} {v : Value} {iC : Nat} {pl er : Int} {ts : List Sym} {wr wa : World} (h : BInv w B N s a cap l d f kind i acc vss v iC pl er ts wr) (hb : Below wr.heap.size wr wa) :
    BInv w B N s a cap l d f kind i acc vss v iC pl er ts wa := h.on (grown_below hb) (h.rd.below hb) h.at'
/-- One kid more: the row was appended to, the node's cell holds the new one. -/
theorem BInv.more {w : World} {B N : Nat} {s : ByteArray} {a : Option Addr} {cap : Nat} {l : List Tk} {d f kind i : Nat} {acc : List T} {vss : List (List Value)} {v v' : Value} {iC : Nat} {pl er : Int} {ts : List Sym} {wr wx : World} {t : T} {us : List Value} (h : BInv w B N s a cap l d f kind i acc vss v iC pl er ts wr)
    (hL : Lies (fun b => N + 1 ≤ b ∧ some b ≠ v.ownBlock) f wr us t) (hown : wx.ownsRow (N + 1) 24 4 v' (acc.length + 1) (vss.flatten ++ us)) (hg : wr.grownBy wx v.ownBlock) (hat : v'.ownBlock = v.ownBlock ∨ ∀ g, v'.ownBlock = some g → wr.heap.size ≤ g) :
    BInv w B N s a cap l d f kind i (acc ++ [t]) (vss ++ [us]) v' iC pl er ts (wx.setCell ⟨N, 3, none⟩ v') := by
  have h1 := h.lt
  have nB := own_not4 h.own (show B < N + 1 by omega)
  have nN := own_not4 h.own (show N < N + 1 by omega)
  have nW := own_not4 h.own (show w.heap.size < N + 1 by omega)
  have hx : wx.grownBy (wx.setCell ⟨N, 3, none⟩ v') (some N) := grown_set _ _ _ _
  have hxh : ∀ b, b ≠ N → (wx.setCell ⟨N, 3, none⟩ v').heap[b]? = wx.heap[b]? := fun b hb => Below.heap_setCell _ _ _ _ hb
  refine ⟨Blk.set_other (Blk.grown h.rd hg nB) _ _ (show B ≠ N by omega), h.at', ?_, Blk.set_other (Blk.grown h.zb hg nW) _ _ (show w.heap.size ≠ N by omega), ?_, ?_, ?_, h1⟩
  · have := Blk.set (Blk.grown h.nb hg nN) 3 v'
    exact this
  · have e : (acc ++ [t]).length = acc.length + 1 := by simp
    have e2 : (vss ++ [us]).flatten = vss.flatten ++ us := by simp
    rw [e, e2]
    refine hown.kept hx ?_
    cases hv : v'.ownBlock with
    | none => exact .inl rfl
    | some g => exact .inr (fun e => by injection e with e; have := own_ge4 hown g hv; omega)
  · have hk : KidsIn (fun b => N + 1 ≤ b ∧ some b ≠ v.ownBlock) f wr (vss ++ [us]) (acc ++ [t]) := h.kids.snoc hL
    have hk2 := hk.own
    have hk3 : KidsIn (fun b => (N + 1 ≤ b ∧ some b ≠ v.ownBlock) ∧ b < wr.heap.size) f (wx.setCell ⟨N, 3, none⟩ v') (vss ++ [us]) (acc ++ [t]) := hk2.kept (Nat.le_trans hg.size hx.size) (fun b hb hlt => by rw [hxh b (by omega)]; exact hg.block b hlt hb.1.2)
    refine hk3.weaken fun b hb => ⟨hb.1.1, ?_⟩
    rcases hat with e | e
    · rw [e]; exact hb.1.2
    · intro e2
      have := e b e2.symm
      have := hb.2
      omega
  · exact ⟨(hg.os.trans h.gr.os), hg.tape.trans h.gr.tape, hg.output.trans h.gr.output, by simpa [World.setCell] using Nat.le_trans h.gr.size hg.size, fun k hk hr => by
      rw [hxh k (by omega), hg.block k (Nat.lt_of_lt_of_le hk h.gr.size) (fun e => by have := own_ge4 h.own k e.symm; omega)]
      exact h.gr.block k hk hr⟩
theorem own_slice {w : World} {base e n : Nat} {v : Value} {xs : List Value} (h : w.ownsRow base e 4 v n xs) : ∃ p m c, v = .slice p m c := by
  rcases h.2 with ⟨rfl, _⟩ | ⟨g, cap, cur, rfl, _⟩
  · exact ⟨_, _, _, rfl⟩
  · exact ⟨_, _, _, rfl⟩
theorem set_size (w : World) (p : Addr) (v : Value) : (w.setCell p v).heap.size = w.heap.size := by simp [World.setCell]
theorem grown_out {w w' : World} {r : Option Nat} (h : w.grownBy w' r) (b j : Nat) (v : Value) (hb : w.heap.size ≤ b) : w.grownBy (w'.setCell ⟨b, j, none⟩ v) r :=
  ⟨h.os, h.tape, h.output, by rw [set_size]; exact h.size, fun k hk hr => by rw [Below.heap_setCell _ _ _ _ (show k ≠ b by omega)]; exact h.block k hk hr⟩
/-- The end of the loop: the node lies in the answer's block. -/
theorem BInv.nb2 {w : World} {B N : Nat} {s : ByteArray} {a : Option Addr} {cap : Nat} {l : List Tk} {d f kind i : Nat} {acc : List T} {vss : List (List Value)} {v : Value} {iC : Nat} {pl er : Int} {ts : List Sym} {wa w4 : World} (h : BInv w B N s a cap l d f kind i acc vss v iC pl er ts wa) (hg : wa.grownBy w4 (some B)) (z : Value) : Blk w4 N #[.int .i64 (kind : Int), .int .i64 (i : Int), .int .i64 0, v] 24 ∧ Blk (w4.setCell ⟨N, 2, none⟩ z) N #[.int .i64 (kind : Int), .int .i64 (i : Int), z, v] 24 ∧ Blk (w4.setCell ⟨N, 2, none⟩ z) w.heap.size #[.int .i64 0, .int .i64 0, .int .i64 0, .slice none 0 0] 24 := by
  have h1 := h.lt
  have k1 := Blk.grown h.nb hg (fun e => by injection e with e; omega)
  have k2 := Blk.grown h.zb hg (fun e => by injection e with e; omega)
  refine ⟨k1, ?_, Blk.set_other k2 _ _ (show w.heap.size ≠ N by omega)⟩
  have := Blk.set k1 2 z
  exact this
theorem BInv.fin {w : World} {B N : Nat} {s : ByteArray} {a : Option Addr} {cap : Nat} {l : List Tk} {d f kind i : Nat} {acc : List T} {vss : List (List Value)} {v : Value} {iC : Nat} {pl er : Int} {ts : List Sym} {wa w4 : World} (h : BInv w B N s a cap l d f kind i acc vss v iC pl er ts wa) (hg : wa.grownBy w4 (some B)) {i4 : Nat} {pl4 er4 : Int} {r1 : List Sym} (hr : Rd w4 B s (.slice a l.length cap) i4 d pl4 er4) (ha : At s.data.toList l i4 r1) (e : Nat) (z : Int) (hz : z = e) :
    Res B s a cap l d (f + 1) w (.inr (nd kind i e acc, r1)) (.returned (.tuple #[.agg #[.int .i64 (kind : Int), .int .i64 (i : Int), .int .i64 z, v], .bool true])) (put4 (w4.setCell ⟨N, 2, none⟩ (.int .i64 z)) w.heap.size (.int .i64 (kind : Int)) (.int .i64 (i : Int)) (.int .i64 z) v) := by
  subst hz
  have h1 := h.lt
  have hgr := grown_trans h.gr hg
  have hx : w4.grownBy (w4.setCell ⟨N, 2, none⟩ (.int .i64 (e : Int))) (some N) := grown_set _ _ _ _
  have hb : ∀ b, N + 1 ≤ b → (put4 (w4.setCell ⟨N, 2, none⟩ (.int .i64 (e : Int))) w.heap.size (.int .i64 (kind : Int)) (.int .i64 (i : Int)) (.int .i64 (e : Int)) v).heap[b]? = w4.heap[b]? := fun b hb => by
    rw [put4_heap (by omega), Below.heap_setCell _ _ _ _ (show b ≠ N by omega)]
  have hsz : (put4 (w4.setCell ⟨N, 2, none⟩ (.int .i64 (e : Int))) w.heap.size (.int .i64 (kind : Int)) (.int .i64 (i : Int)) (.int .i64 (e : Int)) v).heap.size = w4.heap.size := by
    rw [put4_size, set_size]
  have hgF : w.grownBy (put4 (w4.setCell ⟨N, 2, none⟩ (.int .i64 (e : Int))) w.heap.size (.int .i64 (kind : Int)) (.int .i64 (i : Int)) (.int .i64 (e : Int)) v) (some B) := put4_grown (grown_out hgr N 2 _ (by omega)) (Nat.le_refl _) _ _ _ _
  refine ⟨hgF, _, _, _, _, rfl, ?_, i4, pl4, er4, put4_other (Blk.set_other hr _ _ (show B ≠ N by omega)) (show B ≠ w.heap.size by omega) _ _ _ _, ha⟩
  have hk4 : KidsIn (fun b => N + 1 ≤ b ∧ some b ≠ v.ownBlock) f w4 vss acc := h.kids.kept hg.size (fun b hb hlt => hg.block b hlt (fun e => by injection e with e; omega))
  have hkF := (hk4.kept (w' := put4 (w4.setCell ⟨N, 2, none⟩ (.int .i64 (e : Int))) w.heap.size (.int .i64 (kind : Int)) (.int .i64 (i : Int)) (.int .i64 (e : Int)) v) (by rw [hsz]; exact Nat.le_refl _) (fun b hb' hlt => hb b hb'.1)).weaken (ok' := fun b => w.heap.size ≤ b) (fun b hb => by omega)
  refine lies_own (base := N + 1) (ty := 24) hkF ?_ (fun b hb => by omega)
  have ho4 := own_kept4 h.own hg (show B < N + 1 by omega)
  have ho5 : (w4.setCell ⟨N, 2, none⟩ (.int .i64 (e : Int))).ownsRow (N + 1) 24 4 v acc.length vss.flatten := own_kept4 ho4 hx (by omega)
  have hput : (w4.setCell ⟨N, 2, none⟩ (.int .i64 (e : Int))).grownBy (put4 (w4.setCell ⟨N, 2, none⟩ (.int .i64 (e : Int))) w.heap.size (.int .i64 (kind : Int)) (.int .i64 (i : Int)) (.int .i64 (e : Int)) v) (some w.heap.size) :=
    ⟨rfl, rfl, rfl, by rw [put4_size]; exact Nat.le_refl _, fun k hk hr => put4_heap (fun e => hr (by rw [e])) _ _ _ _⟩
  exact own_kept4 ho5 hput (by omega)
/-- Nothing was read: the answer's block holds zeroes. -/
theorem fail_end {w wx : World} {B : Nat} {s : ByteArray} {a : Option Addr} {cap : Nat} {l : List Tk} {d f c : Nat} {te : List Sym} {i d' : Nat} (hB : B < w.heap.size) (hg : w.grownBy wx (some B)) (hz : Blk wx w.heap.size #[.int .i64 0, .int .i64 0, .int .i64 0, .slice none 0 0] 24) (hr : Rd wx B s (.slice a l.length cap) i d' (placeOf s l te : Int) (c : Int)) :
    Res B s a cap l d f w (.inl (c, te)) (.returned (.tuple #[(.agg #[.int .i64 0, .int .i64 0, .int .i64 0, .slice none 0 0]), .bool false])) (put4 wx w.heap.size (.int .i64 0) (.int .i64 0) (.int .i64 0) (.slice none 0 0)) ∧ Cells4 (put4 wx w.heap.size (.int .i64 0) (.int .i64 0) (.int .i64 0) (.slice none 0 0)) w.heap.size (.int .i64 0) (.int .i64 0) (.int .i64 0) (.slice none 0 0) :=
  ⟨⟨put4_grown hg (Nat.le_refl _) _ _ _ _, rfl, i, d', put4_other hr (show B ≠ w.heap.size by omega) _ _ _ _⟩, Blk.cells4 (put4_blk hz _ _ _ _)⟩
theorem Lies.form {ok : Nat → Prop} {f : Nat} {w : World} {u0 u1 u2 u3 : Value} {t : T} (h : Lies ok f w [u0, u1, u2, u3] t) : ∃ (k a e : Nat) (p : Option Addr) (n c : Nat), u0 = .int .i64 (k : Int) ∧ u1 = .int .i64 (a : Int) ∧ u2 = .int .i64 (e : Int) ∧ u3 = .slice p n c := by
  cases f with
  | zero => exact h.elim
  | succ f =>
    obtain ⟨k, a, e, l, p, cap, _, hv, _⟩ := h
    injection hv with h0 hv
    injection hv with h1 hv
    injection hv with h2 hv
    injection hv with h3 _
    exact ⟨k, a, e, p, _, cap, h0, h1, h2, h3⟩
theorem loc_less {q : List Sym → R} (hq : Loc q) {ts rest : List Sym} {t : T} (h : q ts = .inr (t, rest)) : rest.length < ts.length := by
  obtain ⟨p, hp, e, _⟩ := hq.good _ _ _ h
  have := List.length_pos_iff.2 hp
  rw [e, List.length_append]
  omega
end Go.Proofs.Ytoikdjbgeebadaa.trees
