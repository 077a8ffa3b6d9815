/- A value by what is seen; what its walk keeps. -/
import Derived.Test.YtoikdjbgeebadaaTreeEntP
import Derived.Deep.CutRange
import Derived.Deep.RegionWith
set_option linter.unusedVariables false
namespace Go.Proofs.Ytoikdjbgeebadaa.trees
open Go.RowKit
open toks

theorem pv_bad {lv : Nat} {ts : List Sym} (h1 : seesB ts 123 = false) (h2 : seesB ts 91 = false) (h3 : seesB ts 120 = false) : pv lv ts = .inl (4, ts) := by
  cases ts with
  | nil => exact pv_nil lv
  | cons x r =>
    have n1 := seesB_no h1
    have n2 := seesB_no h2
    have n3 := seesB_no h3
    cases lv with
    | zero => rw [pv, if_neg (by rintro (h | h | h) <;> contradiction)]
    | succ lv => rw [pv, if_neg n3, if_neg n1, if_neg n2]
theorem pv_deep {ts : List Sym} (h : seesB ts 123 = true ∨ seesB ts 91 = true ∨ seesB ts 120 = true) : pv 0 ts = .inl (5, ts) := by
  cases ts with
  | nil => rcases h with h | h | h <;> cases h
  | cons x r =>
    rw [pv, if_pos]
    rcases h with h | h | h
    · exact .inr (.inl (by simpa [seesB] using h))
    · exact .inr (.inr (by simpa [seesB] using h))
    · exact .inl (by simpa [seesB] using h)
theorem pv_table {lv : Nat} {x : Sym} {r : List Sym} (h : x.1 = 123) : pv (lv + 1) (x :: r) = loopP (entP (pv lv)) 125 3 x.2 (r.length + 1) [] r := by
  rw [pv, if_neg (by rw [h]; decide), if_pos h]
theorem pv_list {lv : Nat} {x : Sym} {r : List Sym} (h : x.1 = 91) : pv (lv + 1) (x :: r) = loopP (pv lv) 93 5 x.2 (r.length + 1) [] r := by
  rw [pv, if_neg (by rw [h]; decide), if_neg (by rw [h]; decide), if_pos h]
theorem pv_leaf {lv : Nat} {x : Sym} {r : List Sym} (h : x.1 = 120) : pv (lv + 1) (x :: r) = .inr (nd 1 x.2 (x.2 + 1) [], r) := by
  rw [pv, if_pos h]
theorem sees_else {ts : List Sym} {a b : UInt8} (h : seesB ts a = true) (hab : a ≠ b) : seesB ts b = false := by
  obtain ⟨x, r, rfl, hx⟩ := seesB_yes h
  show (x.1 == b) = false
  rw [hx]
  exact beq_false_of_ne hab
theorem Res.to {B : Nat} {s : ByteArray} {a : Option Addr} {cap : Nat} {l : List Tk} {d f f' : Nat} {w : World} {q : R} {e : Ending} {w' : World} (hf : f ≤ f') (h : Res B s a cap l d f w q e w') : Res B s a cap l d f' w q e w' := by
  obtain ⟨hg, h⟩ := h
  refine ⟨hg, ?_⟩
  cases q with
  | inl er => exact h
  | inr tr =>
    obtain ⟨u0, u1, u2, u3, he, hL, hr⟩ := h
    exact ⟨u0, u1, u2, u3, he, hL.to hf, hr⟩
/-- What the walk of a value keeps. -/
structure VInv (w : World) (B : Nat) (s : ByteArray) (a : Option Addr) (cap : Nat) (l : List Tk) (i d : Nat) (pl er : Int) (wr : World) : Prop where
  rd : Rd wr B s (.slice a l.length cap) i d pl er
  pb : Blk wr w.heap.size #[(.pointer (some ⟨B, 0, none⟩))] 42
  zb : Blk wr (w.heap.size + 1) #[.int .i64 0, .int .i64 0, .int .i64 0, .slice none 0 0] 24
  gr : w.grownBy wr (some B)
  lt : B < w.heap.size
theorem VInv.below {w : World} {B : Nat} {s : ByteArray} {a : Option Addr} {cap : Nat} {l : List Tk} {i d : Nat} {pl er : Int} {wr wa : World} (h : VInv w B s a cap l i d pl er wr) (hb : Below wr.heap.size wr wa) : VInv w B s a cap l i d pl er wa :=
  ⟨h.rd.below hb, h.pb.below hb, h.zb.below hb, grown_trans h.gr (grown_below hb), h.lt⟩
theorem vinv_start {w : World} {B : Nat} {s : ByteArray} {a : Option Addr} {cap : Nat} {l : List Tk} {i d : Nat} {pl er : Int} (hr : Rd w B s (.slice a l.length cap) i d pl er) : VInv w B s a cap l i d pl er ((w.alloc (.cells #[(.pointer (some ⟨B, 0, none⟩))] 42)).alloc (.cells #[.int .i64 0, .int .i64 0, .int .i64 0, .slice none 0 0] 24)) := by
  have HZB := blk_alloc (w.alloc (.cells #[(.pointer (some ⟨B, 0, none⟩))] 42)) #[.int .i64 0, .int .i64 0, .int .i64 0, .slice none 0 0] 24
  have e1 : (w.alloc (.cells #[(.pointer (some ⟨B, 0, none⟩))] 42)).heap.size = w.heap.size + 1 := by simp
  rw [e1] at HZB
  exact ⟨Blk.alloc (Blk.alloc hr _) _, Blk.alloc (blk_alloc w _ _) _, HZB, grown_alloc (grown_alloc (grown_refl w _) _) _, Blk.lt hr⟩
end Go.Proofs.Ytoikdjbgeebadaa.trees
