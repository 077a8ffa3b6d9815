/- Blocks, and what the cutter of a text keeps. -/
import Derived.Test.YtoikdjbgeebadaaProg
import Derived.Test.YtoikdjbgeebadaaPartAB
import Derived.WalkKit
import Derived.WalkSmall
import Derived.OwnWalk
import Derived.BigCall
import Derived.Maps.AppendAt
import Derived.Deep.AppendLies
import Derived.Laws.OwnMore
import Derived.Below
import Derived.Deep.QuietTactic
import Derived.BigQuiet
import GoSem.ClaimWide
import Derived.Test.YtoikdjbgeebadaaPartAA
import Derived.Laws.AppendOwn
set_option linter.unusedVariables false
namespace Go.Proofs.Ytoikdjbgeebadaa.toks
open Go.RowKit

theorem hide {p : Prop} (h : p) : Hid p := h
theorem unhide {p : Prop} (h : Hid p) : p := h
theorem len_list (s : ByteArray) : s.data.toList.length = s.size := by rw [Array.length_toList]; rfl
theorem ext_list (s : ByteArray) (a b : Nat) : (s.extract a b).data.toList = (s.data.toList.take b).drop a := by
  rw [ByteArray.data_extract, Array.toList_extract, List.extract_eq_take_drop, List.drop_take]
theorem ext_drop (s : ByteArray) (k : Nat) : (s.extract k s.size).data.toList = s.data.toList.drop k := by
  rw [ext_list, ← len_list s, List.take_length]
theorem ext_take (s : ByteArray) (k : Nat) : (s.extract 0 k).data.toList = s.data.toList.take k := by
  rw [ext_list, List.drop_zero]
theorem byte_at (s : ByteArray) (k : Nat) (h : k < s.size) : s.data.toList[k]'(by rw [len_list]; exact h) = s[k]'h := rfl
theorem size_mk (x : List UInt8) : (⟨x.toArray⟩ : ByteArray).size = x.length := by simp [ByteArray.size]

def Blk (w : World) (b : Nat) (cs : Array Value) (t : Nat) : Prop := w.heap[b]? = some (.cells cs t)
theorem Blk.lt {w : World} {b : Nat} {cs : Array Value} {t : Nat} (h : Blk w b cs t) : b < w.heap.size := by
  unfold Blk at h
  exact (Array.getElem?_eq_some_iff.1 h).1
theorem Blk.below {w w' : World} {b : Nat} {cs : Array Value} {t : Nat} (h : Blk w b cs t) (hb : Below w.heap.size w w') : Blk w' b cs t := by
  have := hb.block b h.lt
  unfold Blk at *
  rw [this, h]
theorem blk_alloc (w : World) (cs : Array Value) (t : Nat) : Blk (w.alloc (.cells cs t)) w.heap.size cs t := by
  show (w.heap.push _)[w.heap.size]? = _
  simp
theorem Blk.cell {w : World} {b : Nat} {cs : Array Value} {t : Nat} (h : Blk w b cs t) (j : Nat) (v : Value) (hj : cs[j]? = some v) : w.cell? ⟨b, j, none⟩ = some v := by
  unfold Blk at h
  simp only [World.cell?, h]
  exact hj
theorem Blk.froz {w : World} {b : Nat} {cs : Array Value} {t : Nat} (h : Blk w b cs t) (j : Nat) : w.frozen? ⟨b, j, none⟩ = false := by
  unfold Blk at h
  simp [World.frozen?, h]
theorem Blk.set {w : World} {b : Nat} {cs : Array Value} {t : Nat} (h : Blk w b cs t) (j : Nat) (v : Value) : Blk (w.setCell ⟨b, j, none⟩ v) b (cs.setIfInBounds j v) t := by
  unfold Blk at *
  simp only [World.setCell, Array.getElem?_modify, h]
  simp
theorem Blk.set_other {w : World} {b : Nat} {cs : Array Value} {t : Nat} (h : Blk w b cs t) (p : Addr) (v : Value) (hp : b ≠ p.block) : Blk (w.setCell p v) b cs t := by
  unfold Blk at *
  rw [Below.heap_setCell _ _ _ _ hp, h]
theorem Blk.alloc {w : World} {b : Nat} {cs : Array Value} {t : Nat} (h : Blk w b cs t) (o : Obj) : Blk (w.alloc o) b cs t := by
  unfold Blk at *
  rw [Below.heap_alloc _ _ _ (Blk.lt h), h]
theorem Blk.grown {w w' : World} {b : Nat} {cs : Array Value} {t : Nat} {r : Option Nat} (h : Blk w b cs t) (hg : w.grownBy w' r) (hr : some b ≠ r) : Blk w' b cs t := by
  have := hg.block b h.lt hr
  unfold Blk at *
  rw [this, h]
theorem grown_refl (w : World) (r : Option Nat) : w.grownBy w r := ⟨rfl, rfl, rfl, Nat.le_refl _, fun _ _ _ => rfl⟩
theorem grown_set (w : World) (B j : Nat) (v : Value) : w.grownBy (w.setCell ⟨B, j, none⟩ v) (some B) :=
  ⟨rfl, rfl, rfl, by simp [World.setCell], fun k _ hk => Below.heap_setCell _ _ _ _ (fun e => hk (by rw [e]))⟩
theorem grown_trans {w w1 w2 : World} {r : Option Nat} (h : w.grownBy w1 r) (g : w1.grownBy w2 r) : w.grownBy w2 r :=
  ⟨g.os.trans h.os, g.tape.trans h.tape, g.output.trans h.output, Nat.le_trans h.size g.size, fun k hk hr => (g.block k (Nat.lt_of_lt_of_le hk h.size) hr).trans (h.block k hk hr)⟩
theorem grown_drew {w w' : World} {r : Option Nat} (h : w.grownBy w' r) : w.grownBy w'.drew r := ⟨h.os, h.tape, h.output, h.size, h.block⟩
/-- The cutter of a text: what it keeps. -/
def Ctr (w : World) (B : Nat) (s : ByteArray) (m : Nat) (b : Bool) : Prop := Blk w B #[.string s, .int .i64 (m : Int), .bool b] 56
/-- The library's variable holds some number. -/
def MaxOk (w : World) : Prop := ∃ x : Int, w.cell? ⟨0, 0, none⟩ = some (.int .i64 x)
theorem MaxOk.lt {w : World} (h : MaxOk w) : 0 < w.heap.size := by
  obtain ⟨x, hx⟩ := h
  exact World.block_lt_of_cell? w _ hx
theorem MaxOk.below {w w' : World} {B : Nat} (h : MaxOk w) (hB : w.heap.size ≤ B) (hb : Below B w w') : MaxOk w' := by
  have := h.lt
  obtain ⟨x, hx⟩ := h
  exact ⟨x, by rw [hb.cell (p := ⟨0, 0, none⟩) (Nat.lt_of_lt_of_le this hB)]; exact hx⟩
theorem MaxOk.grown {w w' : World} {B : Nat} (h : MaxOk w) (hg : w.grownBy w' (some B)) (hB : 0 < B) : MaxOk w' := by
  obtain ⟨x, hx⟩ := h
  exact ⟨x, hg.cell hx (fun e => by injection e with e; exact absurd e (Nat.ne_of_lt hB))⟩

theorem byteN {c : UInt8} {k : Nat} (hk : k < 256) : (c == k.toUInt8) = ((c.toNat : Int) == (k : Int)) := by
  rw [Bool.eq_iff_iff, beq_iff_eq, beq_iff_eq]
  constructor
  · intro e; rw [e]; simp [Nat.toUInt8]; omega
  · intro e
    apply UInt8.toNat_inj.1
    have : c.toNat = k := by omega
    rw [this]; simp [Nat.toUInt8]; omega
theorem isB_int (c : UInt8) : isB c = ((c.toNat : Int) == 32 || (c.toNat : Int) == 9 || (c.toNat : Int) == 13) := by
  have h1 := @byteN c 32 (by decide)
  have h2 := @byteN c 9 (by decide)
  have h3 := @byteN c 13 (by decide)
  exact congr (congrArg or (congr (congrArg or h1) h2)) h3
theorem isM_int (c : UInt8) : isM c = ((c.toNat : Int) == 123 || (c.toNat : Int) == 125 || (c.toNat : Int) == 91 || (c.toNat : Int) == 93 || (c.toNat : Int) == 58 || (c.toNat : Int) == 61 || (c.toNat : Int) == 44) := by
  have h1 := @byteN c 123 (by decide)
  have h2 := @byteN c 125 (by decide)
  have h3 := @byteN c 91 (by decide)
  have h4 := @byteN c 93 (by decide)
  have h5 := @byteN c 58 (by decide)
  have h6 := @byteN c 61 (by decide)
  have h7 := @byteN c 44 (by decide)
  exact congr (congrArg or (congr (congrArg or (congr (congrArg or (congr (congrArg or (congr (congrArg or (congr (congrArg or h1) h2)) h3)) h4)) h5)) h6)) h7
set_option maxHeartbeats 2000000 in
theorem isBlank_any (w : World) (c : UInt8) :
    Calls Try.prog 36 #[.int .u8 (c.toNat : Int)] w fun e w' => e = .returned (.bool (isB c)) ∧ w' = w := by
  rw [isB_int]
  generalize (c.toNat : Int) = n
  cases h1 : n == 32 <;> cases h2 : n == 9 <;> cases h3 : n == 13
  all_goals
    go_enter Try.func36, Try.ntmps36
    go_wp2
    go_ret
    exact ⟨rfl, rfl⟩
set_option maxHeartbeats 4000000 in
theorem isMark_any (w : World) (c : UInt8) :
    Calls Try.prog 40 #[.int .u8 (c.toNat : Int)] w fun e w' => e = .returned (.bool (isM c)) ∧ w' = w := by
  rw [isM_int]
  generalize (c.toNat : Int) = n
  cases h1 : n == 123
  case true => go_enter Try.func40, Try.ntmps40; go_wp2; go_ret; exact ⟨rfl, rfl⟩
  cases h2 : n == 125
  case true => go_enter Try.func40, Try.ntmps40; go_wp2; go_ret; exact ⟨rfl, rfl⟩
  cases h3 : n == 91
  case true => go_enter Try.func40, Try.ntmps40; go_wp2; go_ret; exact ⟨rfl, rfl⟩
  cases h4 : n == 93
  case true => go_enter Try.func40, Try.ntmps40; go_wp2; go_ret; exact ⟨rfl, rfl⟩
  cases h5 : n == 58
  case true => go_enter Try.func40, Try.ntmps40; go_wp2; go_ret; exact ⟨rfl, rfl⟩
  cases h6 : n == 61
  case true => go_enter Try.func40, Try.ntmps40; go_wp2; go_ret; exact ⟨rfl, rfl⟩
  cases h7 : n == 44
  case true => go_enter Try.func40, Try.ntmps40; go_wp2; go_ret; exact ⟨rfl, rfl⟩
  go_enter Try.func40, Try.ntmps40; go_wp2; go_ret; exact ⟨rfl, rfl⟩
set_option maxHeartbeats 4000000 in
theorem inWord_any (w : World) (c : UInt8) :
    Calls Try.prog 39 #[.int .u8 (c.toNat : Int)] w fun e w' => e = .returned (.bool (isW c)) ∧ w' = w := by
  have key : ∀ b : Bool, isW c = b → Calls Try.prog 39 #[.int .u8 (c.toNat : Int)] w (fun e w' => e = .returned (.bool b) ∧ w' = w) → Calls Try.prog 39 #[.int .u8 (c.toNat : Int)] w (fun e w' => e = .returned (.bool (isW c)) ∧ w' = w) := fun b e h => by rw [e]; exact h
  have yes : (((97 : Int) ≤ (c.toNat : Int) ∧ (c.toNat : Int) ≤ 122) ∨ ((65 : Int) ≤ (c.toNat : Int) ∧ (c.toNat : Int) ≤ 90) ∨ ((48 : Int) ≤ (c.toNat : Int) ∧ (c.toNat : Int) ≤ 57) ∨ (c.toNat : Int) = 95 ∨ (c.toNat : Int) = 45 ∨ (c.toNat : Int) = 43 ∨ (c.toNat : Int) = 46) → isW c = true := fun h => decide_eq_true (by omega)
  have no : ¬ (((97 : Int) ≤ (c.toNat : Int) ∧ (c.toNat : Int) ≤ 122) ∨ ((65 : Int) ≤ (c.toNat : Int) ∧ (c.toNat : Int) ≤ 90) ∨ ((48 : Int) ≤ (c.toNat : Int) ∧ (c.toNat : Int) ≤ 57) ∨ (c.toNat : Int) = 95 ∨ (c.toNat : Int) = 45 ∨ (c.toNat : Int) = 43 ∨ (c.toNat : Int) = 46) → isW c = false := fun h => decide_eq_false (by omega)
  generalize isW c = r at *
  generalize (c.toNat : Int) = n at *
  by_cases e1 : n = 95
  · refine key true (yes (by omega)) ?_
    clear key yes no
    subst e1
    go_enter Try.func39, Try.ntmps39; go_wp2; go_ret; exact ⟨rfl, rfl⟩
  by_cases e2 : n = 45
  · refine key true (yes (by omega)) ?_
    clear key yes no
    subst e2
    go_enter Try.func39, Try.ntmps39; go_wp2; go_ret; exact ⟨rfl, rfl⟩
  by_cases e3 : n = 43
  · refine key true (yes (by omega)) ?_
    clear key yes no
    subst e3
    go_enter Try.func39, Try.ntmps39; go_wp2; go_ret; exact ⟨rfl, rfl⟩
  by_cases e4 : n = 46
  · refine key true (yes (by omega)) ?_
    clear key yes no
    subst e4
    go_enter Try.func39, Try.ntmps39; go_wp2; go_ret; exact ⟨rfl, rfl⟩
  have i1 : (n == 95) = false := beq_false_of_ne e1
  have i2 : (n == 45) = false := beq_false_of_ne e2
  have i3 : (n == 43) = false := beq_false_of_ne e3
  have i4 : (n == 46) = false := beq_false_of_ne e4
  by_cases a1 : 97 ≤ n
  · have d1 : decide (97 ≤ n) = true := decide_eq_true a1
    by_cases a2 : n ≤ 122
    · refine key true (yes (by omega)) ?_
      clear key yes no
      go_enter Try.func39, Try.ntmps39; go_wp2; go_ret; exact ⟨rfl, rfl⟩
    · refine key false (no (by omega)) ?_
      clear key yes no
      have d2 : decide (n ≤ 122) = false := decide_eq_false a2
      have a3 : 65 ≤ n := by omega
      have a4 : ¬ n ≤ 90 := by omega
      have a5 : 48 ≤ n := by omega
      have a6 : ¬ n ≤ 57 := by omega
      go_enter Try.func39, Try.ntmps39; go_wp2; go_ret; exact ⟨rfl, rfl⟩
  · have d1 : decide (97 ≤ n) = false := decide_eq_false a1
    by_cases a3 : 65 ≤ n
    · by_cases a4 : n ≤ 90
      · refine key true (yes (by omega)) ?_
        clear key yes no
        go_enter Try.func39, Try.ntmps39; go_wp2; go_ret; exact ⟨rfl, rfl⟩
      · refine key false (no (by omega)) ?_
        clear key yes no
        have a5 : 48 ≤ n := by omega
        have a6 : ¬ n ≤ 57 := by omega
        go_enter Try.func39, Try.ntmps39; go_wp2; go_ret; exact ⟨rfl, rfl⟩
    · by_cases a5 : 48 ≤ n
      · by_cases a6 : n ≤ 57
        · refine key true (yes (by omega)) ?_
          clear key yes no
          go_enter Try.func39, Try.ntmps39; go_wp2; go_ret; exact ⟨rfl, rfl⟩
        · refine key false (no (by omega)) ?_
          clear key yes no
          go_enter Try.func39, Try.ntmps39; go_wp2; go_ret; exact ⟨rfl, rfl⟩
      · refine key false (no (by omega)) ?_
        clear key yes no
        go_enter Try.func39, Try.ntmps39; go_wp2; go_ret; exact ⟨rfl, rfl⟩
end Go.Proofs.Ytoikdjbgeebadaa.toks
/- What belongs together, as lists of signs: plain mathematics. A sign: what a solid token is (120: a word or a text; 63: a bad one; else the mark itself), and its number. -/
set_option linter.unusedVariables false
namespace Go.Proofs.Ytoikdjbgeebadaa.trees

/-- A tree: at each node its kind, its first token, the one behind its last; and its kids. -/
abbrev T := DataW (Nat × Nat × Nat)
def nd (k a e : Nat) (l : List T) : T := .slice l [.held (k, a, e)]
theorem nd_inj {k a e k' a' e' : Nat} {l l' : List T} (h : nd k a e l = nd k' a' e' l') : k = k' ∧ a = a' ∧ e = e' ∧ l = l' := by
  unfold nd at h
  injection h with h1 h2
  injection h2 with h3 _
  injection h3 with h4
  injection h4 with h5 h6
  injection h6 with h7 h8
  exact ⟨h5, h7, h8, h1⟩
/-- Where a node ends. -/
def endT : T → Nat
  | .slice _ [.held (_, _, e)] => e
  | _ => 0
theorem endT_nd (k a e : Nat) (l : List T) : endT (nd k a e l) = e := rfl
abbrev Sym := UInt8 × Nat
/-- An answer: an error's number, and the signs from the wrong one on; or a node, and the signs behind it. -/
abbrev R := (Nat × List Sym) ⊕ (T × List Sym)
/-- An entry: its value by q. -/
def entP (q : List Sym → R) : List Sym → R
  | [] => .inl (4, [])
  | x :: r =>
    if x.1 = 120 then
      match r with
      | [] => .inl (4, [])
      | m :: r1 =>
        if m.1 = 58 ∨ m.1 = 61 then
          match q r1 with
          | .inl e => .inl e
          | .inr (v, r2) => .inr (nd 4 x.2 (endT v) [nd 2 x.2 (x.2 + 1) [], v], r2)
        else .inl (4, m :: r1)
    else .inl (4, x :: r)
/-- What stands between the marks of a table or a list: each by q, up to the sign ec. -/
def loopP (q : List Sym → R) (ec : UInt8) (kind i : Nat) : Nat → List T → List Sym → R
  | 0, _, ts => .inl (4, ts)
  | _ + 1, _, [] => .inl (4, [])
  | f + 1, acc, x :: r =>
    if x.1 = ec then .inr (nd kind i (x.2 + 1) acc, r)
    else
      match q (x :: r) with
      | .inl e => .inl e
      | .inr (_, []) => .inl (4, [])
      | .inr (t, y :: r2) =>
        if y.1 = 44 then loopP q ec kind i f (acc ++ [t]) r2
        else if y.1 = ec then .inr (nd kind i (y.2 + 1) (acc ++ [t]), r2)
        else .inl (4, y :: r2)
/-- A value; so many tables and lists may still be opened. -/
def pv : Nat → List Sym → R
  | _, [] => .inl (4, [])
  | 0, x :: r => if x.1 = 120 ∨ x.1 = 123 ∨ x.1 = 91 then .inl (5, x :: r) else .inl (4, x :: r)
  | lv + 1, x :: r =>
    if x.1 = 120 then .inr (nd 1 x.2 (x.2 + 1) [], r)
    else if x.1 = 123 then loopP (entP (pv lv)) 125 3 x.2 (r.length + 1) [] r
    else if x.1 = 91 then loopP (pv lv) 93 5 x.2 (r.length + 1) [] r
    else .inl (4, x :: r)
theorem pv_nil (lv : Nat) : pv lv [] = .inl (4, []) := by cases lv <;> rfl
/-- The kids, one by one: up to where they end, and what stands behind. -/
def Kids (q : List Sym → R) (ec : UInt8) : List T → List Sym → Nat → List Sym → Prop
  | [], ts, e, r => ∃ x : Sym, x.1 = ec ∧ ts = x :: r ∧ e = x.2 + 1
  | t :: l, ts, e, r => ∃ (x : Sym) (r0 : List Sym) (y : Sym) (r1 : List Sym), ts = x :: r0 ∧ x.1 ≠ ec ∧ q ts = .inr (t, y :: r1) ∧ ((y.1 = 44 ∧ Kids q ec l r1 e r) ∨ (y.1 ≠ 44 ∧ y.1 = ec ∧ l = [] ∧ e = y.2 + 1 ∧ r = r1))
theorem loop_kids (q : List Sym → R) (ec : UInt8) (kind i : Nat) : ∀ (f : Nat) (acc : List T) (ts : List Sym) (t : T) (r : List Sym), loopP q ec kind i f acc ts = .inr (t, r) → ∃ l e, t = nd kind i e (acc ++ l) ∧ Kids q ec l ts e r
  | 0, acc, ts, t, r, h => by cases h
  | f + 1, acc, [], t, r, h => by cases h
  | f + 1, acc, x :: r0, t, r, h => by
    unfold loopP at h
    split at h
    · rename_i hx
      injection h with h
      injection h with h1 h2
      exact ⟨[], x.2 + 1, by rw [← h1, List.append_nil], x, hx, by rw [h2], rfl⟩
    · rename_i hx
      split at h
      · cases h
      · cases h
      · rename_i t1 y r2 hq
        split at h
        · rename_i hy
          obtain ⟨l, e, e1, hk⟩ := loop_kids q ec kind i f _ _ _ _ h
          exact ⟨t1 :: l, e, by rw [e1, List.append_assoc]; rfl, x, r0, y, r2, rfl, hx, hq, .inl ⟨hy, hk⟩⟩
        · rename_i hy
          split at h
          · rename_i hy2
            injection h with h
            injection h with h1 h2
            exact ⟨[t1], y.2 + 1, h1.symm, x, r0, y, r2, rfl, hx, hq, .inr ⟨hy, hy2, rfl, rfl, h2.symm⟩⟩
          · cases h
/-- What a way of reading hangs on: on what it takes, and on nothing behind it; and where it is wrong, what is ahead of that place is a beginning. -/
structure Loc (q : List Sym → R) : Prop where
  good : ∀ ts t r, q ts = .inr (t, r) → ∃ p, p ≠ [] ∧ ts = p ++ r ∧ ∀ r', q (p ++ r') = .inr (t, r')
  bad : ∀ ts e r, q ts = .inl (e, r) → ∃ p, ts = p ++ r ∧ (e = 4 → q p = .inl (4, [])) ∧ (e = 4 ∨ (e = 5 ∧ r ≠ []))
theorem kids_loc {q : List Sym → R} {ec : UInt8} (hq : Loc q) : ∀ (l : List T) (ts : List Sym) (e : Nat) (r : List Sym), Kids q ec l ts e r → ∃ p, p ≠ [] ∧ ts = p ++ r ∧ l.length < p.length ∧ ∀ r', Kids q ec l (p ++ r') e r'
  | [], ts, e, r, h => by
    obtain ⟨x, hx, rfl, rfl⟩ := h
    exact ⟨[x], by simp, rfl, by simp, fun r' => ⟨x, hx, rfl, rfl⟩⟩
  | t :: l, ts, e, r, h => by
    obtain ⟨x, r0, y, r1, rfl, hx, hqt, h⟩ := h
    obtain ⟨p, hp, e1, h2⟩ := hq.good _ _ _ hqt
    obtain ⟨p0, rfl⟩ : ∃ p0, p = x :: p0 := by
      cases p with
      | nil => exact absurd rfl hp
      | cons a b => rw [List.cons_append] at e1; injection e1 with e1 _; exact ⟨b, by rw [e1]⟩
    rcases h with ⟨hy, hk⟩ | ⟨hy, hy2, rfl, rfl, rfl⟩
    · obtain ⟨p', _, rfl, hl', hk'⟩ := kids_loc hq l _ _ _ hk
      refine ⟨x :: p0 ++ y :: p', by simp, by rw [e1]; simp, by simp; omega, fun r' => ?_⟩
      refine ⟨x, p0 ++ y :: p' ++ r', y, p' ++ r', by simp, hx, ?_, .inl ⟨hy, hk' r'⟩⟩
      have := h2 (y :: (p' ++ r'))
      rw [← this]
      simp
    · refine ⟨x :: p0 ++ [y], by simp, by rw [e1]; simp, by simp, fun r' => ?_⟩
      refine ⟨x, p0 ++ y :: r', y, r', by simp, hx, ?_, .inr ⟨hy, hy2, rfl, rfl, rfl⟩⟩
      have := h2 (y :: r')
      rw [← this]
      simp
theorem kids_loop {q : List Sym → R} {ec : UInt8} (kind i : Nat) (hec : ec ≠ 44) : ∀ (l : List T) (f : Nat) (acc : List T) (ts : List Sym) (e : Nat) (r : List Sym), Kids q ec l ts e r → l.length < f → loopP q ec kind i f acc ts = .inr (nd kind i e (acc ++ l), r)
  | [], f + 1, acc, ts, e, r, h, _ => by
    obtain ⟨x, hx, rfl, rfl⟩ := h
    rw [loopP, if_pos hx, List.append_nil]
  | t :: l, f + 1, acc, ts, e, r, h, hf => by
    obtain ⟨x, r0, y, r1, rfl, hx, hqt, h⟩ := h
    rw [loopP, if_neg hx, hqt]
    rcases h with ⟨hy, hk⟩ | ⟨hy, hy2, rfl, rfl, rfl⟩
    · simp only
      rw [if_pos hy, kids_loop kind i hec l f _ _ _ _ hk (by simp at hf; omega), List.append_assoc]
      rfl
    · simp only
      rw [if_neg hy, if_pos hy2]
theorem loop_good {q : List Sym → R} {ec : UInt8} {kind i f : Nat} {acc : List T} {ts : List Sym} {t : T} {r : List Sym} (hq : Loc q) (hec : ec ≠ 44) (h : loopP q ec kind i f acc ts = .inr (t, r)) :
    ∃ p, p ≠ [] ∧ ts = p ++ r ∧ ∀ f' r', (p ++ r').length < f' → loopP q ec kind i f' acc (p ++ r') = .inr (t, r') := by
  obtain ⟨l, e, rfl, hk⟩ := loop_kids q ec kind i f acc ts t r h
  obtain ⟨p, hp, e1, hl, hk'⟩ := kids_loc hq l ts e r hk
  refine ⟨p, hp, e1, fun f' r' hf => kids_loop kind i hec l f' acc _ e r' (hk' r') ?_⟩
  rw [List.length_append] at hf
  omega
theorem loop_bad {q : List Sym → R} {ec : UInt8} {kind i : Nat} (hq : Loc q) (hec : ec ≠ 44) : ∀ (f : Nat) (acc : List T) (ts : List Sym) (e : Nat) (r : List Sym), ts.length < f → loopP q ec kind i f acc ts = .inl (e, r) →
    ∃ p, ts = p ++ r ∧ (e = 4 → ∀ f', p.length < f' → loopP q ec kind i f' acc p = .inl (4, [])) ∧ (e = 4 ∨ (e = 5 ∧ r ≠ []))
  | 0, acc, ts, e, r, hf, h => by omega
  | f + 1, acc, [], e, r, hf, h => by
    unfold loopP at h
    injection h with h
    injection h with h1 h2
    subst h1 h2
    refine ⟨[], rfl, fun _ f' hf' => ?_, .inl rfl⟩
    cases f' with
    | zero => simp at hf'
    | succ f' => rfl
  | f + 1, acc, x :: r0, e, r, hf, h => by
    unfold loopP at h
    split at h
    · cases h
    · rename_i hx
      split at h
      · rename_i e1 hq1
        injection h with h
        subst h
        obtain ⟨p, e2, h4, h5⟩ := hq.bad _ _ _ hq1
        refine ⟨p, e2, fun he f' hf' => ?_, h5⟩
        cases f' with
        | zero => omega
        | succ f' =>
          have hp := h4 he
          cases p with
          | nil => rfl
          | cons a b =>
            rw [List.cons_append] at e2
            injection e2 with e3 _
            subst e3
            rw [loopP, if_neg hx, hp]
      · rename_i t1 hq1
        injection h with h
        injection h with h1 h2
        subst h1 h2
        refine ⟨x :: r0, by simp, fun _ f' hf' => ?_, .inl rfl⟩
        cases f' with
        | zero => omega
        | succ f' => rw [loopP, if_neg hx, hq1]
      · rename_i t1 y r2 hq1
        obtain ⟨p, hp, e1, h2⟩ := hq.good _ _ _ hq1
        obtain ⟨p0, rfl⟩ : ∃ p0, p = x :: p0 := by
          cases p with
          | nil => exact absurd rfl hp
          | cons a b => rw [List.cons_append] at e1; injection e1 with e1 _; exact ⟨b, by rw [e1]⟩
        split at h
        · rename_i hy
          have hlen := congrArg List.length e1
          simp only [List.length_cons, List.length_append] at hlen hf
          obtain ⟨p', rfl, h4, h5⟩ := loop_bad hq hec f _ _ _ _ (by omega) h
          refine ⟨x :: p0 ++ y :: p', by rw [e1]; simp, fun he f' hf' => ?_, h5⟩
          cases f' with
          | zero => omega
          | succ f' =>
            have h3 := h2 (y :: p')
            rw [List.cons_append] at h3 ⊢
            simp only [List.length_cons, List.length_append] at hf'
            rw [loopP, if_neg hx, h3]
            simp only
            rw [if_pos hy, h4 he f' (by omega)]
        · rename_i hy
          split at h
          · cases h
          · rename_i hy2
            injection h with h
            injection h with h1 h3
            subst h1 h3
            refine ⟨x :: p0, e1, fun _ f' hf' => ?_, .inl rfl⟩
            cases f' with
            | zero => omega
            | succ f' =>
              have h3 := h2 []
              rw [List.append_nil] at h3
              rw [loopP, if_neg hx, h3]
theorem ent_one (q : List Sym → R) (x : Sym) : entP q [x] = if x.1 = 120 then .inl (4, []) else .inl (4, [x]) := rfl
theorem ent_two (q : List Sym → R) (x m : Sym) (r1 : List Sym) : entP q (x :: m :: r1) = if x.1 = 120 then (if m.1 = 58 ∨ m.1 = 61 then (match q r1 with | .inl e => .inl e | .inr (v, r2) => .inr (nd 4 x.2 (endT v) [nd 2 x.2 (x.2 + 1) [], v], r2)) else .inl (4, m :: r1)) else .inl (4, x :: m :: r1) := rfl
theorem ent_loc {q : List Sym → R} (hq : Loc q) : Loc (entP q) := by
  refine ⟨fun ts t r h => ?_, fun ts e r h => ?_⟩
  · match ts with
    | [] => cases h
    | [x] =>
      rw [ent_one] at h
      split at h <;> cases h
    | x :: m :: r1 =>
      rw [ent_two] at h
      split at h
      · rename_i hx
        split at h
        · rename_i hm
          split at h
          · cases h
          · rename_i v r2 hv
            injection h with h
            injection h with h1 h2
            subst h1 h2
            obtain ⟨p, hp, e1, h3⟩ := hq.good _ _ _ hv
            refine ⟨x :: m :: p, by simp, by rw [e1]; rfl, fun r' => ?_⟩
            rw [List.cons_append, List.cons_append, ent_two, if_pos hx, if_pos hm, h3 r']
        · cases h
      · cases h
  · match ts with
    | [] =>
      injection h with h
      injection h with h1 h2
      subst h1 h2
      exact ⟨[], rfl, fun _ => rfl, .inl rfl⟩
    | [x] =>
      rw [ent_one] at h
      split at h
      · rename_i hx
        injection h with h
        injection h with h1 h2
        subst h1 h2
        refine ⟨[x], rfl, fun _ => ?_, .inl rfl⟩
        rw [ent_one, if_pos hx]
      · injection h with h
        injection h with h1 h2
        subst h1 h2
        exact ⟨[], rfl, fun _ => rfl, .inl rfl⟩
    | x :: m :: r1 =>
      rw [ent_two] at h
      split at h
      · rename_i hx
        split at h
        · rename_i hm
          split at h
          · rename_i e1 hv
            injection h with h
            subst h
            obtain ⟨p, e2, h3, h4⟩ := hq.bad _ _ _ hv
            refine ⟨x :: m :: p, by rw [e2]; rfl, fun he => ?_, h4⟩
            rw [ent_two, if_pos hx, if_pos hm, h3 he]
          · cases h
        · injection h with h
          injection h with h1 h2
          subst h1 h2
          refine ⟨[x], rfl, fun _ => ?_, .inl rfl⟩
          rw [ent_one, if_pos hx]
      · injection h with h
        injection h with h1 h2
        subst h1 h2
        exact ⟨[], rfl, fun _ => rfl, .inl rfl⟩
theorem pv_loc : ∀ lv, Loc (pv lv)
  | 0 => by
    refine ⟨fun ts t r h => ?_, fun ts e r h => ?_⟩
    · cases ts with
      | nil => cases h
      | cons x r0 => unfold pv at h; split at h <;> cases h
    · cases ts with
      | nil =>
        injection h with h
        injection h with h1 h2
        subst h1 h2
        exact ⟨[], rfl, fun _ => rfl, .inl rfl⟩
      | cons x r0 =>
        unfold pv at h
        split at h
        · injection h with h
          injection h with h1 h2
          subst h1 h2
          exact ⟨[], rfl, (fun h => by cases h), .inr ⟨rfl, by simp⟩⟩
        · injection h with h
          injection h with h1 h2
          subst h1 h2
          exact ⟨[], rfl, fun _ => rfl, .inl rfl⟩
  | lv + 1 => by
    have ih := pv_loc lv
    have ie := ent_loc ih
    refine ⟨fun ts t r h => ?_, fun ts e r h => ?_⟩
    · cases ts with
      | nil => cases h
      | cons x r0 =>
        unfold pv at h
        split at h
        · rename_i hx
          injection h with h
          injection h with h1 h2
          subst h1 h2
          exact ⟨[x], by simp, rfl, fun r' => by rw [List.cons_append, pv, if_pos hx]; rfl⟩
        · rename_i hx
          split at h
          · rename_i hx2
            obtain ⟨p, hp, e1, h2⟩ := loop_good ie (by decide) h
            refine ⟨x :: p, by simp, by rw [e1]; rfl, fun r' => ?_⟩
            rw [List.cons_append, pv, if_neg hx, if_pos hx2]
            exact h2 _ r' (Nat.lt_succ_self _)
          · rename_i hx2
            split at h
            · rename_i hx3
              obtain ⟨p, hp, e1, h2⟩ := loop_good ih (by decide) h
              refine ⟨x :: p, by simp, by rw [e1]; rfl, fun r' => ?_⟩
              rw [List.cons_append, pv, if_neg hx, if_neg hx2, if_pos hx3]
              exact h2 _ r' (Nat.lt_succ_self _)
            · cases h
    · cases ts with
      | nil =>
        injection h with h
        injection h with h1 h2
        subst h1 h2
        exact ⟨[], rfl, fun _ => pv_nil _, .inl rfl⟩
      | cons x r0 =>
        unfold pv at h
        split at h
        · cases h
        · rename_i hx
          split at h
          · rename_i hx2
            obtain ⟨p, e1, h3, h4⟩ := loop_bad ie (by decide) _ _ _ _ _ (Nat.lt_succ_self _) h
            refine ⟨x :: p, by rw [e1]; rfl, fun he => ?_, h4⟩
            rw [pv, if_neg hx, if_pos hx2]
            exact h3 he _ (Nat.lt_succ_self _)
          · rename_i hx2
            split at h
            · rename_i hx3
              obtain ⟨p, e1, h3, h4⟩ := loop_bad ih (by decide) _ _ _ _ _ (Nat.lt_succ_self _) h
              refine ⟨x :: p, by rw [e1]; rfl, fun he => ?_, h4⟩
              rw [pv, if_neg hx, if_neg hx2, if_pos hx3]
              exact h3 he _ (Nat.lt_succ_self _)
            · injection h with h
              injection h with h1 h2
              subst h1 h2
              exact ⟨[], rfl, fun _ => pv_nil _, .inl rfl⟩
end Go.Proofs.Ytoikdjbgeebadaa.trees
/- What belongs together: more levels, other numbers, first and last token, kids: plain mathematics. -/
set_option linter.unusedVariables false
namespace Go.Proofs.Ytoikdjbgeebadaa.trees

/-- What the one reads the other reads as well. -/
def LeQ (q q' : List Sym → R) : Prop := ∀ ts x, q ts = .inr x → q' ts = .inr x
theorem kids_le {q q' : List Sym → R} {ec : UInt8} (h : LeQ q q') : ∀ (l : List T) (ts : List Sym) (e : Nat) (r : List Sym), Kids q ec l ts e r → Kids q' ec l ts e r
  | [], ts, e, r, hk => hk
  | t :: l, ts, e, r, hk => by
    obtain ⟨x, r0, y, r1, rfl, hx, hq, hk⟩ := hk
    refine ⟨x, r0, y, r1, rfl, hx, h _ _ hq, ?_⟩
    rcases hk with ⟨hy, hk⟩ | hk
    · exact .inl ⟨hy, kids_le h l _ _ _ hk⟩
    · exact .inr hk
theorem loop_le {q q' : List Sym → R} {ec : UInt8} {kind i : Nat} {ts : List Sym} {x : T × List Sym} (h : LeQ q q') (hq : Loc q) (hec : ec ≠ 44) (hl : loopP q ec kind i (ts.length + 1) [] ts = .inr x) : loopP q' ec kind i (ts.length + 1) [] ts = .inr x := by
  obtain ⟨t, r⟩ := x
  obtain ⟨l, e, rfl, hk⟩ := loop_kids q ec kind i _ [] ts t r hl
  obtain ⟨p, _, e1, hlp, _⟩ := kids_loc hq l ts e r hk
  refine kids_loop kind i hec l _ [] ts e r (kids_le h l ts e r hk) ?_
  rw [e1, List.length_append]
  omega
theorem ent_le {q q' : List Sym → R} (h : LeQ q q') : LeQ (entP q) (entP q') := by
  intro ts x hx
  match ts with
  | [] => cases hx
  | [a] =>
    rw [ent_one] at hx
    split at hx <;> cases hx
  | a :: m :: r1 =>
    rw [ent_two] at hx ⊢
    split at hx
    · rename_i h1
      split at hx
      · rename_i h2
        rw [if_pos h1, if_pos h2]
        split at hx
        · cases hx
        · rename_i v r2 hv
          rw [h _ _ hv]
          exact hx
      · cases hx
    · cases hx
theorem pv_up : ∀ lv, LeQ (pv lv) (pv (lv + 1))
  | 0 => by
    intro ts x h
    cases ts with
    | nil => cases h
    | cons a r => unfold pv at h; split at h <;> cases h
  | lv + 1 => by
    intro ts x h
    have ih := pv_up lv
    cases ts with
    | nil => cases h
    | cons a r =>
      rw [pv] at h ⊢
      split at h
      · rename_i h1; rw [if_pos h1]; exact h
      · rename_i h1
        rw [if_neg h1]
        split at h
        · rename_i h2; rw [if_pos h2]; exact loop_le (ent_le ih) (ent_loc (pv_loc lv)) (by decide) h
        · rename_i h2
          rw [if_neg h2]
          split at h
          · rename_i h3; rw [if_pos h3]; exact loop_le ih (pv_loc lv) (by decide) h
          · cases h
theorem pv_le {a b : Nat} (h : a ≤ b) : LeQ (pv a) (pv b) := by
  induction b with
  | zero =>
    have : a = 0 := by omega
    subst this
    exact fun _ _ h => h
  | succ b ih =>
    by_cases e : a = b + 1
    · subst e; exact fun _ _ h => h
    · exact fun ts x hx => pv_up b ts x (ih (by omega) ts x hx)
/-- A tree whose tokens have other numbers: each greater by b. -/
def MvT (b : Nat) : Nat → T → T → Prop
  | 0, _, _ => False
  | n + 1, t, t' => ∃ k a e l l', t = nd k (a + b) (e + b) l ∧ t' = nd k a e l' ∧ l.length = l'.length ∧ ∀ (j : Nat) (h : j < l.length) (h' : j < l'.length), MvT b n l[j] l'[j]
theorem mv_up (b : Nat) : ∀ (n : Nat) (t t' : T), MvT b n t t' → MvT b (n + 1) t t'
  | 0, _, _, h => h.elim
  | n + 1, t, t', h => by
    obtain ⟨k, a, e, l, l', rfl, rfl, hl, hk⟩ := h
    exact ⟨k, a, e, l, l', rfl, rfl, hl, fun j h h' => mv_up b n _ _ (hk j h h')⟩
theorem mv_end {b n : Nat} {t t' : T} (h : MvT b n t t') : endT t = endT t' + b := by
  cases n with
  | zero => exact h.elim
  | succ n =>
    obtain ⟨k, a, e, l, l', rfl, rfl, _⟩ := h
    rfl
def sh (b : Nat) (x : Sym) : Sym := (x.1, x.2 + b)
/-- Other numbers change nothing but the numbers. -/
def ShQ (b n : Nat) (q : List Sym → R) : Prop := ∀ ts, (∀ e r, q ts = .inl (e, r) → q (ts.map (sh b)) = .inl (e, r.map (sh b))) ∧ (∀ t' r, q ts = .inr (t', r) → ∃ t, q (ts.map (sh b)) = .inr (t, r.map (sh b)) ∧ MvT b n t t')
def AllMv (b n : Nat) (l l' : List T) : Prop := l.length = l'.length ∧ ∀ (j : Nat) (h : j < l.length) (h' : j < l'.length), MvT b n l[j] l'[j]
theorem allMv_nil (b n : Nat) : AllMv b n [] [] := ⟨rfl, fun j h => by simp at h⟩
theorem allMv_snoc {b n : Nat} {l l' : List T} {t t' : T} (h : AllMv b n l l') (ht : MvT b n t t') : AllMv b n (l ++ [t]) (l' ++ [t']) := by
  refine ⟨by simp [h.1], fun j hj hj' => ?_⟩
  have e := h.1
  by_cases hl : j < l.length
  · rw [List.getElem_append_left hl, List.getElem_append_left (by omega)]
    exact h.2 j hl (by omega)
  · rw [List.getElem_append_right (by omega), List.getElem_append_right (by omega)]
    simp only [List.getElem_singleton]
    exact ht
theorem loop_sh {b n : Nat} {q : List Sym → R} {ec : UInt8} {kind i : Nat} (hq : ShQ b n q) : ∀ (f : Nat) (acc acc' : List T) (ts : List Sym), AllMv b n acc acc' →
    (∀ e r, loopP q ec kind i f acc' ts = .inl (e, r) → loopP q ec kind (i + b) f acc (ts.map (sh b)) = .inl (e, r.map (sh b))) ∧
    (∀ t' r, loopP q ec kind i f acc' ts = .inr (t', r) → ∃ t, loopP q ec kind (i + b) f acc (ts.map (sh b)) = .inr (t, r.map (sh b)) ∧ MvT b (n + 1) t t')
  | 0, acc, acc', ts, ha => by
    refine ⟨fun e r h => ?_, fun t' r h => by cases h⟩
    injection h with h
    injection h with h1 h2
    subst h1 h2
    rfl
  | f + 1, acc, acc', [], ha => by
    refine ⟨fun e r h => ?_, fun t' r h => by cases h⟩
    injection h with h
    injection h with h1 h2
    subst h1 h2
    rfl
  | f + 1, acc, acc', x :: r0, ha => by
    have hs : (x :: r0).map (sh b) = sh b x :: r0.map (sh b) := rfl
    have hq1 := hq (x :: r0)
    rw [hs] at hq1 ⊢
    by_cases hx : x.1 = ec
    · have e1 : loopP q ec kind i (f + 1) acc' (x :: r0) = .inr (nd kind i (x.2 + 1) acc', r0) := by rw [loopP, if_pos hx]
      have e2 : loopP q ec kind (i + b) (f + 1) acc (sh b x :: r0.map (sh b)) = .inr (nd kind (i + b) (x.2 + 1 + b) acc, r0.map (sh b)) := by
        rw [loopP, if_pos (by exact hx)]
        have : (sh b x).2 + 1 = x.2 + 1 + b := by unfold sh; simp only; omega
        rw [this]
      rw [e1, e2]
      refine ⟨(fun e r h => by cases h), fun t' r h => ?_⟩
      injection h with h
      injection h with h1 h2
      subst h1 h2
      exact ⟨_, rfl, kind, i, x.2 + 1, acc, acc', rfl, rfl, ha.1, ha.2⟩
    · have hx' : ¬ (sh b x).1 = ec := hx
      have e1 : ∀ acc i, loopP q ec kind i (f + 1) acc (x :: r0) = match q (x :: r0) with
          | .inl e => .inl e
          | .inr (_, []) => .inl (4, [])
          | .inr (t, y :: r2) => if y.1 = 44 then loopP q ec kind i f (acc ++ [t]) r2 else if y.1 = ec then .inr (nd kind i (y.2 + 1) (acc ++ [t]), r2) else .inl (4, y :: r2) := fun acc i => by rw [loopP, if_neg hx] <;> rfl
      have e2 : ∀ acc i, loopP q ec kind i (f + 1) acc (sh b x :: r0.map (sh b)) = match q (sh b x :: r0.map (sh b)) with
          | .inl e => .inl e
          | .inr (_, []) => .inl (4, [])
          | .inr (t, y :: r2) => if y.1 = 44 then loopP q ec kind i f (acc ++ [t]) r2 else if y.1 = ec then .inr (nd kind i (y.2 + 1) (acc ++ [t]), r2) else .inl (4, y :: r2) := fun acc i => by rw [loopP, if_neg hx'] <;> rfl
      rw [e1, e2]
      cases hqv : q (x :: r0) with
      | inl er =>
        obtain ⟨e, r⟩ := er
        rw [hq1.1 e r hqv]
        refine ⟨fun e' r' h => ?_, fun t' r' h => by cases h⟩
        injection h with h
        injection h with h1 h2
        subst h1 h2
        rfl
      | inr tr =>
        obtain ⟨t0', r⟩ := tr
        obtain ⟨t0, hq2, hm⟩ := hq1.2 t0' r hqv
        rw [hq2]
        cases r with
        | nil =>
          refine ⟨fun e' r' h => ?_, fun t' r' h => by cases h⟩
          injection h with h
          injection h with h1 h2
          subst h1 h2
          rfl
        | cons y r2 =>
          have ih := loop_sh (ec := ec) (kind := kind) (i := i) hq f (acc ++ [t0]) (acc' ++ [t0']) r2 (allMv_snoc ha hm)
          have hmy : (y :: r2).map (sh b) = sh b y :: r2.map (sh b) := rfl
          rw [hmy]
          simp only
          by_cases hy : y.1 = 44
          · rw [if_pos hy, if_pos (by exact hy)]
            exact ih
          · have hy' : ¬ (sh b y).1 = 44 := hy
            rw [if_neg hy, if_neg hy']
            by_cases hy2 : y.1 = ec
            · have hy2' : (sh b y).1 = ec := hy2
              rw [if_pos hy2, if_pos hy2']
              refine ⟨(fun e r h => by cases h), fun t' r h => ?_⟩
              injection h with h
              injection h with h1 h2
              subst h1 h2
              have hall := allMv_snoc ha hm
              have : (sh b y).2 + 1 = y.2 + 1 + b := by unfold sh; simp only; omega
              exact ⟨_, rfl, kind, i, y.2 + 1, acc ++ [t0], acc' ++ [t0'], by rw [this], rfl, hall.1, hall.2⟩
            · have hy2' : ¬ (sh b y).1 = ec := hy2
              rw [if_neg hy2, if_neg hy2']
              refine ⟨fun e' r' h => ?_, fun t' r' h => by cases h⟩
              injection h with h
              injection h with h1 h2
              subst h1 h2
              rfl
theorem ent_sh {b n : Nat} {q : List Sym → R} (hq : ShQ b (n + 1) q) : ShQ b (n + 2) (entP q) := by
  intro ts
  match ts with
  | [] =>
    refine ⟨fun e r h => ?_, fun t' r h => by cases h⟩
    injection h with h
    injection h with h1 h2
    subst h1 h2
    rfl
  | [x] =>
    have hs : [x].map (sh b) = [sh b x] := rfl
    rw [hs, ent_one, ent_one]
    by_cases hx : x.1 = 120
    · rw [if_pos hx, if_pos (show (sh b x).1 = 120 from hx)]
      refine ⟨fun e r h => ?_, fun t' r h => by cases h⟩
      injection h with h
      injection h with h1 h2
      subst h1 h2
      rfl
    · rw [if_neg hx, if_neg (show ¬ (sh b x).1 = 120 from hx)]
      refine ⟨fun e r h => ?_, fun t' r h => by cases h⟩
      injection h with h
      injection h with h1 h2
      subst h1 h2
      rfl
  | x :: m :: r1 =>
    have hs : (x :: m :: r1).map (sh b) = sh b x :: sh b m :: r1.map (sh b) := rfl
    rw [hs, ent_two, ent_two]
    by_cases hx : x.1 = 120
    · rw [if_pos hx, if_pos (show (sh b x).1 = 120 from hx)]
      by_cases hm : m.1 = 58 ∨ m.1 = 61
      · rw [if_pos hm, if_pos (show (sh b m).1 = 58 ∨ (sh b m).1 = 61 from hm)]
        have hq1 := hq r1
        cases hqv : q r1 with
        | inl er =>
          obtain ⟨e, r⟩ := er
          rw [hq1.1 e r hqv]
          refine ⟨fun e' r' h => ?_, fun t' r' h => by cases h⟩
          injection h with h
          injection h with h1 h2
          subst h1 h2
          rfl
        | inr tr =>
          obtain ⟨v', r⟩ := tr
          obtain ⟨v, hq2, hmv⟩ := hq1.2 v' r hqv
          rw [hq2]
          refine ⟨(fun e' r' h => by cases h), fun t' r' h => ?_⟩
          injection h with h
          injection h with h1 h2
          subst h1 h2
          refine ⟨_, rfl, 4, x.2, endT v', [nd 2 (sh b x).2 ((sh b x).2 + 1) [], v], [nd 2 x.2 (x.2 + 1) [], v'], by rw [mv_end hmv]; rfl, rfl, rfl, fun j h h' => ?_⟩
          match j, h with
          | 0, _ =>
            refine ⟨2, x.2, x.2 + 1, [], [], ?_, rfl, rfl, fun j h => by simp at h⟩
            have : (sh b x).2 + 1 = x.2 + 1 + b := by unfold sh; simp only; omega
            show nd 2 (sh b x).2 ((sh b x).2 + 1) [] = _
            rw [this]
            rfl
          | 1, _ => exact hmv
      · rw [if_neg hm, if_neg (show ¬ ((sh b m).1 = 58 ∨ (sh b m).1 = 61) from hm)]
        refine ⟨fun e r h => ?_, fun t' r h => by cases h⟩
        injection h with h
        injection h with h1 h2
        subst h1 h2
        rfl
    · rw [if_neg hx, if_neg (show ¬ (sh b x).1 = 120 from hx)]
      refine ⟨fun e r h => ?_, fun t' r h => by cases h⟩
      injection h with h
      injection h with h1 h2
      subst h1 h2
      rfl
theorem shq_up {b n : Nat} {q : List Sym → R} (h : ShQ b n q) : ShQ b (n + 1) q := fun ts => ⟨(h ts).1, fun t' r hq => by
  obtain ⟨t, h1, h2⟩ := (h ts).2 t' r hq
  exact ⟨t, h1, mv_up b n _ _ h2⟩⟩
/-- How deep a tree of so many levels is, in nodes. -/
theorem pv_sh (b : Nat) : ∀ lv, ShQ b (2 * lv + 1) (pv lv)
  | 0 => by
    intro ts
    cases ts with
    | nil =>
      refine ⟨fun e r h => ?_, fun t' r h => by cases h⟩
      injection h with h
      injection h with h1 h2
      subst h1 h2
      rfl
    | cons x r0 =>
      have hs : (x :: r0).map (sh b) = sh b x :: r0.map (sh b) := rfl
      rw [hs, pv, pv]
      by_cases hx : x.1 = 120 ∨ x.1 = 123 ∨ x.1 = 91
      · rw [if_pos hx, if_pos (show (sh b x).1 = 120 ∨ (sh b x).1 = 123 ∨ (sh b x).1 = 91 from hx)]
        refine ⟨fun e r h => ?_, fun t' r h => by cases h⟩
        injection h with h
        injection h with h1 h2
        subst h1 h2
        rfl
      · rw [if_neg hx, if_neg (show ¬ ((sh b x).1 = 120 ∨ (sh b x).1 = 123 ∨ (sh b x).1 = 91) from hx)]
        refine ⟨fun e r h => ?_, fun t' r h => by cases h⟩
        injection h with h
        injection h with h1 h2
        subst h1 h2
        rfl
  | lv + 1 => by
    intro ts
    have ih := pv_sh b lv
    cases ts with
    | nil =>
      refine ⟨fun e r h => ?_, fun t' r h => by cases h⟩
      injection h with h
      injection h with h1 h2
      subst h1 h2
      rfl
    | cons x r0 =>
      have hs : (x :: r0).map (sh b) = sh b x :: r0.map (sh b) := rfl
      rw [hs, pv, pv, List.length_map]
      by_cases h1 : x.1 = 120
      · rw [if_pos h1, if_pos (show (sh b x).1 = 120 from h1)]
        refine ⟨(fun e r h => by cases h), fun t' r h => ?_⟩
        injection h with h
        injection h with h2 h3
        subst h2 h3
        have : (sh b x).2 + 1 = x.2 + 1 + b := by unfold sh; simp only; omega
        exact ⟨_, rfl, 1, x.2, x.2 + 1, [], [], by rw [this]; rfl, rfl, rfl, fun j h => by simp at h⟩
      · rw [if_neg h1, if_neg (show ¬ (sh b x).1 = 120 from h1)]
        by_cases h2 : x.1 = 123
        · rw [if_pos h2, if_pos (show (sh b x).1 = 123 from h2)]
          exact loop_sh (ent_sh ih) _ [] [] r0 (allMv_nil _ _)
        · rw [if_neg h2, if_neg (show ¬ (sh b x).1 = 123 from h2)]
          by_cases h3 : x.1 = 91
          · rw [if_pos h3, if_pos (show (sh b x).1 = 91 from h3)]
            exact loop_sh (shq_up ih) _ [] [] r0 (allMv_nil _ _)
          · rw [if_neg h3, if_neg (show ¬ (sh b x).1 = 91 from h3)]
            refine ⟨fun e r h => ?_, fun t' r h => by cases h⟩
            injection h with h
            injection h with h4 h5
            subst h4 h5
            rfl
end Go.Proofs.Ytoikdjbgeebadaa.trees
/- What belongs together: of which signs a node and its kids are: plain mathematics. -/
set_option linter.unusedVariables false
namespace Go.Proofs.Ytoikdjbgeebadaa.trees

/-- What stands between the marks: each kid by signs of its own, a comma between two, the mark at the end. -/
def KSeg (q : List Sym → R) (ec : UInt8) : List T → List Sym → Nat → Prop
  | [], ts, e => ∃ y : Sym, y.1 = ec ∧ ts = [y] ∧ e = y.2 + 1
  | t :: l, ts, e => ∃ (seg : List Sym) (y : Sym) (rest : List Sym), seg ≠ [] ∧ q seg = .inr (t, []) ∧ ts = seg ++ y :: rest ∧ ((y.1 = 44 ∧ KSeg q ec l rest e) ∨ (y.1 = ec ∧ l = [] ∧ rest = [] ∧ e = y.2 + 1))
theorem kids_seg {q : List Sym → R} {ec : UInt8} (hq : Loc q) : ∀ (l : List T) (ts : List Sym) (e : Nat), Kids q ec l ts e [] → KSeg q ec l ts e
  | [], ts, e, h => by
    obtain ⟨x, hx, e1, e2⟩ := h
    exact ⟨x, hx, e1, e2⟩
  | t :: l, ts, e, h => by
    obtain ⟨x, r0, y, r1, rfl, hx, hqt, h⟩ := h
    obtain ⟨p, hp, e1, h2⟩ := hq.good _ _ _ hqt
    have h3 := h2 []
    rw [List.append_nil] at h3
    refine ⟨p, y, r1, hp, h3, e1, ?_⟩
    rcases h with ⟨hy, hk⟩ | ⟨_, hy2, rfl, rfl, rfl⟩
    · exact .inl ⟨hy, kids_seg hq l _ _ hk⟩
    · exact .inr ⟨hy2, rfl, rfl, rfl⟩
/-- A value: a leaf, a table or a list. -/
theorem pv_form {lv : Nat} {seg : List Sym} {t : T} (h : pv lv seg = .inr (t, [])) : ∃ lv', lv = lv' + 1 ∧
    ((∃ x : Sym, seg = [x] ∧ x.1 = 120 ∧ t = nd 1 x.2 (x.2 + 1) []) ∨
     (∃ (x : Sym) (ts : List Sym) (l : List T) (e : Nat), seg = x :: ts ∧ x.1 = 123 ∧ t = nd 3 x.2 e l ∧ KSeg (entP (pv lv')) 125 l ts e) ∨
     (∃ (x : Sym) (ts : List Sym) (l : List T) (e : Nat), seg = x :: ts ∧ x.1 = 91 ∧ t = nd 5 x.2 e l ∧ KSeg (pv lv') 93 l ts e)) := by
  cases lv with
  | zero =>
    cases seg with
    | nil => cases h
    | cons x r => unfold pv at h; split at h <;> cases h
  | succ lv =>
    refine ⟨lv, rfl, ?_⟩
    cases seg with
    | nil => cases h
    | cons x r =>
      rw [pv] at h
      split at h
      · rename_i hx
        injection h with h
        injection h with h1 h2
        subst h1 h2
        exact .inl ⟨x, rfl, hx, rfl⟩
      · split at h
        · rename_i hx
          obtain ⟨l, e, rfl, hk⟩ := loop_kids _ _ _ _ _ _ _ _ _ h
          exact .inr (.inl ⟨x, r, l, e, rfl, hx, rfl, kids_seg (ent_loc (pv_loc lv)) l r e hk⟩)
        · split at h
          · rename_i hx
            obtain ⟨l, e, rfl, hk⟩ := loop_kids _ _ _ _ _ _ _ _ _ h
            exact .inr (.inr ⟨x, r, l, e, rfl, hx, rfl, kids_seg (pv_loc lv) l r e hk⟩)
          · cases h
theorem ent_form {q : List Sym → R} {seg : List Sym} {t : T} (h : entP q seg = .inr (t, [])) : ∃ (x m : Sym) (sv : List Sym) (v : T), seg = x :: m :: sv ∧ x.1 = 120 ∧ (m.1 = 58 ∨ m.1 = 61) ∧ q sv = .inr (v, []) ∧ t = nd 4 x.2 (endT v) [nd 2 x.2 (x.2 + 1) [], v] := by
  match seg with
  | [] => cases h
  | [x] =>
    rw [ent_one] at h
    split at h <;> cases h
  | x :: m :: r1 =>
    rw [ent_two] at h
    split at h
    · rename_i hx
      split at h
      · rename_i hm
        split at h
        · cases h
        · rename_i v r2 hv
          injection h with h
          injection h with h1 h2
          subst h1 h2
          exact ⟨x, m, r1, v, rfl, hx, hm, hv, rfl⟩
      · cases h
    · cases h
theorem last_snoc (p : List Sym) (y : Sym) : (p ++ [y]).getLast? = some y := by simp
theorem last_cons {x y : Sym} {p : List Sym} (h : p.getLast? = some y) : (x :: p).getLast? = some y := by
  cases p with
  | nil => simp at h
  | cons a b => rw [List.getLast?_cons_cons]; exact h
theorem last_app {p s : List Sym} {y : Sym} (h : s.getLast? = some y) : (p ++ s).getLast? = some y := by
  rw [List.getLast?_append, h]
  rfl
theorem kseg_last {q : List Sym → R} {ec : UInt8} : ∀ (l : List T) (ts : List Sym) (e : Nat), KSeg q ec l ts e → ∃ y : Sym, ts.getLast? = some y ∧ y.1 = ec ∧ e = y.2 + 1
  | [], ts, e, h => by
    obtain ⟨y, hy, rfl, he⟩ := h
    exact ⟨y, rfl, hy, he⟩
  | t :: l, ts, e, h => by
    obtain ⟨seg, y, rest, _, _, rfl, h⟩ := h
    rcases h with ⟨_, hk⟩ | ⟨hy, rfl, rfl, he⟩
    · obtain ⟨z, h1, h2, h3⟩ := kseg_last l rest e hk
      exact ⟨z, last_app (last_cons h1), h2, h3⟩
    · exact ⟨y, last_app rfl, hy, he⟩
/-- A value's first sign has the number of its first token, its last one that of its last. -/
theorem pv_ends {lv : Nat} {seg : List Sym} {t : T} (h : pv lv seg = .inr (t, [])) : ∃ (k e : Nat) (l : List T) (x y : Sym), t = nd k x.2 e l ∧ seg.head? = some x ∧ seg.getLast? = some y ∧ e = y.2 + 1 ∧ (k = 1 ∨ k = 3 ∨ k = 5) := by
  obtain ⟨lv', rfl, hf⟩ := pv_form h
  rcases hf with ⟨x, rfl, _, rfl⟩ | ⟨x, ts, l, e, rfl, _, rfl, hk⟩ | ⟨x, ts, l, e, rfl, _, rfl, hk⟩
  · exact ⟨1, _, [], x, x, rfl, rfl, rfl, rfl, .inl rfl⟩
  · obtain ⟨y, h1, _, h3⟩ := kseg_last l ts e hk
    exact ⟨3, e, l, x, y, rfl, rfl, last_cons h1, h3, .inr (.inl rfl)⟩
  · obtain ⟨y, h1, _, h3⟩ := kseg_last l ts e hk
    exact ⟨5, e, l, x, y, rfl, rfl, last_cons h1, h3, .inr (.inr rfl)⟩
theorem ent_ends {lv : Nat} {seg : List Sym} {t : T} (h : entP (pv lv) seg = .inr (t, [])) : ∃ (e : Nat) (l : List T) (x y : Sym), t = nd 4 x.2 e l ∧ seg.head? = some x ∧ seg.getLast? = some y ∧ e = y.2 + 1 := by
  obtain ⟨x, m, sv, v, rfl, _, _, hv, rfl⟩ := ent_form h
  obtain ⟨k, e, l, x2, y, rfl, _, h2, h3, _⟩ := pv_ends hv
  exact ⟨e, _, x, y, by rw [endT_nd], rfl, last_cons (last_cons h2), h3⟩
/-- Each kid is of signs that stand one behind the other. -/
theorem kseg_mem {q : List Sym → R} {ec : UInt8} : ∀ (l : List T) (ts : List Sym) (e : Nat), KSeg q ec l ts e → ∀ (j : Nat) (h : j < l.length), ∃ pre seg post, ts = pre ++ (seg ++ post) ∧ seg ≠ [] ∧ q seg = .inr (l[j], [])
  | [], ts, e, h, j, hj => by simp at hj
  | t :: l, ts, e, h, 0, hj => by
    obtain ⟨seg, y, rest, hs, hq, rfl, _⟩ := h
    exact ⟨[], seg, y :: rest, rfl, hs, hq⟩
  | t :: l, ts, e, h, j + 1, hj => by
    obtain ⟨seg, y, rest, hs, hq, rfl, h⟩ := h
    rcases h with ⟨_, hk⟩ | ⟨_, rfl, _⟩
    · obtain ⟨pre, s2, post, e1, h2, h3⟩ := kseg_mem l rest e hk j (by simpa using hj)
      exact ⟨seg ++ y :: pre, s2, post, by rw [e1]; simp, h2, h3⟩
    · simp at hj
/-- A value that lies anywhere within: it is one alone, too. -/
def IsVal (t : T) (seg : List Sym) : Prop := ∃ lv, lv ≤ 20 ∧ pv lv seg = .inr (t, [])
def IsEnt (t : T) (seg : List Sym) : Prop := ∃ lv, lv ≤ 20 ∧ entP (pv lv) seg = .inr (t, [])
/-- Of these signs, one behind the other, others are a part. -/
def Part (seg ts : List Sym) : Prop := ∃ pre post, ts = pre ++ (seg ++ post)
theorem Part.trans {a b c : List Sym} (h : Part a b) (h' : Part b c) : Part a c := by
  obtain ⟨p, q, rfl⟩ := h
  obtain ⟨p', q', rfl⟩ := h'
  exact ⟨p' ++ p, q ++ q', by simp⟩
theorem part_cons {a b : List Sym} {x : Sym} (h : Part a b) : Part a (x :: b) := by
  obtain ⟨p, q, rfl⟩ := h
  exact ⟨x :: p, q, by simp⟩
theorem part_refl (a : List Sym) : Part a a := ⟨[], [], by simp⟩
theorem val_kids {k a e : Nat} {l : List T} {seg : List Sym} (h : IsVal (nd k a e l) seg) :
    (k = 1 ∧ l = []) ∨ (k = 3 ∧ ∀ (j : Nat) (h : j < l.length), ∃ s, Part s seg ∧ IsEnt l[j] s) ∨ (k = 5 ∧ ∀ (j : Nat) (h : j < l.length), ∃ s, Part s seg ∧ IsVal l[j] s) := by
  obtain ⟨lv, hlv, h⟩ := h
  obtain ⟨lv', rfl, hf⟩ := pv_form h
  rcases hf with ⟨x, rfl, _, h1⟩ | ⟨x, ts, l', e', rfl, _, h1, hk⟩ | ⟨x, ts, l', e', rfl, _, h1, hk⟩
  · obtain ⟨rfl, _, _, rfl⟩ := nd_inj h1
    exact .inl ⟨rfl, rfl⟩
  · obtain ⟨rfl, rfl, rfl, rfl⟩ := nd_inj h1
    refine .inr (.inl ⟨rfl, fun j hj => ?_⟩)
    obtain ⟨pre, s, post, e1, _, h3⟩ := kseg_mem l ts e hk j hj
    exact ⟨s, part_cons ⟨pre, post, e1⟩, lv', by omega, h3⟩
  · obtain ⟨rfl, rfl, rfl, rfl⟩ := nd_inj h1
    refine .inr (.inr ⟨rfl, fun j hj => ?_⟩)
    obtain ⟨pre, s, post, e1, _, h3⟩ := kseg_mem l ts e hk j hj
    exact ⟨s, part_cons ⟨pre, post, e1⟩, lv', by omega, h3⟩
theorem ent_kids {t : T} {seg : List Sym} (h : IsEnt t seg) : ∃ a e v s, t = nd 4 a e [nd 2 a (a + 1) [], v] ∧ Part s seg ∧ IsVal v s := by
  obtain ⟨lv, hlv, h⟩ := h
  obtain ⟨x, m, sv, v, rfl, _, _, hv, rfl⟩ := ent_form h
  exact ⟨x.2, endT v, v, sv, rfl, part_cons (part_cons (part_refl _)), lv, hlv, hv⟩
theorem val_alone {t : T} {seg : List Sym} (h : IsVal t seg) : pv 20 seg = .inr (t, []) := by
  obtain ⟨lv, hlv, h⟩ := h
  exact pv_le hlv _ _ h
/-- A document: a value, and nothing behind it. -/
def pd (ts : List Sym) : R :=
  match pv 20 ts with
  | .inl e => .inl e
  | .inr (t, []) => .inr (t, [])
  | .inr (_, y :: r) => .inl (4, y :: r)
theorem pd_val {ts : List Sym} {t : T} {r : List Sym} (h : pd ts = .inr (t, r)) : r = [] ∧ IsVal t ts := by
  unfold pd at h
  split at h
  · cases h
  · rename_i t1 hq
    injection h with h
    injection h with h1 h2
    subst h1 h2
    exact ⟨rfl, 20, Nat.le_refl _, hq⟩
  · cases h
/-- Where it is wrong, what is ahead of that place is a document, or the beginning of one. -/
theorem pd_bad {ts : List Sym} {e : Nat} {r : List Sym} (h : pd ts = .inl (e, r)) : ∃ p, ts = p ++ r ∧ (e = 4 → pd p = .inl (4, []) ∨ ∃ t, pd p = .inr (t, [])) ∧ (e = 4 ∨ (e = 5 ∧ r ≠ [])) := by
  unfold pd at h
  split at h
  · rename_i e1 hq
    injection h with h
    subst h
    obtain ⟨p, e2, h3, h4⟩ := (pv_loc 20).bad _ _ _ hq
    refine ⟨p, e2, fun he => .inl ?_, h4⟩
    unfold pd
    rw [h3 he]
  · cases h
  · rename_i t1 y r1 hq
    injection h with h
    injection h with h1 h2
    subst h1 h2
    obtain ⟨p, _, e2, h3⟩ := (pv_loc 20).good _ _ _ hq
    refine ⟨p, e2, fun _ => .inr ⟨t1, ?_⟩, .inl rfl⟩
    have h4 := h3 []
    rw [List.append_nil] at h4
    unfold pd
    rw [h4]
end Go.Proofs.Ytoikdjbgeebadaa.trees
/- The solid tokens of a text, and the signs of a part of it: plain mathematics. -/
set_option linter.unusedVariables false
namespace Go.Proofs.Ytoikdjbgeebadaa.trees
open toks

def symOf (L : List UInt8) (t : Tk) : UInt8 := if t.kind = 6 then L.getD t.fro 0 else if t.kind = 7 then 63 else 120
def solF (L : List UInt8) : Nat → List Tk → List Sym
  | _, [] => []
  | i, t :: r => if 3 < t.kind then (symOf L t, i) :: solF L (i + 1) r else solF L (i + 1) r
/-- The solid tokens of a text, as signs. -/
def sols (L : List UInt8) : List Sym := solF L 0 (toksL L)
theorem sol_yes {L : List UInt8} {i : Nat} {t : Tk} {r : List Tk} (h : 3 < t.kind) : solF L i (t :: r) = (symOf L t, i) :: solF L (i + 1) r := by rw [solF, if_pos h]
theorem sol_no {L : List UInt8} {i : Nat} {t : Tk} {r : List Tk} (h : ¬ 3 < t.kind) : solF L i (t :: r) = solF L (i + 1) r := by rw [solF, if_neg h]
theorem sol_app (L : List UInt8) : ∀ (a b : List Tk) (i : Nat), solF L i (a ++ b) = solF L i a ++ solF L (i + a.length) b
  | [], b, i => rfl
  | t :: a, b, i => by
    have ih := sol_app L a b (i + 1)
    have e : i + (t :: a).length = i + 1 + a.length := by simp only [List.length_cons]; omega
    rw [e, List.cons_append]
    by_cases h : 3 < t.kind
    · rw [sol_yes h, sol_yes h, ih]; rfl
    · rw [sol_no h, sol_no h, ih]
theorem sol_in (L : List UInt8) : ∀ (l : List Tk) (i : Nat) (x : Sym), x ∈ solF L i l → i ≤ x.2 ∧ ∃ h : x.2 - i < l.length, 3 < l[x.2 - i].kind ∧ x.1 = symOf L l[x.2 - i]
  | [], i, x, h => by cases h
  | t :: l, i, x, h => by
    have go : x ∈ solF L (i + 1) l → i ≤ x.2 ∧ ∃ h : x.2 - i < (t :: l).length, 3 < (t :: l)[x.2 - i].kind ∧ x.1 = symOf L (t :: l)[x.2 - i] := fun hm => by
      obtain ⟨h1, h2, h3, h4⟩ := sol_in L l (i + 1) x hm
      refine ⟨by omega, by simp only [List.length_cons]; omega, ?_⟩
      have e : (t :: l)[x.2 - i]'(by simp only [List.length_cons]; omega) = l[x.2 - (i + 1)] := by
        have : x.2 - i = (x.2 - (i + 1)) + 1 := by omega
        simp only [this, List.getElem_cons_succ]
      rw [e]
      exact ⟨h3, h4⟩
    by_cases hk : 3 < t.kind
    · rw [sol_yes hk] at h
      rcases List.mem_cons.1 h with rfl | h
      · refine ⟨Nat.le_refl _, by simp, ?_⟩
        simp only [Nat.sub_self, List.getElem_cons_zero]
        exact ⟨hk, trivial⟩
      · exact go h
    · rw [sol_no hk] at h
      exact go h
theorem sol_up (L : List UInt8) : ∀ (l : List Tk) (i : Nat), (solF L i l).Pairwise (fun a b => a.2 < b.2)
  | [], i => List.Pairwise.nil
  | t :: l, i => by
    by_cases hk : 3 < t.kind
    · rw [sol_yes hk]
      refine List.Pairwise.cons (fun x hx => ?_) (sol_up L l (i + 1))
      have := (sol_in L l (i + 1) x hx).1
      show i < x.2
      omega
    · rw [sol_no hk]
      exact sol_up L l (i + 1)
/-- Two ways to part a list at one number are one. -/
theorem part_at {n : Nat} {a b c d : List Sym} (h : a ++ b = c ++ d) (ha : ∀ x ∈ a, x.2 < n) (hb : ∀ x ∈ b, n ≤ x.2) (hc : ∀ x ∈ c, x.2 < n) (hd : ∀ x ∈ d, n ≤ x.2) : a = c ∧ b = d := by
  induction a generalizing c with
  | nil =>
    cases c with
    | nil => exact ⟨rfl, h⟩
    | cons y c =>
      have h1 := hc y (by simp)
      have h2 := hb y (by rw [List.nil_append] at h; rw [h]; simp)
      omega
  | cons x a ih =>
    cases c with
    | nil =>
      have h1 := ha x (by simp)
      have h2 := hd x (by rw [List.nil_append] at h; rw [← h]; simp)
      omega
    | cons y c =>
      rw [List.cons_append, List.cons_append] at h
      injection h with h1 h2
      obtain ⟨e1, e2⟩ := ih h2 (fun z hz => ha z (by simp [hz])) (fun z hz => hc z (by simp [hz]))
      rw [h1, e1]
      exact ⟨rfl, e2⟩
theorem head_mem {seg : List Sym} {x : Sym} (h : seg.head? = some x) : x ∈ seg := by
  cases seg with
  | nil => cases h
  | cons a b => injection h with h; rw [h]; simp
theorem last_mem {seg : List Sym} {y : Sym} (h : seg.getLast? = some y) : y ∈ seg := List.mem_of_getLast? h
/-- Signs that stand one behind the other are the solid tokens from the first one's to the last one's. -/
theorem sol_part (L : List UInt8) (l : List Tk) (pre seg post : List Sym) (x y : Sym) (h : solF L 0 l = pre ++ (seg ++ post)) (hx : seg.head? = some x) (hy : seg.getLast? = some y) :
    x.2 ≤ y.2 ∧ y.2 < l.length ∧ pre = solF L 0 (l.take x.2) ∧ seg = solF L x.2 ((l.drop x.2).take (y.2 + 1 - x.2)) := by
  have up := sol_up L l 0
  rw [h, List.pairwise_append] at up
  obtain ⟨_, up2, up3⟩ := up
  rw [List.pairwise_append] at up2
  obtain ⟨up4, _, up5⟩ := up2
  have hxm := head_mem hx
  have hym := last_mem hy
  have hsx : ∀ z ∈ seg, x.2 ≤ z.2 := fun z hz => by
    cases seg with
    | nil => cases hz
    | cons a b =>
      injection hx with hx
      subst hx
      rcases List.mem_cons.1 hz with rfl | hz
      · exact Nat.le_refl _
      · exact Nat.le_of_lt (List.rel_of_pairwise_cons up4 hz)
  have hsy : ∀ z ∈ seg, z.2 ≤ y.2 := fun z hz => by
    obtain ⟨ys, rfl⟩ := List.getLast?_eq_some_iff.1 hy
    rcases List.mem_append.1 hz with hz | hz
    · rw [List.pairwise_append] at up4
      exact Nat.le_of_lt (up4.2.2 z hz y (by simp))
    · rw [List.mem_singleton.1 hz]
      exact Nat.le_refl _
  have hyl : y.2 < l.length := by
    obtain ⟨_, h1, _⟩ := sol_in L l 0 y (by rw [h]; simp [hym])
    omega
  have hxy := hsy x hxm
  have e1 : solF L 0 l = solF L 0 (l.take x.2) ++ solF L x.2 (l.drop x.2) := by
    have := sol_app L (l.take x.2) (l.drop x.2) 0
    rw [List.take_append_drop] at this
    rw [this, List.length_take, show 0 + min x.2 l.length = x.2 by omega]
  rw [e1] at h
  obtain ⟨p1, p2⟩ := part_at (n := x.2) h (fun z hz => by
      obtain ⟨_, h1, _⟩ := sol_in L _ 0 z hz
      rw [List.length_take] at h1
      omega) (fun z hz => (sol_in L _ x.2 z hz).1) (fun z hz => up3 z hz x (by simp [hxm])) (fun z hz => by
      rcases List.mem_append.1 hz with hz | hz
      · exact hsx z hz
      · exact Nat.le_of_lt (up5 x hxm z hz))
  have e2 : solF L x.2 (l.drop x.2) = solF L x.2 ((l.drop x.2).take (y.2 + 1 - x.2)) ++ solF L (y.2 + 1) ((l.drop x.2).drop (y.2 + 1 - x.2)) := by
    have := sol_app L ((l.drop x.2).take (y.2 + 1 - x.2)) ((l.drop x.2).drop (y.2 + 1 - x.2)) x.2
    rw [List.take_append_drop] at this
    rw [this, List.length_take, List.length_drop, show x.2 + min (y.2 + 1 - x.2) (l.length - x.2) = y.2 + 1 by omega]
  rw [e2] at p2
  obtain ⟨q1, _⟩ := part_at (n := y.2 + 1) p2 (fun z hz => by
      obtain ⟨h0, h1, _⟩ := sol_in L _ x.2 z hz
      rw [List.length_take] at h1
      omega) (fun z hz => (sol_in L _ (y.2 + 1) z hz).1) (fun z hz => by have := hsy z hz; omega) (fun z hz => up5 y hym z hz)
  exact ⟨hxy, hyl, p1.symm, q1.symm⟩
/-- The text of tokens a to b: its own tokens. -/
theorem toks_part (L : List UInt8) (a b : Nat) (ta tb : Tk) (hab : a ≤ b) (ha : (toksL L)[a]? = some ta) (hb : (toksL L)[b]? = some tb) :
    ta.fro < tb.til ∧ tb.til ≤ L.length ∧ (toksL ((L.drop ta.fro).take (tb.til - ta.fro))).map (shiftT ta.fro) = ((toksL L).drop a).take (b + 1 - a) := by
  obtain ⟨_, a2, a3, _, _, _, _, _, a7⟩ := cut_at a 0 L ta ha
  rw [Nat.sub_zero] at a7
  have hb' : (cutP ta.fro (L.drop ta.fro))[b - a]? = some tb := by
    rw [a7, List.getElem?_drop, show a + (b - a) = b by omega]
    exact hb
  obtain ⟨b1, b2, b3, _⟩ := cut_at (b - a) ta.fro (L.drop ta.fro) tb hb'
  rw [List.length_drop] at b3
  refine ⟨by omega, by omega, ?_⟩
  have es := cutP_shift ta.fro 0 ((L.drop ta.fro).take (tb.til - ta.fro))
  rw [Nat.zero_add] at es
  rw [toksL_eq, ← es, toksL_eq, ← a7]
  cases hn : (cutP ta.fro (L.drop ta.fro))[b - a + 1]? with
  | none =>
    have hl := cut_last (b - a) ta.fro (L.drop ta.fro) tb hb' hn
    rw [List.take_of_length_le (by rw [hl]; omega), List.take_of_length_le ?_]
    have := List.getElem?_eq_none_iff.1 hn
    omega
  | some u =>
    obtain ⟨e1, _⟩ := cut_next (b - a) ta.fro (L.drop ta.fro) tb u hb' hn
    obtain ⟨_, _, _, _, _, _, _, h6, _⟩ := cut_at (b - a + 1) ta.fro (L.drop ta.fro) u hn
    rw [← e1, h6, show b - a + 1 = b + 1 - a by omega]
theorem sol_shift (L src : List UInt8) (f : Nat) : ∀ (l : List Tk) (i b : Nat), (∀ t ∈ l, symOf L (shiftT f t) = symOf src t) → solF L (i + b) (l.map (shiftT f)) = (solF src i l).map (sh b)
  | [], i, b, _ => rfl
  | t :: l, i, b, h => by
    have ih := sol_shift L src f l (i + 1) b (fun t ht => h t (by simp [ht]))
    have e : i + b + 1 = i + 1 + b := by omega
    rw [List.map_cons]
    by_cases hk : 3 < t.kind
    · rw [sol_yes (show 3 < (shiftT f t).kind from hk), sol_yes hk, e, ih, List.map_cons, h t (by simp)]
      rfl
    · rw [sol_no (show ¬ 3 < (shiftT f t).kind from hk), sol_no hk, e, ih]
/-- A value's text, alone: its signs are the same, with other numbers. -/
theorem sols_alone (L : List UInt8) (pre seg post : List Sym) (x y : Sym) (h : sols L = pre ++ (seg ++ post)) (hx : seg.head? = some x) (hy : seg.getLast? = some y) :
    ∃ ta tb, (toksL L)[x.2]? = some ta ∧ (toksL L)[y.2]? = some tb ∧ x.2 ≤ y.2 ∧ ta.fro < tb.til ∧ tb.til ≤ L.length ∧ seg = (sols ((L.drop ta.fro).take (tb.til - ta.fro))).map (sh x.2) := by
  obtain ⟨h1, h2, _, h4⟩ := sol_part L (toksL L) pre seg post x y h hx hy
  have hx2 : x.2 < (toksL L).length := by omega
  obtain ⟨p1, p2, p3⟩ := toks_part L x.2 y.2 (toksL L)[x.2] (toksL L)[y.2] h1 (List.getElem?_eq_getElem hx2) (List.getElem?_eq_getElem h2)
  refine ⟨_, _, List.getElem?_eq_getElem hx2, List.getElem?_eq_getElem h2, h1, p1, p2, ?_⟩
  generalize (toksL L)[x.2].fro = f at *
  generalize (toksL L)[y.2].til = g at *
  rw [← p3] at h4
  have hs := sol_shift L ((L.drop f).take (g - f)) f (toksL ((L.drop f).take (g - f))) 0 x.2 (fun t ht => by
    obtain ⟨k, hk, e⟩ := List.getElem_of_mem ht
    have hg : (cutP 0 ((L.drop f).take (g - f)))[k]? = some t := by rw [← e]; exact List.getElem?_eq_getElem hk
    obtain ⟨_, b2, b3, _⟩ := cut_at k 0 _ t hg
    rw [List.length_take, List.length_drop] at b3
    unfold symOf shiftT
    simp only
    have : L.getD (t.fro + f) 0 = ((L.drop f).take (g - f)).getD t.fro 0 := by
      rw [List.getD, List.getD, List.getElem?_take_of_lt (by omega), List.getElem?_drop, Nat.add_comm]
    rw [this])
  rw [Nat.zero_add] at hs
  rw [h4, hs]
  rfl
/-- The tree of a value that lies within a document, read alone. -/
theorem alone_tree (L : List UInt8) (t : T) (seg : List Sym) (hp : Part seg (sols L)) (hv : IsVal t seg) :
    ∃ (k e : Nat) (l : List T) (x y : Sym) (ta tb : Tk) (t' : T), t = nd k x.2 e l ∧ e = y.2 + 1 ∧ (toksL L)[x.2]? = some ta ∧ (toksL L)[y.2]? = some tb ∧ x.2 ≤ y.2 ∧ ta.fro < tb.til ∧ tb.til ≤ L.length ∧
      pd (sols ((L.drop ta.fro).take (tb.til - ta.fro))) = .inr (t', []) ∧ MvT x.2 41 t t' := by
  obtain ⟨pre, post, hp⟩ := hp
  have h20 := val_alone hv
  obtain ⟨k, e, l, x, y, rfl, hx, hy, he, _⟩ := pv_ends h20
  obtain ⟨ta, tb, h1, h2, h3, h4, h5, h6⟩ := sols_alone L pre seg post x y hp hx hy
  have hs := pv_sh x.2 20 (sols ((L.drop ta.fro).take (tb.til - ta.fro)))
  rw [← h6] at hs
  cases hq : pv 20 (sols ((L.drop ta.fro).take (tb.til - ta.fro))) with
  | inl er =>
    obtain ⟨er, r⟩ := er
    have := hs.1 er r hq
    rw [h20] at this
    cases this
  | inr tr =>
    obtain ⟨t', r⟩ := tr
    obtain ⟨t2, q1, q2⟩ := hs.2 t' r hq
    rw [h20] at q1
    injection q1 with q1
    injection q1 with q3 q4
    have hr : r = [] := by
      cases r with
      | nil => rfl
      | cons a b => cases q4
    subst hr
    refine ⟨k, e, l, x, y, ta, tb, t', rfl, he, h1, h2, h3, h4, h5, ?_, ?_⟩
    · unfold pd
      rw [hq]
    · rw [q3]; exact q2
end Go.Proofs.Ytoikdjbgeebadaa.trees
/- What is ahead of a wrong token; what stands between a node's kids: plain mathematics. -/
set_option linter.unusedVariables false
namespace Go.Proofs.Ytoikdjbgeebadaa.trees
open toks

theorem sol_same (L src : List UInt8) : ∀ (l : List Tk) (i : Nat), (∀ t ∈ l, symOf L t = symOf src t) → solF L i l = solF src i l
  | [], i, _ => rfl
  | t :: l, i, h => by
    have ih := sol_same L src l (i + 1) (fun t ht => h t (by simp [ht]))
    by_cases hk : 3 < t.kind
    · rw [sol_yes hk, sol_yes hk, ih, h t (by simp)]
    · rw [sol_no hk, sol_no hk, ih]
/-- The text ahead of a token: its signs are those ahead of it. -/
theorem sols_ahead (L : List UInt8) (p rest : List Sym) (x : Sym) (h : sols L = p ++ x :: rest) : ∃ t, (toksL L)[x.2]? = some t ∧ t.fro < L.length ∧ sols (L.take t.fro) = p := by
  obtain ⟨_, h2, h3, _⟩ := sol_part L (toksL L) p [x] rest x x h rfl rfl
  have hg : (cutP 0 L)[x.2]? = some (toksL L)[x.2] := List.getElem?_eq_getElem h2
  obtain ⟨_, b2, b3, _, _, _, _, h6, _⟩ := cut_at x.2 0 L _ hg
  rw [Nat.sub_zero] at h6
  refine ⟨_, List.getElem?_eq_getElem h2, by omega, ?_⟩
  generalize (toksL L)[x.2].fro = f at *
  have e : toksL (L.take f) = (toksL L).take x.2 := h6
  unfold sols
  rw [← sol_same L (L.take f) (toksL (L.take f)) 0 (fun t ht => by
    obtain ⟨k, hk, e2⟩ := List.getElem_of_mem ht
    have hg2 : (cutP 0 (L.take f))[k]? = some t := by rw [← e2]; exact List.getElem?_eq_getElem hk
    obtain ⟨_, c2, c3, _⟩ := cut_at k 0 _ t hg2
    rw [List.length_take] at c3
    unfold symOf
    have : L.getD t.fro 0 = (L.take f).getD t.fro 0 := by
      rw [List.getD, List.getD, List.getElem?_take_of_lt (by omega)]
    rw [this]), e]
  exact h3.symm
/-- A solid token is among the signs. -/
theorem sol_mem (L : List UInt8) : ∀ (l : List Tk) (i j : Nat) (h : j < l.length), 3 < l[j].kind → (symOf L l[j], i + j) ∈ solF L i l
  | [], i, j, h, _ => by simp at h
  | t :: l, i, 0, h, hk => by
    rw [List.getElem_cons_zero] at hk ⊢
    rw [sol_yes hk]
    simp
  | t :: l, i, j + 1, h, hk => by
    rw [List.getElem_cons_succ] at hk ⊢
    have ih := sol_mem L l (i + 1) j (by simpa using h) hk
    rw [show i + (j + 1) = i + 1 + j by omega]
    by_cases h3 : 3 < t.kind
    · rw [sol_yes h3]; exact List.mem_cons_of_mem _ ih
    · rw [sol_no h3]; exact ih
/-- No word, no text and nothing bad from token a to token b - 1. -/
def Clear (l : List Tk) (a b : Nat) : Prop := ∀ (j : Nat) (h : j < l.length), a ≤ j → j < b → l[j].kind ≠ 4 ∧ l[j].kind ≠ 5 ∧ l[j].kind ≠ 7
theorem clear_of {L : List UInt8} {a b : Nat} (h : ∀ z ∈ sols L, a ≤ z.2 → z.2 < b → z.1 ≠ 120 ∧ z.1 ≠ 63) : Clear (toksL L) a b := by
  intro j hj ha hb
  by_cases hk : 3 < (toksL L)[j].kind
  · have hm := sol_mem L (toksL L) 0 j hj hk
    rw [Nat.zero_add] at hm
    have hz := h _ hm ha hb
    simp only [symOf] at hz
    refine ⟨fun e => ?_, fun e => ?_, fun e => ?_⟩
    · rw [e] at hz; exact hz.1 rfl
    · rw [e] at hz; exact hz.1 rfl
    · rw [e] at hz; exact hz.2 rfl
  · omega
/-- Kids in order, from token a on, none behind token e; and what is between them. -/
def CovL (l : List Tk) (e : Nat) : Nat → List T → Prop
  | a, [] => a ≤ e ∧ Clear l a e
  | a, t :: r => ∃ k a' e' kids, t = nd k a' e' kids ∧ a ≤ a' ∧ a' ≤ e' ∧ e' ≤ e ∧ Clear l a a' ∧ CovL l e e' r
/-- A node, and all within it. -/
def CovT (l : List Tk) : Nat → T → Prop
  | 0, _ => False
  | n + 1, t => ∃ k a e kids, t = nd k a e kids ∧ a ≤ e ∧ e ≤ l.length ∧ (kids ≠ [] → CovL l e a kids) ∧ ∀ (j : Nat) (h : j < kids.length), CovT l n kids[j]
theorem cov_up (l : List Tk) : ∀ (n : Nat) (t : T), CovT l n t → CovT l (n + 1) t
  | 0, _, h => h.elim
  | n + 1, t, h => by
    obtain ⟨k, a, e, kids, rfl, h1, h2, h3, h4⟩ := h
    exact ⟨k, a, e, kids, rfl, h1, h2, h3, fun j hj => cov_up l n _ (h4 j hj)⟩
/-- Where a kid begins and ends, by its signs. -/
def Ends (q : List Sym → R) : Prop := ∀ seg t, q seg = .inr (t, []) → ∃ (k e : Nat) (l : List T) (x y : Sym), t = nd k x.2 e l ∧ seg.head? = some x ∧ seg.getLast? = some y ∧ e = y.2 + 1
theorem pv_ends' (lv : Nat) : Ends (pv lv) := fun seg t h => by
  obtain ⟨k, e, l, x, y, h1, h2, h3, h4, _⟩ := pv_ends h
  exact ⟨k, e, l, x, y, h1, h2, h3, h4⟩
theorem ent_ends' (lv : Nat) : Ends (entP (pv lv)) := fun seg t h => by
  obtain ⟨e, l, x, y, h1, h2, h3, h4⟩ := ent_ends h
  exact ⟨4, e, l, x, y, h1, h2, h3, h4⟩
theorem up_app {L : List UInt8} {a b : List Sym} (h : sols L = a ++ b) : ∀ x ∈ a, ∀ y ∈ b, x.2 < y.2 := by
  have up := sol_up L (toksL L) 0
  unfold sols at h
  rw [h, List.pairwise_append] at up
  exact up.2.2
/-- What stands between the marks, kid by kid. -/
theorem kseg_cov {L : List UInt8} {q : List Sym → R} {ec : UInt8} (hq : Ends q) (hec : ec ≠ 120 ∧ ec ≠ 63) : ∀ (l : List T) (ts P Q : List Sym) (e a : Nat), KSeg q ec l ts e → sols L = P ++ (ts ++ Q) → (∀ z ∈ P, a ≤ z.2 → z.1 ≠ 120 ∧ z.1 ≠ 63) → (∀ z ∈ ts, a ≤ z.2) → CovL (toksL L) e a l
  | [], ts, P, Q, e, a, h, hs, hP, ht => by
    obtain ⟨y, hy, rfl, rfl⟩ := h
    have hay := ht y (by simp)
    refine ⟨by omega, clear_of fun z hz h1 h2 => ?_⟩
    rw [hs] at hz
    rcases List.mem_append.1 hz with hz | hz
    · exact hP z hz h1
    · rcases List.mem_append.1 hz with hz | hz
      · rw [List.mem_singleton.1 hz, hy]; exact hec
      · have := up_app (a := P ++ [y]) (b := Q) (by rw [hs]; simp) y (by simp) z hz
        omega
  | t :: l, ts, P, Q, e, a, h, hs, hP, ht => by
    obtain ⟨seg, y, rest, hseg, hqs, rfl, h⟩ := h
    obtain ⟨k, e', kids, x, w, rfl, hx, hw, rfl⟩ := hq seg t hqs
    have hxm := head_mem hx
    have hwm := last_mem hw
    have hs1 : sols L = P ++ (seg ++ (y :: rest ++ Q)) := by rw [hs]; simp
    obtain ⟨hxw, _, _, _⟩ := sol_part L (toksL L) P seg (y :: rest ++ Q) x w hs1 hx hw
    have hax := ht x (by simp [hxm])
    have hsx : ∀ z ∈ seg ++ (y :: rest ++ Q), x.2 ≤ z.2 := fun z hz => by
      obtain ⟨b, hb⟩ : ∃ b, seg = x :: b := by
        cases seg with
        | nil => cases hx
        | cons c b => injection hx with hx; exact ⟨b, by rw [hx]⟩
      rw [hb] at hz hs1
      rcases List.mem_append.1 hz with hz | hz
      · rcases List.mem_cons.1 hz with rfl | hz
        · exact Nat.le_refl _
        · exact Nat.le_of_lt (up_app (a := P ++ [x]) (b := b ++ (y :: rest ++ Q)) (by rw [hs1]; simp) x (by simp) z (by simp [hz]))
      · exact Nat.le_of_lt (up_app (a := P ++ [x]) (b := b ++ (y :: rest ++ Q)) (by rw [hs1]; simp) x (by simp) z (List.mem_append.2 (.inr hz)))
    have hsw : ∀ z ∈ P ++ seg, z.2 ≤ w.2 := fun z hz => by
      obtain ⟨b, hb⟩ := List.getLast?_eq_some_iff.1 hw
      rw [hb] at hz hs1
      rcases List.mem_append.1 hz with hz | hz
      · exact Nat.le_of_lt (up_app (a := P) (b := b ++ [w] ++ (y :: rest ++ Q)) (by rw [hs1]) z hz w (by simp))
      · rcases List.mem_append.1 hz with hz | hz
        · exact Nat.le_of_lt (up_app (a := P ++ b) (b := [w] ++ (y :: rest ++ Q)) (by rw [hs1]; simp) z (by simp [hz]) w (by simp))
        · rw [List.mem_singleton.1 hz]; exact Nat.le_refl _
    have hwr : ∀ z ∈ y :: rest ++ Q, w.2 < z.2 := fun z hz => up_app (a := P ++ seg) (b := y :: rest ++ Q) (by rw [hs1]; simp) w (by simp [hwm]) z hz
    have hclear : Clear (toksL L) a x.2 := clear_of fun z hz h1 h2 => by
      rw [hs1] at hz
      rcases List.mem_append.1 hz with hz | hz
      · exact hP z hz h1
      · have := hsx z hz
        omega
    have hyw := hwr y (by simp)
    rcases h with ⟨hy, hk⟩ | ⟨hy, rfl, rfl, rfl⟩
    · have ih := kseg_cov hq hec l rest (P ++ seg ++ [y]) Q e (w.2 + 1) hk (by rw [hs1]; simp) (fun z hz h1 => by
        rcases List.mem_append.1 hz with hz | hz
        · have := hsw z hz
          omega
        · rw [List.mem_singleton.1 hz, hy]; decide) (fun z hz => hwr z (by simp [hz]))
      obtain ⟨y2, hl1, _, he⟩ := kseg_last l rest e hk
      have hwy := hwr y2 (by simp [last_mem hl1])
      exact ⟨k, x.2, w.2 + 1, kids, rfl, hax, by omega, by omega, hclear, ih⟩
    · refine ⟨k, x.2, w.2 + 1, kids, rfl, hax, by omega, by omega, hclear, by omega, clear_of fun z hz h1 h2 => ?_⟩
      rw [hs1] at hz
      rw [← List.append_assoc] at hz
      rcases List.mem_append.1 hz with hz | hz
      · have := hsw z hz
        omega
      · rcases List.mem_append.1 hz with hz | hz
        · rw [List.mem_singleton.1 hz, hy]; exact hec
        · have := up_app (a := P ++ seg ++ [y]) (b := Q) (by rw [hs1]; simp) y (by simp) z hz
          omega
/-- A value that lies within the text covers what is its own. -/
def CovQ (L : List UInt8) (n : Nat) (q : List Sym → R) : Prop := ∀ seg t, Part seg (sols L) → q seg = .inr (t, []) → CovT (toksL L) n t
theorem covq_up {L : List UInt8} {n : Nat} {q : List Sym → R} (h : CovQ L n q) : CovQ L (n + 1) q := fun seg t hp hq => cov_up _ n t (h seg t hp hq)
theorem sym_lt {L : List UInt8} {z : Sym} (h : z ∈ sols L) : z.2 < (toksL L).length := by
  obtain ⟨_, h1, _⟩ := sol_in L (toksL L) 0 z h
  omega
theorem loop_cov {L : List UInt8} {n : Nat} {q : List Sym → R} {ec : UInt8} (hq : Ends q) (hc : CovQ L n q) (hec : ec ≠ 120 ∧ ec ≠ 63) {x : Sym} {ts : List Sym} {k e : Nat} {l : List T} (hx : x.1 ≠ 120 ∧ x.1 ≠ 63) (hp : Part (x :: ts) (sols L)) (hk : KSeg q ec l ts e) : CovT (toksL L) (n + 1) (nd k x.2 e l) := by
  obtain ⟨pre, post, hp⟩ := hp
  obtain ⟨y, hl1, _, he⟩ := kseg_last l ts e hk
  have hym := last_mem hl1
  have hyl := sym_lt (L := L) (z := y) (by rw [hp]; simp [hym])
  have hxt : ∀ z ∈ ts, x.2 < z.2 := fun z hz => up_app (a := pre ++ [x]) (b := ts ++ post) (by rw [hp]; simp) x (by simp) z (by simp [hz])
  have hpx : ∀ z ∈ pre, z.2 < x.2 := fun z hz => up_app (a := pre) (b := x :: ts ++ post) (by rw [hp]) z hz x (by simp)
  have hxy := hxt y hym
  refine ⟨k, x.2, e, l, rfl, by omega, by omega, fun _ => ?_, fun j hj => ?_⟩
  · refine kseg_cov hq hec l ts (pre ++ [x]) post e x.2 hk (by rw [hp]; simp) (fun z hz h1 => ?_) (fun z hz => Nat.le_of_lt (hxt z hz))
    rcases List.mem_append.1 hz with hz | hz
    · have := hpx z hz
      omega
    · rw [List.mem_singleton.1 hz]; exact hx
  · obtain ⟨p2, s, q2, e1, _, h3⟩ := kseg_mem l ts e hk j hj
    exact hc s _ ⟨pre ++ x :: p2, q2 ++ post, by rw [hp, e1]; simp⟩ h3
theorem ent_cov {L : List UInt8} {n lv : Nat} (hc : CovQ L (n + 1) (pv lv)) : CovQ L (n + 2) (entP (pv lv)) := by
  intro seg t hp h
  obtain ⟨x, m, sv, v, rfl, _, hm, hv, rfl⟩ := ent_form h
  obtain ⟨pre, post, hp⟩ := hp
  obtain ⟨k, e, l, x2, y, rfl, h1, h2, rfl, _⟩ := pv_ends hv
  have hxm := head_mem h1
  have hym := last_mem h2
  have hyl := sym_lt (L := L) (z := y) (by rw [hp]; simp [hym])
  obtain ⟨hxy, _⟩ := sol_part L (toksL L) (pre ++ [x, m]) sv post x2 y (by unfold sols at hp; rw [hp]; simp) h1 h2
  have hm1 : x.2 < m.2 := up_app (a := pre ++ [x]) (b := m :: sv ++ post) (by rw [hp]; simp) x (by simp) m (by simp)
  have hm2 : m.2 < x2.2 := up_app (a := pre ++ [x, m]) (b := sv ++ post) (by rw [hp]; simp) m (by simp) x2 (by simp [hxm])
  refine ⟨4, x.2, y.2 + 1, [nd 2 x.2 (x.2 + 1) [], nd k x2.2 (y.2 + 1) l], rfl, by omega, by omega, fun _ => ?_, fun j hj => ?_⟩
  · refine ⟨2, x.2, x.2 + 1, [], rfl, Nat.le_refl _, by omega, by omega, fun j _ h1 h2 => by omega, k, x2.2, y.2 + 1, l, rfl, by omega, by omega, Nat.le_refl _, clear_of fun z hz h3 h4 => ?_, Nat.le_refl _, fun j _ h1 h2 => by omega⟩
    rw [hp] at hz
    have hz' : z ∈ (pre ++ [x]) ++ (m :: (sv ++ post)) := by
      have e0 : pre ++ ((x :: m :: sv) ++ post) = (pre ++ [x]) ++ (m :: (sv ++ post)) := by simp
      rw [e0] at hz
      exact hz
    rcases List.mem_append.1 hz' with hz | hz
    · have : z.2 ≤ x.2 := by
        rcases List.mem_append.1 hz with hz | hz
        · exact Nat.le_of_lt (up_app (a := pre) (b := x :: m :: sv ++ post) (by rw [hp]) z hz x (by simp))
        · rw [List.mem_singleton.1 hz]; exact Nat.le_refl _
      omega
    · rcases List.mem_cons.1 hz with rfl | hz
      · rcases hm with hm | hm <;> rw [hm] <;> decide
      · have : x2.2 ≤ z.2 := by
          obtain ⟨b, hb⟩ : ∃ b, sv = x2 :: b := by
            cases sv with
            | nil => cases h1
            | cons c b => injection h1 with h1; exact ⟨b, by rw [h1]⟩
          rw [hb] at hz hp
          rcases List.mem_cons.1 hz with rfl | hz
          · exact Nat.le_refl _
          · exact Nat.le_of_lt (up_app (a := pre ++ [x, m, x2]) (b := b ++ post) (by rw [hp]; simp) x2 (by simp) z hz)
        omega
  · match j, hj with
    | 0, _ => exact ⟨2, x.2, x.2 + 1, [], rfl, by omega, by omega, fun h => absurd rfl h, fun j h => by simp at h⟩
    | 1, _ => exact hc sv _ ⟨pre ++ [x, m], post, by rw [hp]; simp⟩ hv
theorem pv_cov (L : List UInt8) : ∀ lv, CovQ L (2 * lv + 1) (pv lv)
  | 0 => fun seg t _ h => by
    obtain ⟨lv', h1, _⟩ := pv_form h
    omega
  | lv + 1 => fun seg t hp h => by
    have ih := pv_cov L lv
    obtain ⟨lv', h1, hf⟩ := pv_form h
    have : lv' = lv := by omega
    subst this
    rcases hf with ⟨x, rfl, _, rfl⟩ | ⟨x, ts, l, e, rfl, hx, rfl, hk⟩ | ⟨x, ts, l, e, rfl, hx, rfl, hk⟩
    · obtain ⟨pre, post, hp⟩ := hp
      have := sym_lt (L := L) (z := x) (by rw [hp]; simp)
      exact ⟨1, x.2, x.2 + 1, [], rfl, by omega, by omega, fun h => absurd rfl h, fun j h => by simp at h⟩
    · exact loop_cov (ent_ends' lv') (ent_cov ih) (by decide) (by rw [hx]; decide) hp hk
    · exact loop_cov (pv_ends' lv') (covq_up ih) (by decide) (by rw [hx]; decide) hp hk
/-- A document covers all of its text. -/
theorem doc_cov (L : List UInt8) (t : T) (h : pd (sols L) = .inr (t, [])) : CovT (toksL L) 42 (nd 6 0 (toksL L).length [t]) := by
  obtain ⟨_, hv⟩ := pd_val h
  have h20 := val_alone hv
  have hc := pv_cov L 20 (sols L) t (part_refl _) h20
  obtain ⟨k, e, l, x, y, rfl, h1, h2, rfl, _⟩ := pv_ends h20
  have hyl := sym_lt (L := L) (last_mem h2)
  obtain ⟨hxy, _⟩ := sol_part L (toksL L) [] (sols L) [] x y (by unfold sols; simp) h1 h2
  refine ⟨6, 0, _, _, rfl, Nat.zero_le _, Nat.le_refl _, fun _ => ⟨k, x.2, y.2 + 1, l, rfl, Nat.zero_le _, by omega, by omega, clear_of fun z hz _ h4 => ?_, by omega, clear_of fun z hz h3 _ => ?_⟩, fun j hj => ?_⟩
  · exfalso
    obtain ⟨b, hb⟩ : ∃ b, sols L = x :: b := by
      cases hs : sols L with
      | nil => rw [hs] at h1; cases h1
      | cons c b => rw [hs] at h1; injection h1 with h1; exact ⟨b, by rw [h1]⟩
    rw [hb] at hz
    rcases List.mem_cons.1 hz with rfl | hz
    · omega
    · have := up_app (L := L) (a := [x]) (b := b) (by rw [hb]; rfl) x (by simp) z hz
      omega
  · exfalso
    obtain ⟨b, hb⟩ := List.getLast?_eq_some_iff.1 h2
    rw [hb] at hz
    rcases List.mem_append.1 hz with hz | hz
    · have := up_app (L := L) (a := b) (b := [y]) hb z hz y (by simp)
      omega
    · rw [List.mem_singleton.1 hz] at h3
      omega
  · match j, hj with
    | 0, _ => exact hc
end Go.Proofs.Ytoikdjbgeebadaa.trees
/- Where a reader stands among the tokens; what is seen there: plain mathematics. -/
set_option linter.unusedVariables false
namespace Go.Proofs.Ytoikdjbgeebadaa.trees
open toks

/-- Ahead of the solid token of number i (or behind all of them) stand these signs. -/
structure At (L : List UInt8) (l : List Tk) (i : Nat) (ts : List Sym) : Prop where
  le : i ≤ l.length
  eq : ts = solF L i (l.drop i)
  sol : ∀ h : i < l.length, 3 < l[i].kind
theorem drop_tk {l : List Tk} {i : Nat} (h : i < l.length) : l.drop i = l[i] :: l.drop (i + 1) := List.drop_eq_getElem_cons h
theorem at_cons {L : List UInt8} {l : List Tk} {i : Nat} {x : Sym} {r : List Sym} (h : At L l i (x :: r)) :
    ∃ hi : i < l.length, x.2 = i ∧ x.1 = symOf L l[i] ∧ 3 < l[i].kind ∧ r = solF L (i + 1) (l.drop (i + 1)) := by
  have hi : i < l.length := by
    rcases Nat.lt_or_ge i l.length with h1 | h1
    · exact h1
    · have := h.eq
      rw [List.drop_of_length_le h1] at this
      cases this
  have hk := h.sol hi
  have e := h.eq
  rw [drop_tk hi, sol_yes hk] at e
  injection e with e1 e2
  exact ⟨hi, by rw [e1], by rw [e1], hk, e2⟩
theorem at_nil {L : List UInt8} {l : List Tk} {i : Nat} (h : At L l i []) : i = l.length := by
  rcases Nat.lt_or_ge i l.length with h1 | h1
  · have e := h.eq
    rw [drop_tk h1, sol_yes (h.sol h1)] at e
    cases e
  · have := h.le
    omega
theorem at_skip (L : List UInt8) (l : List Tk) : ∀ (d n : Nat), (∀ k (h : k < l.length), n ≤ k → k < n + d → ¬ 3 < l[k].kind) → n + d ≤ l.length → solF L n (l.drop n) = solF L (n + d) (l.drop (n + d))
  | 0, n, _, _ => rfl
  | d + 1, n, h, hl => by
    have hn : n < l.length := by omega
    rw [drop_tk hn, sol_no (h n hn (Nat.le_refl _) (by omega)), at_skip L l d (n + 1) (fun k hk h1 h2 => h k hk (by omega) (by omega)) (by omega), show n + 1 + d = n + (d + 1) by omega]
/-- From token n on the next solid one is number j. -/
structure Nxt (l : List Tk) (n j : Nat) : Prop where
  le : n ≤ j
  lt : j ≤ l.length
  no : ∀ k (h : k < l.length), n ≤ k → k < j → ¬ 3 < l[k].kind
  sol : ∀ h : j < l.length, 3 < l[j].kind
theorem Nxt.at {L : List UInt8} {l : List Tk} {n j : Nat} (h : Nxt l n j) : At L l j (solF L n (l.drop n)) := by
  have := h.le
  have := h.lt
  refine ⟨h.lt, ?_, h.sol⟩
  rw [at_skip L l (j - n) n (fun k hk h1 h2 => h.no k hk h1 (by omega)) (by omega), show n + (j - n) = j by omega]
/-- What is known of the tokens of a text. -/
structure Good (s : ByteArray) (l : List Tk) : Prop where
  kind : ∀ (j : Nat) (h : j < l.length), 1 ≤ l[j].kind ∧ l[j].kind ≤ 7
  fro : ∀ (j : Nat) (h : j < l.length), l[j].fro < s.size
  mark : ∀ (j : Nat) (h : j < l.length), l[j].kind = 6 → isM (s.data.toList.getD l[j].fro 0) = true
  len : l.length ≤ 20000
  size : s.size ≤ 20000
theorem tokK_mark {l : List UInt8} {n : Nat} (h : tokK l = (6, n)) : isM (l.headD 0) = true := by
  cases l with
  | nil => simp [tokK] at h
  | cons c t =>
    unfold tokK at h
    simp only at h
    split at h
    · simp at h
    · split at h
      · simp at h
      · split at h
        · simp at h
        · split at h
          · simp at h
          · split at h
            · rename_i hm; exact hm
            · split at h
              · simp at h
              · split at h <;> simp at h
theorem good (s : ByteArray) (hs : s.size ≤ 20000) : Good s (toksL s.data.toList) := by
  have key : ∀ (j : Nat) (h : j < (toksL s.data.toList).length), _ := fun j h => cut_at j 0 s.data.toList (toksL s.data.toList)[j] (List.getElem?_eq_getElem h)
  refine ⟨fun j h => ?_, fun j h => ?_, fun j h hk => ?_, ?_, hs⟩
  · obtain ⟨_, _, _, _, _, k1, k7, _⟩ := key j h
    exact ⟨k1, k7⟩
  · obtain ⟨_, h2, h3, _⟩ := key j h
    rw [len_list] at h3
    omega
  · obtain ⟨_, h2, h3, h4, _⟩ := key j h
    rw [Nat.sub_zero, hk] at h4
    have := tokK_mark h4
    rw [List.headD_eq_head?_getD, List.head?_drop] at this
    exact this
  · have := cutP_len 0 s.data.toList
    rw [len_list] at this
    exact Nat.le_trans this hs
def seesB (ts : List Sym) (m : UInt8) : Bool :=
  match ts with
  | [] => false
  | x :: _ => x.1 == m
theorem sym_mark {s : ByteArray} {l : List Tk} (g : Good s l) {i : Nat} (hi : i < l.length) {m : UInt8} (h1 : m ≠ 63) (h2 : m ≠ 120) : (symOf s.data.toList l[i] == m) = (decide (l[i].kind = 6) && (s.data.toList.getD l[i].fro 0 == m)) := by
  unfold symOf
  by_cases h6 : l[i].kind = 6
  · rw [if_pos h6, decide_eq_true h6]; rfl
  · rw [if_neg h6, decide_eq_false h6, Bool.false_and]
    split
    · exact beq_false_of_ne (Ne.symm h1)
    · exact beq_false_of_ne (Ne.symm h2)
theorem isM_not {c : UInt8} (h : isM c = true) : c ≠ 120 ∧ c ≠ 63 ∧ c ≠ 0 := by
  refine ⟨fun e => ?_, fun e => ?_, fun e => ?_⟩ <;> (rw [e] at h; exact absurd h (by decide))
theorem sym_one {s : ByteArray} {l : List Tk} (g : Good s l) {i : Nat} (hi : i < l.length) (h3 : 3 < l[i].kind) : (symOf s.data.toList l[i] == 120) = decide (l[i].kind = 4 ∨ l[i].kind = 5) := by
  have := g.kind i hi
  unfold symOf
  by_cases h6 : l[i].kind = 6
  · rw [if_pos h6, decide_eq_false (by omega)]
    exact beq_false_of_ne (isM_not (g.mark i hi h6)).1
  · rw [if_neg h6]
    by_cases h7 : l[i].kind = 7
    · rw [if_pos h7, decide_eq_false (by omega)]; rfl
    · rw [if_neg h7, decide_eq_true (by omega)]; rfl
/-- The place that is told of a wrong token. -/
def placeOf (s : ByteArray) (l : List Tk) (ts : List Sym) : Nat :=
  match ts with
  | [] => s.size
  | x :: _ => (l.getD x.2 ⟨0, 0, 0⟩).fro
end Go.Proofs.Ytoikdjbgeebadaa.trees
/- Nodes in memory: four cells a node, its kids in a row of their own. -/
set_option linter.unusedVariables false
namespace Go.Proofs.Ytoikdjbgeebadaa.trees
open Go.RowKit

/-- These four cells are the node; its kids lie in blocks of which 'ok' holds. -/
def Lies (ok : Nat → Prop) : Nat → World → List Value → T → Prop
  | 0, _, _, _ => False
  | f + 1, w, vs, t => ∃ (k a e : Nat) (l : List T) (p : Option Addr) (cap : Nat), t = nd k a e l ∧ vs = [.int .i64 (k : Int), .int .i64 (a : Int), .int .i64 (e : Int), .slice p l.length cap] ∧ l.length ≤ cap ∧
      (l ≠ [] → ∃ b o, p = some ⟨b, o, none⟩ ∧ ok b ∧ b < w.heap.size ∧ ∀ (j : Nat) (h : j < l.length), ∃ us : List Value, us.length = 4 ∧ (∀ i, i < 4 → w.cell? ⟨b, o + j * 4 + i, none⟩ = us[i]?) ∧ Lies ok f w us l[j])
theorem Lies.kept {ok : Nat → Prop} {w w' : World} (hs : w.heap.size ≤ w'.heap.size) (hb : ∀ b, ok b → b < w.heap.size → w'.heap[b]? = w.heap[b]?) : ∀ {f : Nat} {vs : List Value} {t : T}, Lies ok f w vs t → Lies ok f w' vs t
  | 0, _, _, h => h.elim
  | f + 1, vs, t, h => by
    obtain ⟨k, a, e, l, p, cap, h1, h2, h3, h4⟩ := h
    refine ⟨k, a, e, l, p, cap, h1, h2, h3, fun hl => ?_⟩
    obtain ⟨b, o, hp, hok, hlt, hk⟩ := h4 hl
    refine ⟨b, o, hp, hok, Nat.lt_of_lt_of_le hlt hs, fun j hj => ?_⟩
    obtain ⟨us, u1, u2, u3⟩ := hk j hj
    refine ⟨us, u1, fun i hi => ?_, Lies.kept hs hb u3⟩
    rw [World.cell?_of_block (w := w) (w' := w') (a := ⟨b, o + j * 4 + i, none⟩) (hb b hok hlt)]
    exact u2 i hi
theorem Lies.below {ok : Nat → Prop} {w w' : World} {f : Nat} {vs : List Value} {t : T} (h : Lies ok f w vs t) (hb : Below w.heap.size w w') : Lies ok f w' vs t :=
  h.kept hb.size (fun b _ hlt => hb.block b hlt)
theorem Lies.grown {ok : Nat → Prop} {w w' : World} {f : Nat} {vs : List Value} {t : T} {row : Option Nat} (h : Lies ok f w vs t) (hg : w.grownBy w' row) (hr : ∀ b, ok b → some b ≠ row) : Lies ok f w' vs t :=
  h.kept hg.size (fun b hok hlt => hg.block b hlt (hr b hok))
theorem Lies.weaken {ok ok' : Nat → Prop} {w : World} (ho : ∀ b, ok b → ok' b) : ∀ {f : Nat} {vs : List Value} {t : T}, Lies ok f w vs t → Lies ok' f w vs t
  | 0, _, _, h => h.elim
  | f + 1, vs, t, h => by
    obtain ⟨k, a, e, l, p, cap, h1, h2, h3, h4⟩ := h
    refine ⟨k, a, e, l, p, cap, h1, h2, h3, fun hl => ?_⟩
    obtain ⟨b, o, hp, hok, hlt, hk⟩ := h4 hl
    refine ⟨b, o, hp, ho b hok, hlt, fun j hj => ?_⟩
    obtain ⟨us, u1, u2, u3⟩ := hk j hj
    exact ⟨us, u1, u2, Lies.weaken ho u3⟩
theorem Lies.up {ok : Nat → Prop} {w : World} : ∀ {f : Nat} {vs : List Value} {t : T}, Lies ok f w vs t → Lies ok (f + 1) w vs t
  | 0, _, _, h => h.elim
  | f + 1, vs, t, h => by
    obtain ⟨k, a, e, l, p, cap, h1, h2, h3, h4⟩ := h
    refine ⟨k, a, e, l, p, cap, h1, h2, h3, fun hl => ?_⟩
    obtain ⟨b, o, hp, hok, hlt, hk⟩ := h4 hl
    refine ⟨b, o, hp, hok, hlt, fun j hj => ?_⟩
    obtain ⟨us, u1, u2, u3⟩ := hk j hj
    exact ⟨us, u1, u2, Lies.up u3⟩
theorem Lies.to {ok : Nat → Prop} {w : World} {f g : Nat} {vs : List Value} {t : T} (hfg : f ≤ g) (h : Lies ok f w vs t) : Lies ok g w vs t := by
  induction g with
  | zero =>
    have : f = 0 := by omega
    subst this
    exact h
  | succ g ih =>
    by_cases e : f = g + 1
    · subst e; exact h
    · exact (ih (by omega)).up
theorem Lies.len {ok : Nat → Prop} {w : World} {f : Nat} {vs : List Value} {t : T} (h : Lies ok f w vs t) : vs.length = 4 := by
  cases f with
  | zero => exact h.elim
  | succ f =>
    obtain ⟨k, a, e, l, p, cap, _, rfl, _⟩ := h
    rfl
/-- A node without kids. -/
theorem lies_leaf (ok : Nat → Prop) (f : Nat) (w : World) (k a e : Nat) : Lies ok (f + 1) w [.int .i64 (k : Int), .int .i64 (a : Int), .int .i64 (e : Int), .slice none 0 0] (nd k a e []) :=
  ⟨k, a, e, [], none, 0, rfl, rfl, Nat.le_refl _, fun h => absurd rfl h⟩
/-- Kids in a row that the call owns: their cells, node by node. -/
structure KidsIn (ok : Nat → Prop) (f : Nat) (w : World) (vss : List (List Value)) (l : List T) : Prop where
  len : vss.length = l.length
  each : ∀ (j : Nat) (h : j < vss.length) (h' : j < l.length), Lies ok f w vss[j] l[j]
theorem kidsIn_nil (ok : Nat → Prop) (f : Nat) (w : World) : KidsIn ok f w [] [] := ⟨rfl, fun j h => by simp at h⟩
theorem KidsIn.snoc {ok : Nat → Prop} {f : Nat} {w : World} {vss : List (List Value)} {l : List T} {vs : List Value} {t : T} (h : KidsIn ok f w vss l) (ht : Lies ok f w vs t) : KidsIn ok f w (vss ++ [vs]) (l ++ [t]) := by
  have e := h.len
  refine ⟨by simp [e], fun j hj hj' => ?_⟩
  by_cases hl : j < vss.length
  · rw [List.getElem_append_left hl, List.getElem_append_left (by omega)]
    exact h.each j hl (by omega)
  · rw [List.getElem_append_right (by omega), List.getElem_append_right (by omega)]
    simp only [List.getElem_singleton]
    exact ht
theorem KidsIn.kept {ok : Nat → Prop} {f : Nat} {w w' : World} {vss : List (List Value)} {l : List T} (hs : w.heap.size ≤ w'.heap.size) (hb : ∀ b, ok b → b < w.heap.size → w'.heap[b]? = w.heap[b]?) (h : KidsIn ok f w vss l) : KidsIn ok f w' vss l :=
  ⟨h.len, fun j hj hj' => (h.each j hj hj').kept hs hb⟩
theorem KidsIn.lens {ok : Nat → Prop} {f : Nat} {w : World} {vss : List (List Value)} {l : List T} (h : KidsIn ok f w vss l) : ∀ vs ∈ vss, vs.length = 4 := fun vs hv => by
  obtain ⟨j, hj, e⟩ := List.getElem_of_mem hv
  rw [← e]
  exact (h.each j hj (by rw [← h.len]; exact hj)).len
theorem flat4_len : ∀ (vss : List (List Value)), (∀ vs ∈ vss, vs.length = 4) → vss.flatten.length = vss.length * 4
  | [], _ => rfl
  | vs :: r, h => by
    rw [List.flatten_cons, List.length_append, h vs (by simp), flat4_len r (fun x hx => h x (by simp [hx])), List.length_cons]
    omega
theorem flat4_get : ∀ (vss : List (List Value)), (∀ vs ∈ vss, vs.length = 4) → ∀ (j i : Nat) (h : j < vss.length), i < 4 → vss.flatten[j * 4 + i]? = vss[j][i]?
  | [], _, j, i, h, _ => by simp at h
  | vs :: r, hv, 0, i, h, hi => by
    rw [List.flatten_cons, List.getElem?_append_left (by rw [hv vs (by simp)]; omega)]
    simp
  | vs :: r, hv, j + 1, i, h, hi => by
    have hl := hv vs (by simp)
    rw [List.flatten_cons, List.getElem?_append_right (by rw [hl]; omega), hl, show (j + 1) * 4 + i - 4 = j * 4 + i by omega, flat4_get r (fun x hx => hv x (by simp [hx])) j i (by simpa using h) hi]
    simp
/-- A node whose kids lie in such a row. -/
theorem lies_own {ok : Nat → Prop} {f : Nat} {w : World} {base ty : Nat} {v : Value} {vss : List (List Value)} {l : List T} {k a e : Nat} (hk : KidsIn ok f w vss l) (hown : w.ownsRow base ty 4 v l.length vss.flatten) (hok : ∀ b, base ≤ b → ok b) :
    Lies ok (f + 1) w [.int .i64 (k : Int), .int .i64 (a : Int), .int .i64 (e : Int), v] (nd k a e l) := by
  have hl := hk.lens
  have h' := hown
  rcases hown.2 with ⟨rfl, h0⟩ | ⟨g, cap, cur, rfl, hb, hg, hcap, _⟩
  · have : l = [] := List.eq_nil_of_length_eq_zero h0
    subst this
    exact ⟨k, a, e, [], none, 0, rfl, rfl, Nat.le_refl _, fun h => absurd rfl h⟩
  · refine ⟨k, a, e, l, _, cap, rfl, rfl, hcap, fun _ => ⟨g, 0, rfl, hok g hb, (Array.getElem?_eq_some_iff.1 hg).1, fun j hj => ?_⟩⟩
    have hj' : j < vss.length := by rw [hk.len]; exact hj
    refine ⟨vss[j], (hk.each j hj' hj).len, fun i hi => ?_, hk.each j hj' hj⟩
    rw [show 0 + j * 4 + i = j * 4 + i by omega, h'.cellAt (j * 4 + i) (by omega), flat4_get vss hl j i hj' hi]
end Go.Proofs.Ytoikdjbgeebadaa.trees
/- The walks of the cutter: runs, texts. -/
set_option linter.unusedVariables false
namespace Go.Proofs.Ytoikdjbgeebadaa.toks
open Go.RowKit

theorem run_more {p : UInt8 → Bool} {s : ByteArray} {a k : Nat} (h : k < s.size) (hp : p (s[k]'h) = true) (hr : a + runL p (s.data.toList.drop a) = k + runL p (s.data.toList.drop k)) : a + runL p (s.data.toList.drop a) = (k + 1) + runL p (s.data.toList.drop (k + 1)) := by
  rw [hr, run_step (by rw [len_list]; exact h) (by rw [byte_at s k h]; exact hp)]
  omega
theorem run_here {p : UInt8 → Bool} {s : ByteArray} {a k : Nat} (h : k < s.size) (hp : p (s[k]'h) = false) (hr : a + runL p (s.data.toList.drop a) = k + runL p (s.data.toList.drop k)) : a + runL p (s.data.toList.drop a) = k := by
  rw [hr, run_stop (by rw [len_list]; exact h) (by rw [byte_at s k h]; exact hp)]
  omega
theorem run_over {p : UInt8 → Bool} {s : ByteArray} {a k : Nat} (h : s.size ≤ k) (hr : a + runL p (s.data.toList.drop a) = k + runL p (s.data.toList.drop k)) : a + runL p (s.data.toList.drop a) = k := by
  rw [hr, run_end (by rw [len_list]; exact h)]
  omega
set_option maxHeartbeats 1000000 in
set_option maxRecDepth 100000 in
theorem runB_any (w : World) (B : Nat) (s : ByteArray) (m : Nat) (b : Bool) (a : Nat) (ha : a ≤ s.size) (hs : s.size ≤ 20000) (hc : Ctr w B s m b) :
    Calls Try.prog 37 #[.pointer (some ⟨B, 0, none⟩), .int .i64 (a : Int), .func (.func 36) #[] #[]] w fun e w' => e = .returned (.int .i64 ((a + runL isB (s.data.toList.drop a) : Nat) : Int)) ∧ w' = w := by
  have c0 := hc.cell 0 _ rfl
  clear hc
  go_enter Try.func37, Try.ntmps37
  go_wp2_with fail
  go_loopw [1] (fun i wr => ∃ k : Nat, k ≤ s.size ∧ i = .int .i64 k ∧ Hid (a + runL isB (s.data.toList.drop a) = k + runL isB (s.data.toList.drop k)) ∧ wr = w) (fun i _ => s.size - (intOf i).toNat)
  case atStart => exact ⟨a, ha, rfl, hide rfl, rfl⟩
  case round =>
    obtain ⟨k, hk, rfl, hr, hw⟩ := hrel
    subst hw
    by_cases hlt : k < s.size
    · have KI := hide (isBlank_any wr (s[k]'hlt))
      have RM := hide (run_more (p := isB) (a := a) hlt)
      have RH := hide (run_here (p := isB) (a := a) hlt)
      generalize isB (s[k]'hlt) = o at *
      have i1 : (k : Int) < (s.size : Int) := by omega
      cases o with
      | true =>
        have RM2 := hide (unhide RM rfl (unhide hr))
        clear RM RH hr
        go_wp2_with fail
        refine (unhide KI).mono ?_
        rintro e w2 ⟨rfl, hw⟩
        rw [hw]
        clear hw KI
        go_wp2
        go_roundw
        case rel => exact ⟨k + 1, by omega, by go_num, RM2, by first | rfl | trivial⟩
        case measure => simp [intOf]; omega
      | false =>
        have RH2 := hide (unhide RH rfl (unhide hr))
        clear RM RH hr
        go_wp2_with fail
        refine (unhide KI).mono ?_
        rintro e w2 ⟨rfl, hw⟩
        rw [hw]
        clear hw KI
        go_wp2
        go_ret
        rw [unhide RH2]
        exact ⟨rfl, rfl⟩
    · have RO := hide (run_over (p := isB) (a := a) (Nat.le_of_not_lt hlt) (unhide hr))
      have hks : k = s.size := by omega
      clear hr
      have d1 : decide ((k : Int) < (s.size : Int)) = false := decide_eq_false (by omega)
      clear hks
      go_wp2
      go_ret
      rw [unhide RO]
      exact ⟨rfl, rfl⟩
set_option maxHeartbeats 1000000 in
set_option maxRecDepth 100000 in
theorem runW_any (w : World) (B : Nat) (s : ByteArray) (m : Nat) (b : Bool) (a : Nat) (ha : a ≤ s.size) (hs : s.size ≤ 20000) (hc : Ctr w B s m b) :
    Calls Try.prog 37 #[.pointer (some ⟨B, 0, none⟩), .int .i64 (a : Int), .func (.func 39) #[] #[]] w fun e w' => e = .returned (.int .i64 ((a + runL isW (s.data.toList.drop a) : Nat) : Int)) ∧ w' = w := by
  have c0 := hc.cell 0 _ rfl
  clear hc
  go_enter Try.func37, Try.ntmps37
  go_wp2_with fail
  go_loopw [1] (fun i wr => ∃ k : Nat, k ≤ s.size ∧ i = .int .i64 k ∧ Hid (a + runL isW (s.data.toList.drop a) = k + runL isW (s.data.toList.drop k)) ∧ wr = w) (fun i _ => s.size - (intOf i).toNat)
  case atStart => exact ⟨a, ha, rfl, hide rfl, rfl⟩
  case round =>
    obtain ⟨k, hk, rfl, hr, hw⟩ := hrel
    subst hw
    by_cases hlt : k < s.size
    · have KI := hide (inWord_any wr (s[k]'hlt))
      have RM := hide (run_more (p := isW) (a := a) hlt)
      have RH := hide (run_here (p := isW) (a := a) hlt)
      generalize isW (s[k]'hlt) = o at *
      have i1 : (k : Int) < (s.size : Int) := by omega
      cases o with
      | true =>
        have RM2 := hide (unhide RM rfl (unhide hr))
        clear RM RH hr
        go_wp2_with fail
        refine (unhide KI).mono ?_
        rintro e w2 ⟨rfl, hw⟩
        rw [hw]
        clear hw KI
        go_wp2
        go_roundw
        case rel => exact ⟨k + 1, by omega, by go_num, RM2, by first | rfl | trivial⟩
        case measure => simp [intOf]; omega
      | false =>
        have RH2 := hide (unhide RH rfl (unhide hr))
        clear RM RH hr
        go_wp2_with fail
        refine (unhide KI).mono ?_
        rintro e w2 ⟨rfl, hw⟩
        rw [hw]
        clear hw KI
        go_wp2
        go_ret
        rw [unhide RH2]
        exact ⟨rfl, rfl⟩
    · have RO := hide (run_over (p := isW) (a := a) (Nat.le_of_not_lt hlt) (unhide hr))
      have hks : k = s.size := by omega
      clear hr
      have d1 : decide ((k : Int) < (s.size : Int)) = false := decide_eq_false (by omega)
      clear hks
      go_wp2
      go_ret
      rw [unhide RO]
      exact ⟨rfl, rfl⟩
theorem b_eq {c : UInt8} (k : UInt8) (h : c = k) : ((c.toNat : Int) == (k.toNat : Int)) = true := by rw [h]; exact beq_self_eq_true _
theorem b_ne {c : UInt8} (k : UInt8) (h : c ≠ k) : ((c.toNat : Int) == (k.toNat : Int)) = false := beq_false_of_ne (fun e => h (UInt8.toNat_inj.1 (by omega)))
theorem b_eq' {c : UInt8} (k : UInt8) (h : c = k) : ((c.toNat : Int) != (k.toNat : Int)) = false := by unfold bne; rw [b_eq k h]; rfl
theorem b_ne' {c : UInt8} (k : UInt8) (h : c ≠ k) : ((c.toNat : Int) != (k.toNat : Int)) = true := by unfold bne; rw [b_ne k h]; rfl
theorem Ctr.text {w : World} {B : Nat} {s : ByteArray} {m : Nat} {b : Bool} (h : Ctr w B s m b) (e : Nat) : Ctr (w.setCell ⟨B, 1, none⟩ (.int .i64 (e : Int))) B s e b := by
  have := h.set 1 (.int .i64 (e : Int))
  simpa [Ctr] using this
theorem Ctr.note {w : World} {B : Nat} {s : ByteArray} {m : Nat} {b : Bool} (h : Ctr w B s m b) : Ctr (w.setCell ⟨B, 2, none⟩ (.bool true)) B s m true := by
  have := h.set 2 (.bool true)
  simpa [Ctr] using this
set_option maxHeartbeats 1000000 in
set_option maxRecDepth 100000 in
theorem text_low (w : World) (B : Nat) (s : ByteArray) (m : Nat) (b : Bool) (a : Nat) (ha : a < s.size) (hs : s.size ≤ 20000) (hc : Ctr w B s m b) (hm : a < m) :
    Calls Try.prog 42 #[.pointer (some ⟨B, 0, none⟩), .int .i64 (a : Int)] w fun e w' => e = .returned (.tuple #[.int .i64 0, .bool false]) ∧ w' = w := by
  have c1 := hc.cell 1 _ rfl
  clear hc
  have d1 : decide ((a : Int) < (m : Int)) = true := decide_eq_true (by omega)
  have i1 : (a : Int) < (m : Int) := by omega
  go_enter Try.func42, Try.ntmps42
  go_wp2
  go_ret2
  exact ⟨rfl, rfl⟩
set_option maxHeartbeats 1000000 in
set_option maxRecDepth 100000 in
theorem text_no (w : World) (B : Nat) (s : ByteArray) (m : Nat) (b : Bool) (a : Nat) (ha : a < s.size) (hs : s.size ≤ 20000) (hc : Ctr w B s m b) (h34 : s[a]'ha ≠ 34) :
    Calls Try.prog 42 #[.pointer (some ⟨B, 0, none⟩), .int .i64 (a : Int)] w fun e w' => e = .returned (.tuple #[.int .i64 0, .bool false]) ∧ w' = w := by
  by_cases hm : a < m
  · exact text_low w B s m b a ha hs hc hm
  have c0 := hc.cell 0 _ rfl
  have c1 := hc.cell 1 _ rfl
  clear hc
  have i2 : (((s[a]'ha).toNat : Int) == 34) = false := b_ne 34 h34
  have i3 : (((s[a]'ha).toNat : Int) != 34) = true := b_ne' 34 h34
  have d1 : decide ((a : Int) < (m : Int)) = false := decide_eq_false (by omega)
  have d0 : decide (a < m) = false := decide_eq_false (by omega)
  clear h34
  go_enter Try.func42, Try.ntmps42
  go_wp2
  go_ret2
  exact ⟨rfl, rfl⟩
theorem wayS_two {s : ByteArray} {a e : Nat} (w : Way s.data.toList a e) (h : e + 1 < s.size) (h0 : e < s.size) (h1 : s[e]'h0 = 92) (h2 : s[e + 1]'h ≠ 10) : Way s.data.toList a (e + 2) :=
  way_two w (by rw [len_list]; exact h) h1 h2
theorem wayS_next {s : ByteArray} {a e : Nat} (w : Way s.data.toList a e) (h : e < s.size) (h1 : s[e]'h ≠ 34) (h2 : s[e]'h ≠ 10) (h3 : s[e]'h = 92 → ∀ h : e + 1 < s.size, s[e + 1]'h = 10) : Way s.data.toList a (e + 1) :=
  way_next w (by rw [len_list]; exact h) h1 h2 (fun q h' => h3 q (by rw [len_list] at h'; exact h'))
theorem wayS_hit {s : ByteArray} {a e : Nat} (w : Way s.data.toList a e) (h : e < s.size) (h1 : s[e]'h = 34) : shutN (s.data.toList.drop (a + 1)) = e - a :=
  way_hit w (by rw [len_list]; exact h) h1
theorem wayS_end {s : ByteArray} {a e : Nat} (w : Way s.data.toList a e) (h : s.size ≤ e ∨ ∃ h : e < s.size, s[e]'h = 10) : shutN (s.data.toList.drop (a + 1)) = 0 ∧ NoText s.data.toList a e := by
  refine way_none w ?_
  rcases h with h | ⟨h, h1⟩
  · exact shut_end (by rw [len_list]; exact h)
  · exact shut_line (by rw [len_list]; exact h) h1
set_option maxHeartbeats 2000000 in
set_option maxRecDepth 100000 in
theorem text_quote (w : World) (B : Nat) (s : ByteArray) (m : Nat) (b : Bool) (a : Nat) (ha : a < s.size) (hs : s.size ≤ 20000) (hc : Ctr w B s m b) (hm : m ≤ a) (h34 : s[a]'ha = 34) :
    Calls Try.prog 42 #[.pointer (some ⟨B, 0, none⟩), .int .i64 (a : Int)] w fun e w' =>
      (e = .returned (.tuple #[.int .i64 ((a + 1 + shutN (s.data.toList.drop (a + 1)) : Nat) : Int), .bool true]) ∧ shutN (s.data.toList.drop (a + 1)) ≠ 0 ∧ w' = w) ∨
      (∃ q : Nat, e = .returned (.tuple #[.int .i64 0, .bool false]) ∧ shutN (s.data.toList.drop (a + 1)) = 0 ∧ NoText s.data.toList a q ∧ q ≤ s.size ∧ w' = w.setCell ⟨B, 1, none⟩ (.int .i64 (q : Int))) := by
  have c0 := hc.cell 0 _ rfl
  have c1 := hc.cell 1 _ rfl
  have f1 := hc.froz 1
  clear hc
  have i2 : (((s[a]'ha).toNat : Int) == 34) = true := b_eq 34 h34
  have i3 : (((s[a]'ha).toNat : Int) != 34) = false := b_eq' 34 h34
  have d1 : decide ((a : Int) < (m : Int)) = false := decide_eq_false (by omega)
  have d0 : decide (a < m) = false := decide_eq_false (by omega)
  have W0 := hide (way_start (l := s.data.toList) (a := a) (by rw [len_list]; exact ha))
  clear h34
  go_enter Try.func42, Try.ntmps42
  go_wp2_with fail
  clear i2 i3
  go_loopw [6] (fun i wr => ∃ k : Nat, k ≤ s.size ∧ i = .int .i64 k ∧ Hid (Way s.data.toList a k) ∧ wr = w) (fun i _ => s.size - (intOf i).toNat)
  case atStart => exact ⟨a + 1, ha, by go_num, W0, rfl⟩
  case round =>
    obtain ⟨k, hk, rfl, hW, hw⟩ := hrel
    subst hw
    have hak := (unhide hW).lo
    by_cases hlt : k < s.size
    · have i1 : (k : Int) < (s.size : Int) := by omega
      by_cases h10 : s[k]'hlt = 10
      · have E := hide (wayS_end (unhide hW) (.inr ⟨hlt, h10⟩))
        have j1 : (((s[k]'hlt).toNat : Int) == 10) = true := b_eq 10 h10
        have j2 : (((s[k]'hlt).toNat : Int) != 10) = false := b_eq' 10 h10
        clear h10 hW W0
        go_wp2
        go_ret2
        exact .inr ⟨k, rfl, (unhide E).1, (unhide E).2, hk, rfl⟩
      · have j1 : (((s[k]'hlt).toNat : Int) == 10) = false := b_ne 10 h10
        have j2 : (((s[k]'hlt).toNat : Int) != 10) = true := b_ne' 10 h10
        by_cases h3 : s[k]'hlt = 34
        · have E := hide (wayS_hit (unhide hW) hlt h3)
          have j3 : (((s[k]'hlt).toNat : Int) == 34) = true := b_eq 34 h3
          clear h10 h3 hW W0
          go_wp2
          go_ret2
          refine .inl ⟨?_, ?_, rfl⟩
          · rw [unhide E, show a + 1 + (k - a) = k + 1 by omega]
            go_num
          · rw [unhide E]; omega
        · have j3 : (((s[k]'hlt).toNat : Int) == 34) = false := b_ne 34 h3
          by_cases h9 : s[k]'hlt = 92
          · have j4 : (((s[k]'hlt).toNat : Int) == 92) = true := b_eq 92 h9
            by_cases hl2 : k + 1 < s.size
            · have i4 : (k : Int) + 1 < (s.size : Int) := by omega
              by_cases h11 : s[k + 1]'hl2 = 10
              · have E := hide (wayS_next (unhide hW) hlt h3 h10 (fun _ _ => h11))
                have j5 : (((s[k + 1]'hl2).toNat : Int) == 10) = true := b_eq 10 h11
                have j6 : (((s[k + 1]'hl2).toNat : Int) != 10) = false := b_eq' 10 h11
                clear h10 h3 h9 h11 hW W0
                go_wp2
                go_roundw
                case rel => exact ⟨k + 1, by omega, by go_num, E, by first | rfl | trivial⟩
                case measure => simp [intOf]; omega
              · have E := hide (wayS_two (unhide hW) hl2 hlt h9 h11)
                have j5 : (((s[k + 1]'hl2).toNat : Int) == 10) = false := b_ne 10 h11
                have j6 : (((s[k + 1]'hl2).toNat : Int) != 10) = true := b_ne' 10 h11
                clear h10 h3 h9 h11 hW W0
                go_wp2
                go_roundw
                case rel => exact ⟨k + 2, by omega, by go_num, E, by first | rfl | trivial⟩
                case measure => simp [intOf]; omega
            · have E := hide (wayS_next (unhide hW) hlt h3 h10 (fun _ h => absurd h hl2))
              have d4 : decide ((k : Int) + 1 < (s.size : Int)) = false := decide_eq_false (by omega)
              clear h10 h3 h9 hW W0
              go_wp2
              go_roundw
              case rel => exact ⟨k + 1, by omega, by go_num, E, by first | rfl | trivial⟩
              case measure => simp [intOf]; omega
          · have E := hide (wayS_next (unhide hW) hlt h3 h10 (fun h => absurd h h9))
            have j4 : (((s[k]'hlt).toNat : Int) == 92) = false := b_ne 92 h9
            clear h10 h3 h9 hW W0
            go_wp2
            go_roundw
            case rel => exact ⟨k + 1, by omega, by go_num, E, by first | rfl | trivial⟩
            case measure => simp [intOf]; omega
    · have E := hide (wayS_end (unhide hW) (.inl (Nat.le_of_not_lt hlt)))
      have d4 : decide ((k : Int) < (s.size : Int)) = false := decide_eq_false (by omega)
      clear hW W0
      go_wp2
      go_ret2
      exact .inr ⟨k, rfl, (unhide E).1, (unhide E).2, hk, rfl⟩
end Go.Proofs.Ytoikdjbgeebadaa.toks
/- The walks of the document's answer: one of these bytes, letters, runs. -/
set_option linter.unusedVariables false
namespace Go.Proofs.Ytoikdjbgeebadaa.toks
open Go.RowKit

theorem some_more {c : UInt8} {t : ByteArray} {k : Nat} (h : k < t.size) (hn : (t.data.toList.take k).contains c = false) (hc : t[k]'h ≠ c) : (t.data.toList.take (k + 1)).contains c = false := by
  have hl : k < t.data.toList.length := by rw [len_list]; exact h
  rw [List.take_succ_eq_append_getElem hl]
  have e : t.data.toList[k]'hl = t[k]'h := rfl
  rw [e]
  have : (([t[k]'h] : List UInt8).contains c) = false := by
    simp only [List.contains_cons, List.contains_nil, Bool.or_false]
    exact beq_false_of_ne (Ne.symm hc)
  rw [List.contains_eq_any_beq, List.any_append, ← List.contains_eq_any_beq, ← List.contains_eq_any_beq, hn, this]
  rfl
theorem some_here {c : UInt8} {t : ByteArray} {k : Nat} (h : k < t.size) (hc : t[k]'h = c) : t.data.toList.contains c = true := by
  have hl : k < t.data.toList.length := by rw [len_list]; exact h
  rw [List.contains_iff_mem, ← hc]
  exact List.getElem_mem hl
theorem u8_ne {a b : UInt8} (h : a ≠ b) : ((a.toNat : Int) == (b.toNat : Int)) = false := beq_false_of_ne (fun e => h (UInt8.toNat_inj.1 (by omega)))
set_option maxHeartbeats 400000 in
set_option maxRecDepth 100000 in
theorem oneOf_any (w : World) (c : UInt8) (t : ByteArray) (ht : t.size ≤ 100) :
    Calls Try.prog 32 #[.int .u8 (c.toNat : Int), .string t] w fun e w' => e = .returned (.bool (t.data.toList.contains c)) ∧ w' = w := by
  go_enter Try.func32, Try.ntmps32
  go_wp2_with fail
  go_loopw [5] (fun i wr => ∃ k : Nat, k ≤ t.size ∧ i = .int .i64 k ∧ Hid ((t.data.toList.take k).contains c = false) ∧ wr = w) (fun i _ => t.size - (intOf i).toNat)
  case atStart => exact ⟨0, Nat.zero_le _, rfl, rfl, rfl⟩
  case round =>
    obtain ⟨k, hk, rfl, hn, hw⟩ := hrel
    subst hw
    by_cases hlt : k < t.size
    · have i1 : (k : Int) < (t.size : Int) := by omega
      by_cases hc : t[k]'hlt = c
      · have E := hide (some_here hlt hc)
        have j1 : (((t[k]'hlt).toNat : Int) == (c.toNat : Int)) = true := by rw [hc]; exact beq_self_eq_true _
        clear hc hn
        go_wp2
        go_ret
        rw [unhide E]
        exact ⟨rfl, rfl⟩
      · have E := hide (some_more hlt (unhide hn) hc)
        have j1 : (((t[k]'hlt).toNat : Int) == (c.toNat : Int)) = false := u8_ne hc
        clear hc hn
        go_wp2
        go_roundw
        case rel => exact ⟨k + 1, by omega, by go_num, E, by first | rfl | trivial⟩
        case measure => simp only [intOf]; omega
    · have hkl : k = t.size := by omega
      have E := unhide hn
      rw [hkl, ← len_list, List.take_length] at E
      have E := hide E
      clear hn hkl
      go_wp2
      go_ret
      rw [unhide E]
      exact ⟨rfl, rfl⟩
theorem one_blank (c : UInt8) : (⟨#[32, 9, 13]⟩ : ByteArray).data.toList.contains c = isB c := by
  show ([32, 9, 13] : List UInt8).contains c = _
  unfold isB
  simp only [List.contains_cons, List.contains_nil, Bool.or_false, Bool.or_assoc]
theorem one_mark (c : UInt8) : (⟨#[123, 125, 91, 93, 58, 61, 44]⟩ : ByteArray).data.toList.contains c = isM c := by
  show ([123, 125, 91, 93, 58, 61, 44] : List UInt8).contains c = _
  unfold isM
  simp only [List.contains_cons, List.contains_nil, Bool.or_false, Bool.or_assoc]
theorem one_sign (c : UInt8) : (⟨#[95, 45, 43, 46]⟩ : ByteArray).data.toList.contains c = decide (c.toNat = 95 ∨ c.toNat = 45 ∨ c.toNat = 43 ∨ c.toNat = 46) := by
  show ([95, 45, 43, 46] : List UInt8).contains c = _
  simp only [List.contains_cons, List.contains_nil, Bool.or_false]
  have e : ∀ k : UInt8, (c == k) = decide (c.toNat = k.toNat) := fun k => by
    rw [Bool.eq_iff_iff, beq_iff_eq, decide_eq_true_iff]
    exact ⟨fun h => by rw [h], fun h => UInt8.toNat_inj.1 h⟩
  rw [e, e, e, e, ← Bool.decide_or, ← Bool.decide_or, ← Bool.decide_or]
  rfl
set_option maxHeartbeats 400000 in
theorem blankC_any (w : World) (c : UInt8) :
    Calls Try.prog 31 #[.int .u8 (c.toNat : Int)] w fun e w' => e = .returned (.bool (isB c)) ∧ w' = w := by
  have K := hide (oneOf_any w c ⟨#[32, 9, 13]⟩ (by decide))
  rw [one_blank] at K
  go_enter Try.func31, Try.ntmps31
  go_wp2_with fail
  refine (unhide K).mono ?_
  rintro e w2 ⟨rfl, hw⟩
  rw [hw]
  clear hw K
  go_wp2
  go_ret
  exact ⟨rfl, rfl⟩
set_option maxHeartbeats 400000 in
theorem lineC_any (w : World) (c : UInt8) :
    Calls Try.prog 33 #[.int .u8 (c.toNat : Int)] w fun e w' => e = .returned (.bool (noL c)) ∧ w' = w := by
  by_cases h : c = 10
  · have e : noL c = false := by rw [h]; rfl
    have j1 : ((c.toNat : Int) == 10) = true := b_eq 10 h
    have j2 : ((c.toNat : Int) != 10) = false := b_eq' 10 h
    rw [e]
    clear h e
    go_enter Try.func33, Try.ntmps33
    go_wp2
    go_ret
    exact ⟨rfl, rfl⟩
  · have e : noL c = true := by unfold noL; simpa using h
    have j1 : ((c.toNat : Int) == 10) = false := b_ne 10 h
    have j2 : ((c.toNat : Int) != 10) = true := b_ne' 10 h
    rw [e]
    clear h e
    go_enter Try.func33, Try.ntmps33
    go_wp2
    go_ret
    exact ⟨rfl, rfl⟩
set_option maxHeartbeats 1000000 in
theorem letterT_any (w : World) (n : Nat) :
    Calls Try.prog 35 #[.int .u8 (n : Int)] w fun e w' => e = .returned (.bool (decide ((97 ≤ n ∧ n ≤ 122) ∨ (65 ≤ n ∧ n ≤ 90)))) ∧ w' = w := by
  by_cases a1 : (97 : Int) ≤ (n : Int)
  · have d1 : decide ((97 : Int) ≤ (n : Int)) = true := decide_eq_true a1
    have d1' : decide ((n : Int) ≥ 97) = true := decide_eq_true a1
    by_cases a2 : (n : Int) ≤ 122
    · rw [decide_eq_true (by omega)]
      go_enter Try.func35, Try.ntmps35; go_wp2; go_ret; exact ⟨rfl, rfl⟩
    · rw [decide_eq_false (by omega)]
      have d2 : decide ((n : Int) ≤ 122) = false := decide_eq_false a2
      have a3 : (65 : Int) ≤ (n : Int) := by omega
      have a4 : ¬ (n : Int) ≤ 90 := by omega
      go_enter Try.func35, Try.ntmps35; go_wp2; go_ret; exact ⟨rfl, rfl⟩
  · have d1 : decide ((97 : Int) ≤ (n : Int)) = false := decide_eq_false a1
    have d1' : decide ((n : Int) ≥ 97) = false := decide_eq_false a1
    by_cases a3 : (65 : Int) ≤ (n : Int)
    · by_cases a4 : (n : Int) ≤ 90
      · rw [decide_eq_true (by omega)]
        go_enter Try.func35, Try.ntmps35; go_wp2; go_ret; exact ⟨rfl, rfl⟩
      · rw [decide_eq_false (by omega)]
        go_enter Try.func35, Try.ntmps35; go_wp2; go_ret; exact ⟨rfl, rfl⟩
    · rw [decide_eq_false (by omega)]
      go_enter Try.func35, Try.ntmps35; go_wp2; go_ret; exact ⟨rfl, rfl⟩
theorem isW_parts (c : UInt8) : isW c = (decide ((97 ≤ c.toNat ∧ c.toNat ≤ 122) ∨ (65 ≤ c.toNat ∧ c.toNat ≤ 90)) || decide (48 ≤ c.toNat ∧ c.toNat ≤ 57) || decide (c.toNat = 95 ∨ c.toNat = 45 ∨ c.toNat = 43 ∨ c.toNat = 46)) := by
  unfold isW
  rw [← Bool.decide_or, ← Bool.decide_or]
  apply decide_eq_decide.2
  omega
set_option maxHeartbeats 1000000 in
theorem wordC_any (w : World) (c : UInt8) :
    Calls Try.prog 34 #[.int .u8 (c.toNat : Int)] w fun e w' => e = .returned (.bool (isW c)) ∧ w' = w := by
  have K1 := hide (letterT_any w c.toNat)
  have K2 := hide (oneOf_any w c ⟨#[95, 45, 43, 46]⟩ (by decide))
  rw [one_sign] at K2
  rw [isW_parts]
  generalize decide ((97 ≤ c.toNat ∧ c.toNat ≤ 122) ∨ (65 ≤ c.toNat ∧ c.toNat ≤ 90)) = x1 at *
  generalize decide (c.toNat = 95 ∨ c.toNat = 45 ∨ c.toNat = 43 ∨ c.toNat = 46) = x3 at *
  generalize c.toNat = n at *
  cases x1 with
  | true =>
    rw [Bool.true_or, Bool.true_or]
    go_enter Try.func34, Try.ntmps34
    go_wp2_with fail
    refine (unhide K1).mono ?_
    rintro e w2 ⟨rfl, hw⟩
    rw [hw]
    clear hw K1 K2
    go_wp2
    go_ret
    exact ⟨rfl, rfl⟩
  | false =>
    rw [Bool.false_or]
    by_cases a1 : (48 : Int) ≤ (n : Int)
    · have d1 : decide ((48 : Int) ≤ (n : Int)) = true := decide_eq_true a1
      have d1' : decide ((n : Int) ≥ 48) = true := decide_eq_true a1
      by_cases a2 : (n : Int) ≤ 57
      · rw [decide_eq_true (by omega), Bool.true_or]
        go_enter Try.func34, Try.ntmps34
        go_wp2_with fail
        refine (unhide K1).mono ?_
        rintro e w2 ⟨rfl, hw⟩
        rw [hw]
        clear hw K1 K2
        go_wp2
        go_ret
        exact ⟨rfl, rfl⟩
      · rw [decide_eq_false (by omega), Bool.false_or]
        have d2 : decide ((n : Int) ≤ 57) = false := decide_eq_false a2
        go_enter Try.func34, Try.ntmps34
        go_wp2_with fail
        refine (unhide K1).mono ?_
        rintro e w2 ⟨rfl, hw⟩
        rw [hw]
        clear hw K1
        go_wp2_with fail
        refine (unhide K2).mono ?_
        rintro e w2 ⟨rfl, hw⟩
        rw [hw]
        clear hw K2
        go_wp2
        go_ret
        exact ⟨rfl, rfl⟩
    · rw [decide_eq_false (by omega), Bool.false_or]
      have d1 : decide ((48 : Int) ≤ (n : Int)) = false := decide_eq_false a1
      have d1' : decide ((n : Int) ≥ 48) = false := decide_eq_false a1
      go_enter Try.func34, Try.ntmps34
      go_wp2_with fail
      refine (unhide K1).mono ?_
      rintro e w2 ⟨rfl, hw⟩
      rw [hw]
      clear hw K1
      go_wp2_with fail
      refine (unhide K2).mono ?_
      rintro e w2 ⟨rfl, hw⟩
      rw [hw]
      clear hw K2
      go_wp2
      go_ret
      exact ⟨rfl, rfl⟩
set_option maxHeartbeats 1000000 in
set_option maxRecDepth 100000 in
theorem run1_any (w : World) (s : ByteArray) (hs : s.size ≤ 20000) :
    Calls Try.prog 30 #[.string s, .func (.func 31) #[] #[]] w fun e w' => e = .returned (.int .i64 ((runL isB s.data.toList : Nat) : Int)) ∧ w' = w := by
  go_enter Try.func30, Try.ntmps30
  go_wp2_with fail
  go_loopw [5] (fun i wr => ∃ k : Nat, k ≤ s.size ∧ i = .int .i64 k ∧ Hid (0 + runL isB (s.data.toList.drop 0) = k + runL isB (s.data.toList.drop k)) ∧ wr = w) (fun i _ => s.size - (intOf i).toNat)
  case atStart => exact ⟨0, Nat.zero_le _, rfl, hide rfl, rfl⟩
  case round =>
    obtain ⟨k, hk, rfl, hr, hw⟩ := hrel
    subst hw
    by_cases hlt : k < s.size
    · have KI := hide (blankC_any wr (s[k]'hlt))
      have RM := hide (run_more (p := isB) (a := 0) hlt)
      have RH := hide (run_here (p := isB) (a := 0) hlt)
      generalize isB (s[k]'hlt) = o at *
      have i1 : (k : Int) < (s.size : Int) := by omega
      cases o with
      | true =>
        have RM2 := hide (unhide RM rfl (unhide hr))
        clear RM RH hr
        go_wp2_with fail
        refine (unhide KI).mono ?_
        rintro e w2 ⟨rfl, hw⟩
        rw [hw]
        clear hw KI
        go_wp2
        go_roundw
        case rel => exact ⟨k + 1, by omega, by go_num, RM2, by first | rfl | trivial⟩
        case measure => simp [intOf]; omega
      | false =>
        have RH2 := unhide RH rfl (unhide hr)
        rw [Nat.zero_add, List.drop_zero] at RH2
        have RH2 := hide RH2
        clear RM RH hr
        go_wp2_with fail
        refine (unhide KI).mono ?_
        rintro e w2 ⟨rfl, hw⟩
        rw [hw]
        clear hw KI
        go_wp2
        go_ret
        rw [unhide RH2]
        exact ⟨rfl, rfl⟩
    · have RO := run_over (p := isB) (a := 0) (Nat.le_of_not_lt hlt) (unhide hr)
      rw [Nat.zero_add, List.drop_zero] at RO
      have RO := hide RO
      clear hr
      have d1 : decide ((k : Int) < (s.size : Int)) = false := decide_eq_false (by omega)
      go_wp2
      go_ret
      rw [unhide RO]
      exact ⟨rfl, rfl⟩
set_option maxHeartbeats 1000000 in
set_option maxRecDepth 100000 in
theorem run2_any (w : World) (s : ByteArray) (hs : s.size ≤ 20000) :
    Calls Try.prog 30 #[.string s, .func (.func 33) #[] #[]] w fun e w' => e = .returned (.int .i64 ((runL noL s.data.toList : Nat) : Int)) ∧ w' = w := by
  go_enter Try.func30, Try.ntmps30
  go_wp2_with fail
  go_loopw [5] (fun i wr => ∃ k : Nat, k ≤ s.size ∧ i = .int .i64 k ∧ Hid (0 + runL noL (s.data.toList.drop 0) = k + runL noL (s.data.toList.drop k)) ∧ wr = w) (fun i _ => s.size - (intOf i).toNat)
  case atStart => exact ⟨0, Nat.zero_le _, rfl, hide rfl, rfl⟩
  case round =>
    obtain ⟨k, hk, rfl, hr, hw⟩ := hrel
    subst hw
    by_cases hlt : k < s.size
    · have KI := hide (lineC_any wr (s[k]'hlt))
      have RM := hide (run_more (p := noL) (a := 0) hlt)
      have RH := hide (run_here (p := noL) (a := 0) hlt)
      generalize noL (s[k]'hlt) = o at *
      have i1 : (k : Int) < (s.size : Int) := by omega
      cases o with
      | true =>
        have RM2 := hide (unhide RM rfl (unhide hr))
        clear RM RH hr
        go_wp2_with fail
        refine (unhide KI).mono ?_
        rintro e w2 ⟨rfl, hw⟩
        rw [hw]
        clear hw KI
        go_wp2
        go_roundw
        case rel => exact ⟨k + 1, by omega, by go_num, RM2, by first | rfl | trivial⟩
        case measure => simp [intOf]; omega
      | false =>
        have RH2 := unhide RH rfl (unhide hr)
        rw [Nat.zero_add, List.drop_zero] at RH2
        have RH2 := hide RH2
        clear RM RH hr
        go_wp2_with fail
        refine (unhide KI).mono ?_
        rintro e w2 ⟨rfl, hw⟩
        rw [hw]
        clear hw KI
        go_wp2
        go_ret
        rw [unhide RH2]
        exact ⟨rfl, rfl⟩
    · have RO := run_over (p := noL) (a := 0) (Nat.le_of_not_lt hlt) (unhide hr)
      rw [Nat.zero_add, List.drop_zero] at RO
      have RO := hide RO
      clear hr
      have d1 : decide ((k : Int) < (s.size : Int)) = false := decide_eq_false (by omega)
      go_wp2
      go_ret
      rw [unhide RO]
      exact ⟨rfl, rfl⟩
set_option maxHeartbeats 1000000 in
set_option maxRecDepth 100000 in
theorem run3_any (w : World) (s : ByteArray) (hs : s.size ≤ 20000) :
    Calls Try.prog 30 #[.string s, .func (.func 34) #[] #[]] w fun e w' => e = .returned (.int .i64 ((runL isW s.data.toList : Nat) : Int)) ∧ w' = w := by
  go_enter Try.func30, Try.ntmps30
  go_wp2_with fail
  go_loopw [5] (fun i wr => ∃ k : Nat, k ≤ s.size ∧ i = .int .i64 k ∧ Hid (0 + runL isW (s.data.toList.drop 0) = k + runL isW (s.data.toList.drop k)) ∧ wr = w) (fun i _ => s.size - (intOf i).toNat)
  case atStart => exact ⟨0, Nat.zero_le _, rfl, hide rfl, rfl⟩
  case round =>
    obtain ⟨k, hk, rfl, hr, hw⟩ := hrel
    subst hw
    by_cases hlt : k < s.size
    · have KI := hide (wordC_any wr (s[k]'hlt))
      have RM := hide (run_more (p := isW) (a := 0) hlt)
      have RH := hide (run_here (p := isW) (a := 0) hlt)
      generalize isW (s[k]'hlt) = o at *
      have i1 : (k : Int) < (s.size : Int) := by omega
      cases o with
      | true =>
        have RM2 := hide (unhide RM rfl (unhide hr))
        clear RM RH hr
        go_wp2_with fail
        refine (unhide KI).mono ?_
        rintro e w2 ⟨rfl, hw⟩
        rw [hw]
        clear hw KI
        go_wp2
        go_roundw
        case rel => exact ⟨k + 1, by omega, by go_num, RM2, by first | rfl | trivial⟩
        case measure => simp [intOf]; omega
      | false =>
        have RH2 := unhide RH rfl (unhide hr)
        rw [Nat.zero_add, List.drop_zero] at RH2
        have RH2 := hide RH2
        clear RM RH hr
        go_wp2_with fail
        refine (unhide KI).mono ?_
        rintro e w2 ⟨rfl, hw⟩
        rw [hw]
        clear hw KI
        go_wp2
        go_ret
        rw [unhide RH2]
        exact ⟨rfl, rfl⟩
    · have RO := run_over (p := isW) (a := 0) (Nat.le_of_not_lt hlt) (unhide hr)
      rw [Nat.zero_add, List.drop_zero] at RO
      have RO := hide RO
      clear hr
      have d1 : decide ((k : Int) < (s.size : Int)) = false := decide_eq_false (by omega)
      go_wp2
      go_ret
      rw [unhide RO]
      exact ⟨rfl, rfl⟩
end Go.Proofs.Ytoikdjbgeebadaa.toks
/- The walk of the document's answer: how many bytes of each kind stand at the front. -/
set_option linter.unusedVariables false
namespace Go.Proofs.Ytoikdjbgeebadaa.toks
open Go.RowKit

/-- Eight numbers as cells. -/
def c8 (x1 x2 x3 x4 x5 x6 : Nat) : Array Value := #[.int .i64 0, .int .i64 (x1 : Int), .int .i64 (x2 : Int), .int .i64 (x3 : Int), .int .i64 (x4 : Int), .int .i64 (x5 : Int), .int .i64 (x6 : Int), .int .i64 0]
/-- The block of the numbers, the block of the answer. -/
structure F8 (w W : World) (x1 x2 x3 x4 x5 x6 : Nat) : Prop where
  now : Blk W (w.heap.size + 1) (c8 x1 x2 x3 x4 x5 x6) 53
  out : Blk W w.heap.size (c8 0 0 0 0 0 0) 53
  bel : Below w.heap.size w W
theorem F8.set1 {w W : World} {x1 x2 x3 x4 x5 x6 : Nat} (h : F8 w W x1 x2 x3 x4 x5 x6) (v : Nat) : F8 w (W.setCell ⟨w.heap.size + 1, 1, none⟩ (.int .i64 (v : Int))) v x2 x3 x4 x5 x6 :=
  ⟨by simpa [c8] using h.now.set 1 (.int .i64 (v : Int)), h.out.set_other ⟨w.heap.size + 1, 1, none⟩ _ (by simp), h.bel.setCell (p := ⟨w.heap.size + 1, 1, none⟩) (Nat.le_succ _) _⟩
theorem F8.set2 {w W : World} {x1 x2 x3 x4 x5 x6 : Nat} (h : F8 w W x1 x2 x3 x4 x5 x6) (v : Nat) : F8 w (W.setCell ⟨w.heap.size + 1, 2, none⟩ (.int .i64 (v : Int))) x1 v x3 x4 x5 x6 :=
  ⟨by simpa [c8] using h.now.set 2 (.int .i64 (v : Int)), h.out.set_other ⟨w.heap.size + 1, 2, none⟩ _ (by simp), h.bel.setCell (p := ⟨w.heap.size + 1, 2, none⟩) (Nat.le_succ _) _⟩
theorem F8.set3 {w W : World} {x1 x2 x3 x4 x5 x6 : Nat} (h : F8 w W x1 x2 x3 x4 x5 x6) (v : Nat) : F8 w (W.setCell ⟨w.heap.size + 1, 3, none⟩ (.int .i64 (v : Int))) x1 x2 v x4 x5 x6 :=
  ⟨by simpa [c8] using h.now.set 3 (.int .i64 (v : Int)), h.out.set_other ⟨w.heap.size + 1, 3, none⟩ _ (by simp), h.bel.setCell (p := ⟨w.heap.size + 1, 3, none⟩) (Nat.le_succ _) _⟩
theorem F8.set4 {w W : World} {x1 x2 x3 x4 x5 x6 : Nat} (h : F8 w W x1 x2 x3 x4 x5 x6) (v : Nat) : F8 w (W.setCell ⟨w.heap.size + 1, 4, none⟩ (.int .i64 (v : Int))) x1 x2 x3 v x5 x6 :=
  ⟨by simpa [c8] using h.now.set 4 (.int .i64 (v : Int)), h.out.set_other ⟨w.heap.size + 1, 4, none⟩ _ (by simp), h.bel.setCell (p := ⟨w.heap.size + 1, 4, none⟩) (Nat.le_succ _) _⟩
theorem F8.set5 {w W : World} {x1 x2 x3 x4 x5 x6 : Nat} (h : F8 w W x1 x2 x3 x4 x5 x6) (v : Nat) : F8 w (W.setCell ⟨w.heap.size + 1, 5, none⟩ (.int .i64 (v : Int))) x1 x2 x3 x4 v x6 :=
  ⟨by simpa [c8] using h.now.set 5 (.int .i64 (v : Int)), h.out.set_other ⟨w.heap.size + 1, 5, none⟩ _ (by simp), h.bel.setCell (p := ⟨w.heap.size + 1, 5, none⟩) (Nat.le_succ _) _⟩
theorem F8.set6 {w W : World} {x1 x2 x3 x4 x5 x6 : Nat} (h : F8 w W x1 x2 x3 x4 x5 x6) (v : Nat) : F8 w (W.setCell ⟨w.heap.size + 1, 6, none⟩ (.int .i64 (v : Int))) x1 x2 x3 x4 x5 v :=
  ⟨by simpa [c8] using h.now.set 6 (.int .i64 (v : Int)), h.out.set_other ⟨w.heap.size + 1, 6, none⟩ _ (by simp), h.bel.setCell (p := ⟨w.heap.size + 1, 6, none⟩) (Nat.le_succ _) _⟩
theorem f8_start (w : World) : F8 w ((w.alloc (.cells #[.int .i64 0, .int .i64 0, .int .i64 0, .int .i64 0, .int .i64 0, .int .i64 0, .int .i64 0, .int .i64 0] 53)).alloc (.cells #[.int .i64 0, .int .i64 0, .int .i64 0, .int .i64 0, .int .i64 0, .int .i64 0, .int .i64 0, .int .i64 0] 53)) 0 0 0 0 0 0 := by
  have b1 := blk_alloc w (c8 0 0 0 0 0 0) 53
  have b2 := blk_alloc (w.alloc (.cells (c8 0 0 0 0 0 0) 53)) (c8 0 0 0 0 0 0) 53
  have e : (w.alloc (.cells (c8 0 0 0 0 0 0) 53)).heap.size = w.heap.size + 1 := by simp
  rw [e] at b2
  exact ⟨b2, b1.alloc _, ((Below.refl _ w).alloc (Nat.le_refl _) _).alloc (by simp) _⟩
theorem F8.cells {w W : World} {x1 x2 x3 x4 x5 x6 : Nat} (h : F8 w W x1 x2 x3 x4 x5 x6) :
    (W.cell? ⟨w.heap.size + 1, 1, none⟩ = some (.int .i64 (x1 : Int)) ∧ W.frozen? ⟨w.heap.size + 1, 1, none⟩ = false) ∧
    (W.cell? ⟨w.heap.size + 1, 2, none⟩ = some (.int .i64 (x2 : Int)) ∧ W.frozen? ⟨w.heap.size + 1, 2, none⟩ = false) ∧
    (W.cell? ⟨w.heap.size + 1, 3, none⟩ = some (.int .i64 (x3 : Int)) ∧ W.frozen? ⟨w.heap.size + 1, 3, none⟩ = false) ∧
    (W.cell? ⟨w.heap.size + 1, 4, none⟩ = some (.int .i64 (x4 : Int)) ∧ W.frozen? ⟨w.heap.size + 1, 4, none⟩ = false) ∧
    (W.cell? ⟨w.heap.size + 1, 5, none⟩ = some (.int .i64 (x5 : Int)) ∧ W.frozen? ⟨w.heap.size + 1, 5, none⟩ = false) ∧
    (W.cell? ⟨w.heap.size + 1, 6, none⟩ = some (.int .i64 (x6 : Int)) ∧ W.frozen? ⟨w.heap.size + 1, 6, none⟩ = false) :=
  ⟨⟨h.now.cell 1 _ rfl, h.now.froz 1⟩, ⟨h.now.cell 2 _ rfl, h.now.froz 2⟩, ⟨h.now.cell 3 _ rfl, h.now.froz 3⟩, ⟨h.now.cell 4 _ rfl, h.now.froz 4⟩, ⟨h.now.cell 5 _ rfl, h.now.froz 5⟩, ⟨h.now.cell 6 _ rfl, h.now.froz 6⟩⟩
theorem eval_tmp (a : Act) (x : Nat) : a.eval (.tmp x) = a.tmps[x]?.getD undef := by simp [Act.eval]
theorem eval_put_ne {a : Act} {d k : Nat} {v : Value} (h : k ≠ d) : (a.put (some d) v).eval (.tmp k) = a.eval (.tmp k) := by
  simp [Act.put, Act.eval, Ne.symm h]
theorem eval_put_eq {a : Act} {d : Nat} {v : Value} (h : d < a.tmps.size) : (a.put (some d) v).eval (.tmp d) = v := by
  simp [Act.put, Act.eval, h]
theorem wpList_run {P : Program} {ops : Array Oper} {Q : Exit → Act → World → Prop} {a : Act} {w : World} {rest : List Oper} {o : Oper} (hg : o.guard = none) (h : o.wp P a w (wpList P ops Q rest) Q) : wpList P ops Q (o :: rest) a w := by
  unfold wpList
  have e : Region.wanted o (yielded ops a.tmps) = true := by simp [Region.wanted, hg]
  simp only [e, if_true]
  exact .inl h
set_option maxRecDepth 100000 in
theorem run_load8 (a : Act) (w : World) (K : Act → World → Prop) (Q : Exit → Act → World → Prop) (o : Oper) (x b : Nat) (v0 v1 v2 v3 v4 v5 v6 v7 : Value) (hx : a.tmps[x]?.getD undef = .pointer (some ⟨b, 0, none⟩)) (bk : Blk w b #[v0, v1, v2, v3, v4, v5, v6, v7] 53) (ho : o.op = .load 53 (.tmp x)) (h : K (a.put o.dst (.agg #[v0, v1, v2, v3, v4, v5, v6, v7])) w) : o.wp Try.prog a w K Q := by
  have c0 := bk.cell 0 _ rfl
  have c1 := bk.cell 1 _ rfl
  have c2 := bk.cell 2 _ rfl
  have c3 := bk.cell 3 _ rfl
  have c4 := bk.cell 4 _ rfl
  have c5 := bk.cell 5 _ rfl
  have c6 := bk.cell 6 _ rfl
  have c7 := bk.cell 7 _ rfl
  clear bk
  unfold Oper.wp execOp
  rw [ho]
  go_simp
  exact h
set_option maxRecDepth 100000 in
theorem run_store8 (a : Act) (w : World) (K : Act → World → Prop) (Q : Exit → Act → World → Prop) (o : Oper) (x y b : Nat) (u0 u1 u2 u3 u4 u5 u6 u7 : Value) (v0 v1 v2 v3 v4 v5 v6 v7 : Int) (hx : a.tmps[x]?.getD undef = .pointer (some ⟨b, 0, none⟩)) (hy : a.tmps[y]?.getD undef = .agg #[.int .i64 v0, .int .i64 v1, .int .i64 v2, .int .i64 v3, .int .i64 v4, .int .i64 v5, .int .i64 v6, .int .i64 v7]) (bk : Blk w b #[u0, u1, u2, u3, u4, u5, u6, u7] 53) (ho : o.op = .store 53 (.tmp x) (.tmp y))
    (h : K (a.put o.dst undef) ((((((((w.setCell ⟨b, 0, none⟩ (.int .i64 v0)).setCell ⟨b, 1, none⟩ (.int .i64 v1)).setCell ⟨b, 2, none⟩ (.int .i64 v2)).setCell ⟨b, 3, none⟩ (.int .i64 v3)).setCell ⟨b, 4, none⟩ (.int .i64 v4)).setCell ⟨b, 5, none⟩ (.int .i64 v5)).setCell ⟨b, 6, none⟩ (.int .i64 v6)).setCell ⟨b, 7, none⟩ (.int .i64 v7))) : o.wp Try.prog a w K Q := by
  have c0 := bk.cell 0 _ rfl
  have c1 := bk.cell 1 _ rfl
  have c2 := bk.cell 2 _ rfl
  have c3 := bk.cell 3 _ rfl
  have c4 := bk.cell 4 _ rfl
  have c5 := bk.cell 5 _ rfl
  have c6 := bk.cell 6 _ rfl
  have c7 := bk.cell 7 _ rfl
  have z0 := bk.froz 0
  have z1 := bk.froz 1
  have z2 := bk.froz 2
  have z3 := bk.froz 3
  have z4 := bk.froz 4
  have z5 := bk.froz 5
  have z6 := bk.froz 6
  have z7 := bk.froz 7
  clear bk
  unfold Oper.wp execOp
  rw [ho]
  go_simp
  exact h
set_option maxRecDepth 100000 in
theorem last8 {a : Act} {w W : World} {Q : Exit → Act → World → Prop} (p1 p2 : String) (x y d : Nat) (x1 x2 x3 x4 x5 x6 : Nat) (hd : d < a.tmps.size) (hy : y ≠ d)
    (hx : a.tmps[x]?.getD undef = .pointer (some ⟨w.heap.size + 1, 0, none⟩)) (hz : a.tmps[y]?.getD undef = .pointer (some ⟨w.heap.size, 0, none⟩)) (f : F8 w W x1 x2 x3 x4 x5 x6)
    (h : ∀ w', Below w.heap.size w w' → Blk w' w.heap.size (c8 x1 x2 x3 x4 x5 x6) 53 → Q .normal (a.put (some d) (.agg (c8 x1 x2 x3 x4 x5 x6))) w') (id : Nat) (tt t0 : TypeId) (e1 e2 : Array Edge) :
    Code.wp Try.prog (Code.region id #[{ dst := some d, op := Op.load 53 (Operand.tmp x), type := tt, pos := p1, after := e1, guard := none }, { dst := none, op := Op.store 53 (Operand.tmp y) (Operand.tmp d), type := t0, pos := p2, after := e2, guard := none }] false) Q a W := by
  refine wp_region_list (wpList_run rfl (run_load8 a W _ Q _ x _ _ _ _ _ _ _ _ _ hx f.now rfl (wpList_run rfl (run_store8 _ W _ Q _ y d _ _ _ _ _ _ _ _ _ 0 x1 x2 x3 x4 x5 x6 0 ?_ ?_ f.out rfl ?_))))
  · rw [← eval_tmp, eval_put_ne hy, eval_tmp]
    exact hz
  · rw [← eval_tmp, eval_put_eq hd]
  · refine h _ ?_ ?_
    · exact (((((((f.bel.setCell (p := ⟨w.heap.size, 0, none⟩) (Nat.le_refl _) _).setCell (p := ⟨w.heap.size, 1, none⟩) (Nat.le_refl _) _).setCell (p := ⟨w.heap.size, 2, none⟩) (Nat.le_refl _) _).setCell (p := ⟨w.heap.size, 3, none⟩) (Nat.le_refl _) _).setCell (p := ⟨w.heap.size, 4, none⟩) (Nat.le_refl _) _).setCell (p := ⟨w.heap.size, 5, none⟩) (Nat.le_refl _) _).setCell (p := ⟨w.heap.size, 6, none⟩) (Nat.le_refl _) _).setCell (p := ⟨w.heap.size, 7, none⟩) (Nat.le_refl _) _
    · have := (((((((f.out.set 0 (.int .i64 0)).set 1 (.int .i64 (x1 : Int))).set 2 (.int .i64 (x2 : Int))).set 3 (.int .i64 (x3 : Int))).set 4 (.int .i64 (x4 : Int))).set 5 (.int .i64 (x5 : Int))).set 6 (.int .i64 (x6 : Int))).set 7 (.int .i64 0)
      simpa [c8] using this
theorem markT_any (w : World) (c : UInt8) :
    Calls Try.prog 32 #[.int .u8 (c.toNat : Int), .string ⟨#[123, 125, 91, 93, 58, 61, 44]⟩] w fun e w' => e = .returned (.bool (isM c)) ∧ w' = w := by
  have := oneOf_any w c ⟨#[123, 125, 91, 93, 58, 61, 44]⟩ (by decide)
  rwa [one_mark] at this
end Go.Proofs.Ytoikdjbgeebadaa.toks
