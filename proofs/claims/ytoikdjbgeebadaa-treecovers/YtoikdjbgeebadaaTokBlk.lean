/- Blocks, and what the cutter of a text keeps. -/
import Derived.Test.YtoikdjbgeebadaaProg
import Derived.Test.YtoikdjbgeebadaaTokWay
import Derived.WalkKit
import Derived.WalkSmall
import Derived.OwnWalk
import Derived.BigCall
import Derived.Maps.AppendAt
import Derived.Deep.AppendLies
import Derived.Laws.OwnMore
import Derived.Below
import Derived.Deep.QuietTactic
import Derived.BigQuiet
set_option linter.unusedVariables false
namespace Go.Proofs.Ytoikdjbgeebadaa.toks
open Go.RowKit

theorem hide {p : Prop} (h : p) : Hid p := h
theorem unhide {p : Prop} (h : Hid p) : p := h
theorem len_list (s : ByteArray) : s.data.toList.length = s.size := by rw [Array.length_toList]; rfl
theorem ext_list (s : ByteArray) (a b : Nat) : (s.extract a b).data.toList = (s.data.toList.take b).drop a := by
  rw [ByteArray.data_extract, Array.toList_extract, List.extract_eq_take_drop, List.drop_take]
theorem ext_drop (s : ByteArray) (k : Nat) : (s.extract k s.size).data.toList = s.data.toList.drop k := by
  rw [ext_list, ← len_list s, List.take_length]
theorem ext_take (s : ByteArray) (k : Nat) : (s.extract 0 k).data.toList = s.data.toList.take k := by
  rw [ext_list, List.drop_zero]
theorem byte_at (s : ByteArray) (k : Nat) (h : k < s.size) : s.data.toList[k]'(by rw [len_list]; exact h) = s[k]'h := rfl
theorem size_mk (x : List UInt8) : (⟨x.toArray⟩ : ByteArray).size = x.length := by simp [ByteArray.size]

def Blk (w : World) (b : Nat) (cs : Array Value) (t : Nat) : Prop := w.heap[b]? = some (.cells cs t)
theorem Blk.lt {w : World} {b : Nat} {cs : Array Value} {t : Nat} (h : Blk w b cs t) : b < w.heap.size := by
  unfold Blk at h
  exact (Array.getElem?_eq_some_iff.1 h).1
theorem Blk.below {w w' : World} {b : Nat} {cs : Array Value} {t : Nat} (h : Blk w b cs t) (hb : Below w.heap.size w w') : Blk w' b cs t := by
  have := hb.block b h.lt
  unfold Blk at *
  rw [this, h]
theorem blk_alloc (w : World) (cs : Array Value) (t : Nat) : Blk (w.alloc (.cells cs t)) w.heap.size cs t := by
  show (w.heap.push _)[w.heap.size]? = _
  simp
theorem Blk.cell {w : World} {b : Nat} {cs : Array Value} {t : Nat} (h : Blk w b cs t) (j : Nat) (v : Value) (hj : cs[j]? = some v) : w.cell? ⟨b, j, none⟩ = some v := by
  unfold Blk at h
  simp only [World.cell?, h]
  exact hj
theorem Blk.froz {w : World} {b : Nat} {cs : Array Value} {t : Nat} (h : Blk w b cs t) (j : Nat) : w.frozen? ⟨b, j, none⟩ = false := by
  unfold Blk at h
  simp [World.frozen?, h]
theorem Blk.set {w : World} {b : Nat} {cs : Array Value} {t : Nat} (h : Blk w b cs t) (j : Nat) (v : Value) : Blk (w.setCell ⟨b, j, none⟩ v) b (cs.setIfInBounds j v) t := by
  unfold Blk at *
  simp only [World.setCell, Array.getElem?_modify, h]
  simp
theorem Blk.set_other {w : World} {b : Nat} {cs : Array Value} {t : Nat} (h : Blk w b cs t) (p : Addr) (v : Value) (hp : b ≠ p.block) : Blk (w.setCell p v) b cs t := by
  unfold Blk at *
  rw [Below.heap_setCell _ _ _ _ hp, h]
theorem Blk.alloc {w : World} {b : Nat} {cs : Array Value} {t : Nat} (h : Blk w b cs t) (o : Obj) : Blk (w.alloc o) b cs t := by
  unfold Blk at *
  rw [Below.heap_alloc _ _ _ (Blk.lt h), h]
theorem Blk.grown {w w' : World} {b : Nat} {cs : Array Value} {t : Nat} {r : Option Nat} (h : Blk w b cs t) (hg : w.grownBy w' r) (hr : some b ≠ r) : Blk w' b cs t := by
  have := hg.block b h.lt hr
  unfold Blk at *
  rw [this, h]
theorem grown_refl (w : World) (r : Option Nat) : w.grownBy w r := ⟨rfl, rfl, rfl, Nat.le_refl _, fun _ _ _ => rfl⟩
theorem grown_set (w : World) (B j : Nat) (v : Value) : w.grownBy (w.setCell ⟨B, j, none⟩ v) (some B) :=
  ⟨rfl, rfl, rfl, by simp [World.setCell], fun k _ hk => Below.heap_setCell _ _ _ _ (fun e => hk (by rw [e]))⟩
theorem grown_trans {w w1 w2 : World} {r : Option Nat} (h : w.grownBy w1 r) (g : w1.grownBy w2 r) : w.grownBy w2 r :=
  ⟨g.os.trans h.os, g.tape.trans h.tape, g.output.trans h.output, Nat.le_trans h.size g.size, fun k hk hr => (g.block k (Nat.lt_of_lt_of_le hk h.size) hr).trans (h.block k hk hr)⟩
theorem grown_drew {w w' : World} {r : Option Nat} (h : w.grownBy w' r) : w.grownBy w'.drew r := ⟨h.os, h.tape, h.output, h.size, h.block⟩
/-- The cutter of a text: what it keeps. -/
def Ctr (w : World) (B : Nat) (s : ByteArray) (m : Nat) (b : Bool) : Prop := Blk w B #[.string s, .int .i64 (m : Int), .bool b] 56
/-- The library's variable holds some number. -/
def MaxOk (w : World) : Prop := ∃ x : Int, w.cell? ⟨0, 0, none⟩ = some (.int .i64 x)
theorem MaxOk.lt {w : World} (h : MaxOk w) : 0 < w.heap.size := by
  obtain ⟨x, hx⟩ := h
  exact World.block_lt_of_cell? w _ hx
theorem MaxOk.below {w w' : World} {B : Nat} (h : MaxOk w) (hB : w.heap.size ≤ B) (hb : Below B w w') : MaxOk w' := by
  have := h.lt
  obtain ⟨x, hx⟩ := h
  exact ⟨x, by rw [hb.cell (p := ⟨0, 0, none⟩) (Nat.lt_of_lt_of_le this hB)]; exact hx⟩
theorem MaxOk.grown {w w' : World} {B : Nat} (h : MaxOk w) (hg : w.grownBy w' (some B)) (hB : 0 < B) : MaxOk w' := by
  obtain ⟨x, hx⟩ := h
  exact ⟨x, hg.cell hx (fun e => by injection e with e; exact absurd e (Nat.ne_of_lt hB))⟩

theorem byteN {c : UInt8} {k : Nat} (hk : k < 256) : (c == k.toUInt8) = ((c.toNat : Int) == (k : Int)) := by
  rw [Bool.eq_iff_iff, beq_iff_eq, beq_iff_eq]
  constructor
  · intro e; rw [e]; simp [Nat.toUInt8]; omega
  · intro e
    apply UInt8.toNat_inj.1
    have : c.toNat = k := by omega
    rw [this]; simp [Nat.toUInt8]; omega
theorem isB_int (c : UInt8) : isB c = ((c.toNat : Int) == 32 || (c.toNat : Int) == 9 || (c.toNat : Int) == 13) := by
  have h1 := @byteN c 32 (by decide)
  have h2 := @byteN c 9 (by decide)
  have h3 := @byteN c 13 (by decide)
  exact congr (congrArg or (congr (congrArg or h1) h2)) h3
theorem isM_int (c : UInt8) : isM c = ((c.toNat : Int) == 123 || (c.toNat : Int) == 125 || (c.toNat : Int) == 91 || (c.toNat : Int) == 93 || (c.toNat : Int) == 58 || (c.toNat : Int) == 61 || (c.toNat : Int) == 44) := by
  have h1 := @byteN c 123 (by decide)
  have h2 := @byteN c 125 (by decide)
  have h3 := @byteN c 91 (by decide)
  have h4 := @byteN c 93 (by decide)
  have h5 := @byteN c 58 (by decide)
  have h6 := @byteN c 61 (by decide)
  have h7 := @byteN c 44 (by decide)
  exact congr (congrArg or (congr (congrArg or (congr (congrArg or (congr (congrArg or (congr (congrArg or (congr (congrArg or h1) h2)) h3)) h4)) h5)) h6)) h7
set_option maxHeartbeats 2000000 in
theorem isBlank_any (w : World) (c : UInt8) :
    Calls Try.prog 36 #[.int .u8 (c.toNat : Int)] w fun e w' => e = .returned (.bool (isB c)) ∧ w' = w := by
  rw [isB_int]
  generalize (c.toNat : Int) = n
  cases h1 : n == 32 <;> cases h2 : n == 9 <;> cases h3 : n == 13
  all_goals
    go_enter Try.func36, Try.ntmps36
    go_wp2
    go_ret
    exact ⟨rfl, rfl⟩
set_option maxHeartbeats 4000000 in
theorem isMark_any (w : World) (c : UInt8) :
    Calls Try.prog 40 #[.int .u8 (c.toNat : Int)] w fun e w' => e = .returned (.bool (isM c)) ∧ w' = w := by
  rw [isM_int]
  generalize (c.toNat : Int) = n
  cases h1 : n == 123
  case true => go_enter Try.func40, Try.ntmps40; go_wp2; go_ret; exact ⟨rfl, rfl⟩
  cases h2 : n == 125
  case true => go_enter Try.func40, Try.ntmps40; go_wp2; go_ret; exact ⟨rfl, rfl⟩
  cases h3 : n == 91
  case true => go_enter Try.func40, Try.ntmps40; go_wp2; go_ret; exact ⟨rfl, rfl⟩
  cases h4 : n == 93
  case true => go_enter Try.func40, Try.ntmps40; go_wp2; go_ret; exact ⟨rfl, rfl⟩
  cases h5 : n == 58
  case true => go_enter Try.func40, Try.ntmps40; go_wp2; go_ret; exact ⟨rfl, rfl⟩
  cases h6 : n == 61
  case true => go_enter Try.func40, Try.ntmps40; go_wp2; go_ret; exact ⟨rfl, rfl⟩
  cases h7 : n == 44
  case true => go_enter Try.func40, Try.ntmps40; go_wp2; go_ret; exact ⟨rfl, rfl⟩
  go_enter Try.func40, Try.ntmps40; go_wp2; go_ret; exact ⟨rfl, rfl⟩
set_option maxHeartbeats 4000000 in
theorem inWord_any (w : World) (c : UInt8) :
    Calls Try.prog 39 #[.int .u8 (c.toNat : Int)] w fun e w' => e = .returned (.bool (isW c)) ∧ w' = w := by
  have key : ∀ b : Bool, isW c = b → Calls Try.prog 39 #[.int .u8 (c.toNat : Int)] w (fun e w' => e = .returned (.bool b) ∧ w' = w) → Calls Try.prog 39 #[.int .u8 (c.toNat : Int)] w (fun e w' => e = .returned (.bool (isW c)) ∧ w' = w) := fun b e h => by rw [e]; exact h
  have yes : (((97 : Int) ≤ (c.toNat : Int) ∧ (c.toNat : Int) ≤ 122) ∨ ((65 : Int) ≤ (c.toNat : Int) ∧ (c.toNat : Int) ≤ 90) ∨ ((48 : Int) ≤ (c.toNat : Int) ∧ (c.toNat : Int) ≤ 57) ∨ (c.toNat : Int) = 95 ∨ (c.toNat : Int) = 45 ∨ (c.toNat : Int) = 43 ∨ (c.toNat : Int) = 46) → isW c = true := fun h => decide_eq_true (by omega)
  have no : ¬ (((97 : Int) ≤ (c.toNat : Int) ∧ (c.toNat : Int) ≤ 122) ∨ ((65 : Int) ≤ (c.toNat : Int) ∧ (c.toNat : Int) ≤ 90) ∨ ((48 : Int) ≤ (c.toNat : Int) ∧ (c.toNat : Int) ≤ 57) ∨ (c.toNat : Int) = 95 ∨ (c.toNat : Int) = 45 ∨ (c.toNat : Int) = 43 ∨ (c.toNat : Int) = 46) → isW c = false := fun h => decide_eq_false (by omega)
  generalize isW c = r at *
  generalize (c.toNat : Int) = n at *
  by_cases e1 : n = 95
  · refine key true (yes (by omega)) ?_
    clear key yes no
    subst e1
    go_enter Try.func39, Try.ntmps39; go_wp2; go_ret; exact ⟨rfl, rfl⟩
  by_cases e2 : n = 45
  · refine key true (yes (by omega)) ?_
    clear key yes no
    subst e2
    go_enter Try.func39, Try.ntmps39; go_wp2; go_ret; exact ⟨rfl, rfl⟩
  by_cases e3 : n = 43
  · refine key true (yes (by omega)) ?_
    clear key yes no
    subst e3
    go_enter Try.func39, Try.ntmps39; go_wp2; go_ret; exact ⟨rfl, rfl⟩
  by_cases e4 : n = 46
  · refine key true (yes (by omega)) ?_
    clear key yes no
    subst e4
    go_enter Try.func39, Try.ntmps39; go_wp2; go_ret; exact ⟨rfl, rfl⟩
  have i1 : (n == 95) = false := beq_false_of_ne e1
  have i2 : (n == 45) = false := beq_false_of_ne e2
  have i3 : (n == 43) = false := beq_false_of_ne e3
  have i4 : (n == 46) = false := beq_false_of_ne e4
  by_cases a1 : 97 ≤ n
  · have d1 : decide (97 ≤ n) = true := decide_eq_true a1
    by_cases a2 : n ≤ 122
    · refine key true (yes (by omega)) ?_
      clear key yes no
      go_enter Try.func39, Try.ntmps39; go_wp2; go_ret; exact ⟨rfl, rfl⟩
    · refine key false (no (by omega)) ?_
      clear key yes no
      have d2 : decide (n ≤ 122) = false := decide_eq_false a2
      have a3 : 65 ≤ n := by omega
      have a4 : ¬ n ≤ 90 := by omega
      have a5 : 48 ≤ n := by omega
      have a6 : ¬ n ≤ 57 := by omega
      go_enter Try.func39, Try.ntmps39; go_wp2; go_ret; exact ⟨rfl, rfl⟩
  · have d1 : decide (97 ≤ n) = false := decide_eq_false a1
    by_cases a3 : 65 ≤ n
    · by_cases a4 : n ≤ 90
      · refine key true (yes (by omega)) ?_
        clear key yes no
        go_enter Try.func39, Try.ntmps39; go_wp2; go_ret; exact ⟨rfl, rfl⟩
      · refine key false (no (by omega)) ?_
        clear key yes no
        have a5 : 48 ≤ n := by omega
        have a6 : ¬ n ≤ 57 := by omega
        go_enter Try.func39, Try.ntmps39; go_wp2; go_ret; exact ⟨rfl, rfl⟩
    · by_cases a5 : 48 ≤ n
      · by_cases a6 : n ≤ 57
        · refine key true (yes (by omega)) ?_
          clear key yes no
          go_enter Try.func39, Try.ntmps39; go_wp2; go_ret; exact ⟨rfl, rfl⟩
        · refine key false (no (by omega)) ?_
          clear key yes no
          go_enter Try.func39, Try.ntmps39; go_wp2; go_ret; exact ⟨rfl, rfl⟩
      · refine key false (no (by omega)) ?_
        clear key yes no
        go_enter Try.func39, Try.ntmps39; go_wp2; go_ret; exact ⟨rfl, rfl⟩
end Go.Proofs.Ytoikdjbgeebadaa.toks
