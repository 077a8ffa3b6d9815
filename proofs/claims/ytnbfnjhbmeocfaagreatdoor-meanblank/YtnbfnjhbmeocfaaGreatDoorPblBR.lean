/- Of our texts, what this claim reaches. -/
import Derived.Test.YtnbfnjhbmeocfaaGreatDoorProg
import Derived.Test.YtnbfnjhbmeocfaaGreatDoorPblBQ
import Derived.WalkKit
import Derived.WalkSmall
import Derived.OwnWalk
import Derived.BigCall
import Derived.Maps.AppendAt
import Derived.Deep.AppendLies
import Derived.Laws.OwnMore
import Derived.Below
import Derived.Deep.QuietTactic
import Derived.BigQuiet
import Derived.Test.YtnbfnjhbmeocfaaGreatDoorPblAA
set_option linter.unusedVariables false
set_option maxHeartbeats 4000000
set_option maxRecDepth 100000
namespace Go.Proofs.YtnbfnjhbmeocfaaGreatDoor.toks
open Go.RowKit
theorem hide {p : Prop} (h : p) : Hid p := h
theorem unhide {p : Prop} (h : Hid p) : p := h
theorem len_list (s : ByteArray) : s.data.toList.length = s.size := by rw [Array.length_toList]; rfl
theorem ext_list (s : ByteArray) (a b : Nat) : (s.extract a b).data.toList = (s.data.toList.take b).drop a := by
 rw [ByteArray.data_extract, Array.toList_extract, List.extract_eq_take_drop, List.drop_take]
theorem ext_drop (s : ByteArray) (k : Nat) : (s.extract k s.size).data.toList = s.data.toList.drop k := by
 rw [ext_list, ← len_list s, List.take_length]
theorem byte_at (s : ByteArray) (k : Nat) (h : k < s.size) : s.data.toList[k]'(by rw [len_list]; exact h) = s[k]'h := rfl
def Blk (w : World) (b : Nat) (cs : Array Value) (t : Nat) : Prop := w.heap[b]? = some (.cells cs t)
theorem Blk.lt {w : World} {b : Nat} {cs : Array Value} {t : Nat} (h : Blk w b cs t) : b < w.heap.size := by
 unfold Blk at h
 exact (Array.getElem?_eq_some_iff.1 h).1
theorem Blk.below {w w' : World} {b : Nat} {cs : Array Value} {t : Nat} (h : Blk w b cs t) (hb : Below w.heap.size w w') : Blk w' b cs t := by
 have := hb.block b h.lt
 unfold Blk at *
 rw [this, h]
theorem blk_alloc (w : World) (cs : Array Value) (t : Nat) : Blk (w.alloc (.cells cs t)) w.heap.size cs t := by
 show (w.heap.push _)[w.heap.size]? = _
 simp
theorem Blk.cell {w : World} {b : Nat} {cs : Array Value} {t : Nat} (h : Blk w b cs t) (j : Nat) (v : Value) (hj : cs[j]? = some v) : w.cell? ⟨b, j, none⟩ = some v := by
 unfold Blk at h
 simp only [World.cell?, h]
 exact hj
theorem Blk.froz {w : World} {b : Nat} {cs : Array Value} {t : Nat} (h : Blk w b cs t) (j : Nat) : w.frozen? ⟨b, j, none⟩ = false := by
 unfold Blk at h
 simp [World.frozen?, h]
theorem Blk.set {w : World} {b : Nat} {cs : Array Value} {t : Nat} (h : Blk w b cs t) (j : Nat) (v : Value) : Blk (w.setCell ⟨b, j, none⟩ v) b (cs.setIfInBounds j v) t := by
 unfold Blk at *
 simp only [World.setCell, Array.getElem?_modify, h]
 simp
theorem Blk.set_other {w : World} {b : Nat} {cs : Array Value} {t : Nat} (h : Blk w b cs t) (p : Addr) (v : Value) (hp : b ≠ p.block) : Blk (w.setCell p v) b cs t := by
 unfold Blk at *
 rw [Below.heap_setCell _ _ _ _ hp, h]
theorem Blk.alloc {w : World} {b : Nat} {cs : Array Value} {t : Nat} (h : Blk w b cs t) (o : Obj) : Blk (w.alloc o) b cs t := by
 unfold Blk at *
 rw [Below.heap_alloc _ _ _ (Blk.lt h), h]
theorem Blk.grown {w w' : World} {b : Nat} {cs : Array Value} {t : Nat} {r : Option Nat} (h : Blk w b cs t) (hg : w.grownBy w' r) (hr : some b ≠ r) : Blk w' b cs t := by
 have := hg.block b h.lt hr
 unfold Blk at *
 rw [this, h]
theorem grown_refl (w : World) (r : Option Nat) : w.grownBy w r := ⟨rfl, rfl, rfl, Nat.le_refl _, fun _ _ _ => rfl⟩
theorem grown_set (w : World) (B j : Nat) (v : Value) : w.grownBy (w.setCell ⟨B, j, none⟩ v) (some B) :=
 ⟨rfl, rfl, rfl, by simp [World.setCell], fun k _ hk => Below.heap_setCell _ _ _ _ (fun e => hk (by rw [e]))⟩
theorem grown_trans {w w1 w2 : World} {r : Option Nat} (h : w.grownBy w1 r) (g : w1.grownBy w2 r) : w.grownBy w2 r :=
 ⟨g.os.trans h.os, g.tape.trans h.tape, g.output.trans h.output, Nat.le_trans h.size g.size, fun k hk hr => (g.block k (Nat.lt_of_lt_of_le hk h.size) hr).trans (h.block k hk hr)⟩
def Ctr (w : World) (B : Nat) (s : ByteArray) (m : Nat) (b : Bool) : Prop := Blk w B #[.string s, .int .i64 (m : Int), .bool b] 69
def MaxOk (w : World) : Prop := ∃ x : Int, w.cell? ⟨0, 0, none⟩ = some (.int .i64 x)
theorem MaxOk.lt {w : World} (h : MaxOk w) : 0 < w.heap.size := by
 obtain ⟨x, hx⟩ := h
 exact World.block_lt_of_cell? w _ hx
theorem MaxOk.below {w w' : World} {B : Nat} (h : MaxOk w) (hB : w.heap.size ≤ B) (hb : Below B w w') : MaxOk w' := by
 have := h.lt
 obtain ⟨x, hx⟩ := h
 exact ⟨x, by rw [hb.cell (p := ⟨0, 0, none⟩) (Nat.lt_of_lt_of_le this hB)]; exact hx⟩
theorem MaxOk.grown {w w' : World} {B : Nat} (h : MaxOk w) (hg : w.grownBy w' (some B)) (hB : 0 < B) : MaxOk w' := by
 obtain ⟨x, hx⟩ := h
 exact ⟨x, hg.cell hx (fun e => by injection e with e; exact absurd e (Nat.ne_of_lt hB))⟩
theorem byteN {c : UInt8} {k : Nat} (hk : k < 256) : (c == k.toUInt8) = ((c.toNat : Int) == (k : Int)) := by
 rw [Bool.eq_iff_iff, beq_iff_eq, beq_iff_eq]
 constructor
 ·intro e; rw [e]; simp [Nat.toUInt8]; omega
 ·intro e
  apply UInt8.toNat_inj.1
  have : c.toNat = k := by omega
  rw [this]; simp [Nat.toUInt8]; omega
theorem isB_int (c : UInt8) : isB c = ((c.toNat : Int) == 32 || (c.toNat : Int) == 9 || (c.toNat : Int) == 13) := by
 have h1 := @byteN c 32 (by decide)
 have h2 := @byteN c 9 (by decide)
 have h3 := @byteN c 13 (by decide)
 exact congr (congrArg or (congr (congrArg or h1) h2)) h3
theorem isM_int (c : UInt8) : isM c = ((c.toNat : Int) == 123 || (c.toNat : Int) == 125 || (c.toNat : Int) == 91 || (c.toNat : Int) == 93 || (c.toNat : Int) == 58 || (c.toNat : Int) == 61 || (c.toNat : Int) == 44) := by
 have h1 := @byteN c 123 (by decide)
 have h2 := @byteN c 125 (by decide)
 have h3 := @byteN c 91 (by decide)
 have h4 := @byteN c 93 (by decide)
 have h5 := @byteN c 58 (by decide)
 have h6 := @byteN c 61 (by decide)
 have h7 := @byteN c 44 (by decide)
 exact congr (congrArg or (congr (congrArg or (congr (congrArg or (congr (congrArg or (congr (congrArg or (congr (congrArg or h1) h2)) h3)) h4)) h5)) h6)) h7
theorem isBlank_any (w : World) (c : UInt8) :
  Calls Tryz.prog 71 #[.int .u8 (c.toNat : Int)] w fun e w' => e = .returned (.bool (isB c)) ∧ w' = w := by
 rw [isB_int]
 generalize (c.toNat : Int) = n
 cases h1 : n == 32 <;> cases h2 : n == 9 <;> cases h3 : n == 13
 all_goals
  go_enter Tryz.func71, Tryz.ntmps71
  go_wp2
  go_ret
  exact ⟨rfl, rfl⟩
theorem isMark_any (w : World) (c : UInt8) :
  Calls Tryz.prog 75 #[.int .u8 (c.toNat : Int)] w fun e w' => e = .returned (.bool (isM c)) ∧ w' = w := by
 rw [isM_int]
 generalize (c.toNat : Int) = n
 cases h1 : n == 123
 case true => go_enter Tryz.func75, Tryz.ntmps75; go_wp2; go_ret; exact ⟨rfl, rfl⟩
 cases h2 : n == 125
 case true => go_enter Tryz.func75, Tryz.ntmps75; go_wp2; go_ret; exact ⟨rfl, rfl⟩
 cases h3 : n == 91
 case true => go_enter Tryz.func75, Tryz.ntmps75; go_wp2; go_ret; exact ⟨rfl, rfl⟩
 cases h4 : n == 93
 case true => go_enter Tryz.func75, Tryz.ntmps75; go_wp2; go_ret; exact ⟨rfl, rfl⟩
 cases h5 : n == 58
 case true => go_enter Tryz.func75, Tryz.ntmps75; go_wp2; go_ret; exact ⟨rfl, rfl⟩
 cases h6 : n == 61
 case true => go_enter Tryz.func75, Tryz.ntmps75; go_wp2; go_ret; exact ⟨rfl, rfl⟩
 cases h7 : n == 44
 case true => go_enter Tryz.func75, Tryz.ntmps75; go_wp2; go_ret; exact ⟨rfl, rfl⟩
 go_enter Tryz.func75, Tryz.ntmps75; go_wp2; go_ret; exact ⟨rfl, rfl⟩
theorem inWord_any (w : World) (c : UInt8) :
  Calls Tryz.prog 74 #[.int .u8 (c.toNat : Int)] w fun e w' => e = .returned (.bool (isW c)) ∧ w' = w := by
 have key : ∀ b : Bool, isW c = b → Calls Tryz.prog 74 #[.int .u8 (c.toNat : Int)] w (fun e w' => e = .returned (.bool b) ∧ w' = w) → Calls Tryz.prog 74 #[.int .u8 (c.toNat : Int)] w (fun e w' => e = .returned (.bool (isW c)) ∧ w' = w) := fun b e h => by rw [e]; exact h
 have yes : (((97 : Int) ≤ (c.toNat : Int) ∧ (c.toNat : Int) ≤ 122) ∨ ((65 : Int) ≤ (c.toNat : Int) ∧ (c.toNat : Int) ≤ 90) ∨ ((48 : Int) ≤ (c.toNat : Int) ∧ (c.toNat : Int) ≤ 57) ∨ (c.toNat : Int) = 95 ∨ (c.toNat : Int) = 45 ∨ (c.toNat : Int) = 43 ∨ (c.toNat : Int) = 46) → isW c = true := fun h => decide_eq_true (by omega)
 have no : ¬ (((97 : Int) ≤ (c.toNat : Int) ∧ (c.toNat : Int) ≤ 122) ∨ ((65 : Int) ≤ (c.toNat : Int) ∧ (c.toNat : Int) ≤ 90) ∨ ((48 : Int) ≤ (c.toNat : Int) ∧ (c.toNat : Int) ≤ 57) ∨ (c.toNat : Int) = 95 ∨ (c.toNat : Int) = 45 ∨ (c.toNat : Int) = 43 ∨ (c.toNat : Int) = 46) → isW c = false := fun h => decide_eq_false (by omega)
 generalize isW c = r at *
 generalize (c.toNat : Int) = n at *
 by_cases e1 : n = 95
 ·refine key true (yes (by omega)) ?_
  clear key yes no
  subst e1
  go_enter Tryz.func74, Tryz.ntmps74; go_wp2; go_ret; exact ⟨rfl, rfl⟩
 by_cases e2 : n = 45
 ·refine key true (yes (by omega)) ?_
  clear key yes no
  subst e2
  go_enter Tryz.func74, Tryz.ntmps74; go_wp2; go_ret; exact ⟨rfl, rfl⟩
 by_cases e3 : n = 43
 ·refine key true (yes (by omega)) ?_
  clear key yes no
  subst e3
  go_enter Tryz.func74, Tryz.ntmps74; go_wp2; go_ret; exact ⟨rfl, rfl⟩
 by_cases e4 : n = 46
 ·refine key true (yes (by omega)) ?_
  clear key yes no
  subst e4
  go_enter Tryz.func74, Tryz.ntmps74; go_wp2; go_ret; exact ⟨rfl, rfl⟩
 have i1 : (n == 95) = false := beq_false_of_ne e1
 have i2 : (n == 45) = false := beq_false_of_ne e2
 have i3 : (n == 43) = false := beq_false_of_ne e3
 have i4 : (n == 46) = false := beq_false_of_ne e4
 by_cases a1 : 97 ≤ n
 ·have d1 : decide (97 ≤ n) = true := decide_eq_true a1
  by_cases a2 : n ≤ 122
  ·refine key true (yes (by omega)) ?_
   clear key yes no
   go_enter Tryz.func74, Tryz.ntmps74; go_wp2; go_ret; exact ⟨rfl, rfl⟩
  ·refine key false (no (by omega)) ?_
   clear key yes no
   have d2 : decide (n ≤ 122) = false := decide_eq_false a2
   have a3 : 65 ≤ n := by omega
   have a4 : ¬ n ≤ 90 := by omega
   have a5 : 48 ≤ n := by omega
   have a6 : ¬ n ≤ 57 := by omega
   go_enter Tryz.func74, Tryz.ntmps74; go_wp2; go_ret; exact ⟨rfl, rfl⟩
 ·have d1 : decide (97 ≤ n) = false := decide_eq_false a1
  by_cases a3 : 65 ≤ n
  ·by_cases a4 : n ≤ 90
   ·refine key true (yes (by omega)) ?_
    clear key yes no
    go_enter Tryz.func74, Tryz.ntmps74; go_wp2; go_ret; exact ⟨rfl, rfl⟩
   ·refine key false (no (by omega)) ?_
    clear key yes no
    have a5 : 48 ≤ n := by omega
    have a6 : ¬ n ≤ 57 := by omega
    go_enter Tryz.func74, Tryz.ntmps74; go_wp2; go_ret; exact ⟨rfl, rfl⟩
  ·by_cases a5 : 48 ≤ n
   ·by_cases a6 : n ≤ 57
    ·refine key true (yes (by omega)) ?_
     clear key yes no
     go_enter Tryz.func74, Tryz.ntmps74; go_wp2; go_ret; exact ⟨rfl, rfl⟩
    ·refine key false (no (by omega)) ?_
     clear key yes no
     go_enter Tryz.func74, Tryz.ntmps74; go_wp2; go_ret; exact ⟨rfl, rfl⟩
   ·refine key false (no (by omega)) ?_
    clear key yes no
    go_enter Tryz.func74, Tryz.ntmps74; go_wp2; go_ret; exact ⟨rfl, rfl⟩
end Go.Proofs.YtnbfnjhbmeocfaaGreatDoor.toks
namespace Go.Proofs.YtnbfnjhbmeocfaaGreatDoor.toks
open Go.RowKit
theorem run_more {p : UInt8 → Bool} {s : ByteArray} {a k : Nat} (h : k < s.size) (hp : p (s[k]'h) = true) (hr : a + runL p (s.data.toList.drop a) = k + runL p (s.data.toList.drop k)) : a + runL p (s.data.toList.drop a) = (k + 1) + runL p (s.data.toList.drop (k + 1)) := by
 rw [hr, run_step (by rw [len_list]; exact h) (by rw [byte_at s k h]; exact hp)]
 omega
theorem run_here {p : UInt8 → Bool} {s : ByteArray} {a k : Nat} (h : k < s.size) (hp : p (s[k]'h) = false) (hr : a + runL p (s.data.toList.drop a) = k + runL p (s.data.toList.drop k)) : a + runL p (s.data.toList.drop a) = k := by
 rw [hr, run_stop (by rw [len_list]; exact h) (by rw [byte_at s k h]; exact hp)]
 omega
theorem run_over {p : UInt8 → Bool} {s : ByteArray} {a k : Nat} (h : s.size ≤ k) (hr : a + runL p (s.data.toList.drop a) = k + runL p (s.data.toList.drop k)) : a + runL p (s.data.toList.drop a) = k := by
 rw [hr, run_end (by rw [len_list]; exact h)]
 omega
theorem runB_any (w : World) (B : Nat) (s : ByteArray) (m : Nat) (b : Bool) (a : Nat) (ha : a ≤ s.size) (hs : s.size ≤ 20000) (hc : Ctr w B s m b) :
  Calls Tryz.prog 72 #[.pointer (some ⟨B, 0, none⟩), .int .i64 (a : Int), .func (.func 71) #[] #[]] w fun e w' => e = .returned (.int .i64 ((a + runL isB (s.data.toList.drop a) : Nat) : Int)) ∧ w' = w := by
 have c0 := hc.cell 0 _ rfl
 clear hc
 go_enter Tryz.func72, Tryz.ntmps72
 go_wp2_with fail
 go_loopw [1] (fun i wr => ∃ k : Nat, k ≤ s.size ∧ i = .int .i64 k ∧ Hid (a + runL isB (s.data.toList.drop a) = k + runL isB (s.data.toList.drop k)) ∧ wr = w) (fun i _ => s.size - (intOf i).toNat)
 case atStart => exact ⟨a, ha, rfl, hide rfl, rfl⟩
 case round =>
  obtain ⟨k, hk, rfl, hr, hw⟩ := hrel
  subst hw
  by_cases hlt : k < s.size
  ·have KI := hide (isBlank_any wr (s[k]'hlt))
   have RM := hide (run_more (p := isB) (a := a) hlt)
   have RH := hide (run_here (p := isB) (a := a) hlt)
   generalize isB (s[k]'hlt) = o at *
   have i1 : (k : Int) < (s.size : Int) := by omega
   cases o with
   | true =>
    have RM2 := hide (unhide RM rfl (unhide hr))
    clear RM RH hr
    go_wp2_with fail
    refine (unhide KI).mono ?_
    rintro e w2 ⟨rfl, hw⟩
    rw [hw]
    clear hw KI
    go_wp2
    go_roundw
    case rel => exact ⟨k + 1, by omega, by go_num, RM2, by first | rfl | trivial⟩
    case measure => simp [intOf]; omega
   | false =>
    have RH2 := hide (unhide RH rfl (unhide hr))
    clear RM RH hr
    go_wp2_with fail
    refine (unhide KI).mono ?_
    rintro e w2 ⟨rfl, hw⟩
    rw [hw]
    clear hw KI
    go_wp2
    go_ret
    rw [unhide RH2]
    exact ⟨rfl, rfl⟩
  ·have RO := hide (run_over (p := isB) (a := a) (Nat.le_of_not_lt hlt) (unhide hr))
   have hks : k = s.size := by omega
   clear hr
   have d1 : decide ((k : Int) < (s.size : Int)) = false := decide_eq_false (by omega)
   clear hks
   go_wp2
   go_ret
   rw [unhide RO]
   exact ⟨rfl, rfl⟩
theorem runW_any (w : World) (B : Nat) (s : ByteArray) (m : Nat) (b : Bool) (a : Nat) (ha : a ≤ s.size) (hs : s.size ≤ 20000) (hc : Ctr w B s m b) :
  Calls Tryz.prog 72 #[.pointer (some ⟨B, 0, none⟩), .int .i64 (a : Int), .func (.func 74) #[] #[]] w fun e w' => e = .returned (.int .i64 ((a + runL isW (s.data.toList.drop a) : Nat) : Int)) ∧ w' = w := by
 have c0 := hc.cell 0 _ rfl
 clear hc
 go_enter Tryz.func72, Tryz.ntmps72
 go_wp2_with fail
 go_loopw [1] (fun i wr => ∃ k : Nat, k ≤ s.size ∧ i = .int .i64 k ∧ Hid (a + runL isW (s.data.toList.drop a) = k + runL isW (s.data.toList.drop k)) ∧ wr = w) (fun i _ => s.size - (intOf i).toNat)
 case atStart => exact ⟨a, ha, rfl, hide rfl, rfl⟩
 case round =>
  obtain ⟨k, hk, rfl, hr, hw⟩ := hrel
  subst hw
  by_cases hlt : k < s.size
  ·have KI := hide (inWord_any wr (s[k]'hlt))
   have RM := hide (run_more (p := isW) (a := a) hlt)
   have RH := hide (run_here (p := isW) (a := a) hlt)
   generalize isW (s[k]'hlt) = o at *
   have i1 : (k : Int) < (s.size : Int) := by omega
   cases o with
   | true =>
    have RM2 := hide (unhide RM rfl (unhide hr))
    clear RM RH hr
    go_wp2_with fail
    refine (unhide KI).mono ?_
    rintro e w2 ⟨rfl, hw⟩
    rw [hw]
    clear hw KI
    go_wp2
    go_roundw
    case rel => exact ⟨k + 1, by omega, by go_num, RM2, by first | rfl | trivial⟩
    case measure => simp [intOf]; omega
   | false =>
    have RH2 := hide (unhide RH rfl (unhide hr))
    clear RM RH hr
    go_wp2_with fail
    refine (unhide KI).mono ?_
    rintro e w2 ⟨rfl, hw⟩
    rw [hw]
    clear hw KI
    go_wp2
    go_ret
    rw [unhide RH2]
    exact ⟨rfl, rfl⟩
  ·have RO := hide (run_over (p := isW) (a := a) (Nat.le_of_not_lt hlt) (unhide hr))
   have hks : k = s.size := by omega
   clear hr
   have d1 : decide ((k : Int) < (s.size : Int)) = false := decide_eq_false (by omega)
   clear hks
   go_wp2
   go_ret
   rw [unhide RO]
   exact ⟨rfl, rfl⟩
theorem b_eq {c : UInt8} (k : UInt8) (h : c = k) : ((c.toNat : Int) == (k.toNat : Int)) = true := by rw [h]; exact beq_self_eq_true _
theorem b_ne {c : UInt8} (k : UInt8) (h : c ≠ k) : ((c.toNat : Int) == (k.toNat : Int)) = false := beq_false_of_ne (fun e => h (UInt8.toNat_inj.1 (by omega)))
theorem b_eq' {c : UInt8} (k : UInt8) (h : c = k) : ((c.toNat : Int) != (k.toNat : Int)) = false := by unfold bne; rw [b_eq k h]; rfl
theorem b_ne' {c : UInt8} (k : UInt8) (h : c ≠ k) : ((c.toNat : Int) != (k.toNat : Int)) = true := by unfold bne; rw [b_ne k h]; rfl
theorem Ctr.text {w : World} {B : Nat} {s : ByteArray} {m : Nat} {b : Bool} (h : Ctr w B s m b) (e : Nat) : Ctr (w.setCell ⟨B, 1, none⟩ (.int .i64 (e : Int))) B s e b := by
 have := h.set 1 (.int .i64 (e : Int))
 simpa [Ctr] using this
theorem Ctr.note {w : World} {B : Nat} {s : ByteArray} {m : Nat} {b : Bool} (h : Ctr w B s m b) : Ctr (w.setCell ⟨B, 2, none⟩ (.bool true)) B s m true := by
 have := h.set 2 (.bool true)
 simpa [Ctr] using this
theorem text_low (w : World) (B : Nat) (s : ByteArray) (m : Nat) (b : Bool) (a : Nat) (ha : a < s.size) (hs : s.size ≤ 20000) (hc : Ctr w B s m b) (hm : a < m) :
  Calls Tryz.prog 77 #[.pointer (some ⟨B, 0, none⟩), .int .i64 (a : Int)] w fun e w' => e = .returned (.tuple #[.int .i64 0, .bool false]) ∧ w' = w := by
 have c1 := hc.cell 1 _ rfl
 clear hc
 have d1 : decide ((a : Int) < (m : Int)) = true := decide_eq_true (by omega)
 have i1 : (a : Int) < (m : Int) := by omega
 go_enter Tryz.func77, Tryz.ntmps77
 go_wp2
 go_ret2
 exact ⟨rfl, rfl⟩
theorem text_no (w : World) (B : Nat) (s : ByteArray) (m : Nat) (b : Bool) (a : Nat) (ha : a < s.size) (hs : s.size ≤ 20000) (hc : Ctr w B s m b) (h34 : s[a]'ha ≠ 34) :
  Calls Tryz.prog 77 #[.pointer (some ⟨B, 0, none⟩), .int .i64 (a : Int)] w fun e w' => e = .returned (.tuple #[.int .i64 0, .bool false]) ∧ w' = w := by
 by_cases hm : a < m
 ·exact text_low w B s m b a ha hs hc hm
 have c0 := hc.cell 0 _ rfl
 have c1 := hc.cell 1 _ rfl
 clear hc
 have i2 : (((s[a]'ha).toNat : Int) == 34) = false := b_ne 34 h34
 have i3 : (((s[a]'ha).toNat : Int) != 34) = true := b_ne' 34 h34
 have d1 : decide ((a : Int) < (m : Int)) = false := decide_eq_false (by omega)
 have d0 : decide (a < m) = false := decide_eq_false (by omega)
 clear h34
 go_enter Tryz.func77, Tryz.ntmps77
 go_wp2
 go_ret2
 exact ⟨rfl, rfl⟩
theorem wayS_two {s : ByteArray} {a e : Nat} (w : Way s.data.toList a e) (h : e + 1 < s.size) (h0 : e < s.size) (h1 : s[e]'h0 = 92) (h2 : s[e + 1]'h ≠ 10) : Way s.data.toList a (e + 2) :=
 way_two w (by rw [len_list]; exact h) h1 h2
theorem wayS_next {s : ByteArray} {a e : Nat} (w : Way s.data.toList a e) (h : e < s.size) (h1 : s[e]'h ≠ 34) (h2 : s[e]'h ≠ 10) (h3 : s[e]'h = 92 → ∀ h : e + 1 < s.size, s[e + 1]'h = 10) : Way s.data.toList a (e + 1) :=
 way_next w (by rw [len_list]; exact h) h1 h2 (fun q h' => h3 q (by rw [len_list] at h'; exact h'))
theorem wayS_hit {s : ByteArray} {a e : Nat} (w : Way s.data.toList a e) (h : e < s.size) (h1 : s[e]'h = 34) : shutN (s.data.toList.drop (a + 1)) = e - a :=
 way_hit w (by rw [len_list]; exact h) h1
theorem wayS_end {s : ByteArray} {a e : Nat} (w : Way s.data.toList a e) (h : s.size ≤ e ∨ ∃ h : e < s.size, s[e]'h = 10) : shutN (s.data.toList.drop (a + 1)) = 0 ∧ NoText s.data.toList a e := by
 refine way_none w ?_
 rcases h with h | ⟨h, h1⟩
 ·exact shut_end (by rw [len_list]; exact h)
 ·exact shut_line (by rw [len_list]; exact h) h1
theorem text_quote (w : World) (B : Nat) (s : ByteArray) (m : Nat) (b : Bool) (a : Nat) (ha : a < s.size) (hs : s.size ≤ 20000) (hc : Ctr w B s m b) (hm : m ≤ a) (h34 : s[a]'ha = 34) :
  Calls Tryz.prog 77 #[.pointer (some ⟨B, 0, none⟩), .int .i64 (a : Int)] w fun e w' =>
   (e = .returned (.tuple #[.int .i64 ((a + 1 + shutN (s.data.toList.drop (a + 1)) : Nat) : Int), .bool true]) ∧ shutN (s.data.toList.drop (a + 1)) ≠ 0 ∧ w' = w) ∨
   (∃ q : Nat, e = .returned (.tuple #[.int .i64 0, .bool false]) ∧ shutN (s.data.toList.drop (a + 1)) = 0 ∧ NoText s.data.toList a q ∧ q ≤ s.size ∧ w' = w.setCell ⟨B, 1, none⟩ (.int .i64 (q : Int))) := by
 have c0 := hc.cell 0 _ rfl
 have c1 := hc.cell 1 _ rfl
 have f1 := hc.froz 1
 clear hc
 have i2 : (((s[a]'ha).toNat : Int) == 34) = true := b_eq 34 h34
 have i3 : (((s[a]'ha).toNat : Int) != 34) = false := b_eq' 34 h34
 have d1 : decide ((a : Int) < (m : Int)) = false := decide_eq_false (by omega)
 have d0 : decide (a < m) = false := decide_eq_false (by omega)
 have W0 := hide (way_start (l := s.data.toList) (a := a) (by rw [len_list]; exact ha))
 clear h34
 go_enter Tryz.func77, Tryz.ntmps77
 go_wp2_with fail
 clear i2 i3
 go_loopw [6] (fun i wr => ∃ k : Nat, k ≤ s.size ∧ i = .int .i64 k ∧ Hid (Way s.data.toList a k) ∧ wr = w) (fun i _ => s.size - (intOf i).toNat)
 case atStart => exact ⟨a + 1, ha, by go_num, W0, rfl⟩
 case round =>
  obtain ⟨k, hk, rfl, hW, hw⟩ := hrel
  subst hw
  have hak := (unhide hW).lo
  by_cases hlt : k < s.size
  ·have i1 : (k : Int) < (s.size : Int) := by omega
   by_cases h10 : s[k]'hlt = 10
   ·have E := hide (wayS_end (unhide hW) (.inr ⟨hlt, h10⟩))
    have j1 : (((s[k]'hlt).toNat : Int) == 10) = true := b_eq 10 h10
    have j2 : (((s[k]'hlt).toNat : Int) != 10) = false := b_eq' 10 h10
    clear h10 hW W0
    go_wp2
    go_ret2
    exact .inr ⟨k, rfl, (unhide E).1, (unhide E).2, hk, rfl⟩
   ·have j1 : (((s[k]'hlt).toNat : Int) == 10) = false := b_ne 10 h10
    have j2 : (((s[k]'hlt).toNat : Int) != 10) = true := b_ne' 10 h10
    by_cases h3 : s[k]'hlt = 34
    ·have E := hide (wayS_hit (unhide hW) hlt h3)
     have j3 : (((s[k]'hlt).toNat : Int) == 34) = true := b_eq 34 h3
     clear h10 h3 hW W0
     go_wp2
     go_ret2
     refine .inl ⟨?_, ?_, rfl⟩
     ·rw [unhide E, show a + 1 + (k - a) = k + 1 by omega]
      go_num
     ·rw [unhide E]; omega
    ·have j3 : (((s[k]'hlt).toNat : Int) == 34) = false := b_ne 34 h3
     by_cases h9 : s[k]'hlt = 92
     ·have j4 : (((s[k]'hlt).toNat : Int) == 92) = true := b_eq 92 h9
      by_cases hl2 : k + 1 < s.size
      ·have i4 : (k : Int) + 1 < (s.size : Int) := by omega
       by_cases h11 : s[k + 1]'hl2 = 10
       ·have E := hide (wayS_next (unhide hW) hlt h3 h10 (fun _ _ => h11))
        have j5 : (((s[k + 1]'hl2).toNat : Int) == 10) = true := b_eq 10 h11
        have j6 : (((s[k + 1]'hl2).toNat : Int) != 10) = false := b_eq' 10 h11
        clear h10 h3 h9 h11 hW W0
        go_wp2
        go_roundw
        case rel => exact ⟨k + 1, by omega, by go_num, E, by first | rfl | trivial⟩
        case measure => simp [intOf]; omega
       ·have E := hide (wayS_two (unhide hW) hl2 hlt h9 h11)
        have j5 : (((s[k + 1]'hl2).toNat : Int) == 10) = false := b_ne 10 h11
        have j6 : (((s[k + 1]'hl2).toNat : Int) != 10) = true := b_ne' 10 h11
        clear h10 h3 h9 h11 hW W0
        go_wp2
        go_roundw
        case rel => exact ⟨k + 2, by omega, by go_num, E, by first | rfl | trivial⟩
        case measure => simp [intOf]; omega
      ·have E := hide (wayS_next (unhide hW) hlt h3 h10 (fun _ h => absurd h hl2))
       have d4 : decide ((k : Int) + 1 < (s.size : Int)) = false := decide_eq_false (by omega)
       clear h10 h3 h9 hW W0
       go_wp2
       go_roundw
       case rel => exact ⟨k + 1, by omega, by go_num, E, by first | rfl | trivial⟩
       case measure => simp [intOf]; omega
     ·have E := hide (wayS_next (unhide hW) hlt h3 h10 (fun h => absurd h h9))
      have j4 : (((s[k]'hlt).toNat : Int) == 92) = false := b_ne 92 h9
      clear h10 h3 h9 hW W0
      go_wp2
      go_roundw
      case rel => exact ⟨k + 1, by omega, by go_num, E, by first | rfl | trivial⟩
      case measure => simp [intOf]; omega
  ·have E := hide (wayS_end (unhide hW) (.inl (Nat.le_of_not_lt hlt)))
   have d4 : decide ((k : Int) < (s.size : Int)) = false := decide_eq_false (by omega)
   clear hW W0
   go_wp2
   go_ret2
   exact .inr ⟨k, rfl, (unhide E).1, (unhide E).2, hk, rfl⟩
end Go.Proofs.YtnbfnjhbmeocfaaGreatDoor.toks
namespace Go.Proofs.YtnbfnjhbmeocfaaGreatDoor.trees
open toks
structure At (L : List UInt8) (l : List Tk) (i : Nat) (ts : List Sym) : Prop where
 le : i ≤ l.length
 eq : ts = solF L i (l.drop i)
 sol : ∀ h : i < l.length, 3 < l[i].kind
theorem drop_tk {l : List Tk} {i : Nat} (h : i < l.length) : l.drop i = l[i] :: l.drop (i + 1) := List.drop_eq_getElem_cons h
theorem at_cons {L : List UInt8} {l : List Tk} {i : Nat} {x : Sym} {r : List Sym} (h : At L l i (x :: r)) :
  ∃ hi : i < l.length, x.2 = i ∧ x.1 = symOf L l[i] ∧ 3 < l[i].kind ∧ r = solF L (i + 1) (l.drop (i + 1)) := by
 have hi : i < l.length := by
  rcases Nat.lt_or_ge i l.length with h1 | h1
  ·exact h1
  ·have := h.eq
   rw [List.drop_of_length_le h1] at this
   cases this
 have hk := h.sol hi
 have e := h.eq
 rw [drop_tk hi, sol_yes hk] at e
 injection e with e1 e2
 exact ⟨hi, by rw [e1], by rw [e1], hk, e2⟩
theorem at_nil {L : List UInt8} {l : List Tk} {i : Nat} (h : At L l i []) : i = l.length := by
 rcases Nat.lt_or_ge i l.length with h1 | h1
 ·have e := h.eq
  rw [drop_tk h1, sol_yes (h.sol h1)] at e
  cases e
 ·have := h.le
  omega
theorem at_skip (L : List UInt8) (l : List Tk) : ∀ (d n : Nat), (∀ k (h : k < l.length), n ≤ k → k < n + d → ¬ 3 < l[k].kind) → n + d ≤ l.length → solF L n (l.drop n) = solF L (n + d) (l.drop (n + d))
 | 0, n, _, _ => rfl
 | d + 1, n, h, hl => by
  have hn : n < l.length := by omega
  rw [drop_tk hn, sol_no (h n hn (Nat.le_refl _) (by omega)), at_skip L l d (n + 1) (fun k hk h1 h2 => h k hk (by omega) (by omega)) (by omega), show n + 1 + d = n + (d + 1) by omega]
structure Nxt (l : List Tk) (n j : Nat) : Prop where
 le : n ≤ j
 lt : j ≤ l.length
 no : ∀ k (h : k < l.length), n ≤ k → k < j → ¬ 3 < l[k].kind
 sol : ∀ h : j < l.length, 3 < l[j].kind
theorem Nxt.at {L : List UInt8} {l : List Tk} {n j : Nat} (h : Nxt l n j) : At L l j (solF L n (l.drop n)) := by
 have := h.le
 have := h.lt
 refine ⟨h.lt, ?_, h.sol⟩
 rw [at_skip L l (j - n) n (fun k hk h1 h2 => h.no k hk h1 (by omega)) (by omega), show n + (j - n) = j by omega]
structure Good (s : ByteArray) (l : List Tk) : Prop where
 kind : ∀ (j : Nat) (h : j < l.length), 1 ≤ l[j].kind ∧ l[j].kind ≤ 7
 fro : ∀ (j : Nat) (h : j < l.length), l[j].fro < s.size
 mark : ∀ (j : Nat) (h : j < l.length), l[j].kind = 6 → isM (s.data.toList.getD l[j].fro 0) = true
 len : l.length ≤ 20000
 size : s.size ≤ 20000
theorem tokK_mark {l : List UInt8} {n : Nat} (h : tokK l = (6, n)) : isM (l.headD 0) = true := by
 cases l with
 | nil => simp [tokK] at h
 | cons c t =>
  unfold tokK at h
  simp only at h
  split at h
  ·simp at h
  ·split at h
   ·simp at h
   ·split at h
    ·simp at h
    ·split at h
     ·simp at h
     ·split at h
      ·rename_i hm; exact hm
      ·split at h
       ·simp at h
       ·split at h <;> simp at h
theorem good (s : ByteArray) (hs : s.size ≤ 20000) : Good s (toksL s.data.toList) := by
 have key : ∀ (j : Nat) (h : j < (toksL s.data.toList).length), _ := fun j h => cut_at j 0 s.data.toList (toksL s.data.toList)[j] (List.getElem?_eq_getElem h)
 refine ⟨fun j h => ?_, fun j h => ?_, fun j h hk => ?_, ?_, hs⟩
 ·obtain ⟨_, _, _, _, _, k1, k7, _⟩ := key j h
  exact ⟨k1, k7⟩
 ·obtain ⟨_, h2, h3, _⟩ := key j h
  rw [len_list] at h3
  omega
 ·obtain ⟨_, h2, h3, h4, _⟩ := key j h
  rw [Nat.sub_zero, hk] at h4
  have := tokK_mark h4
  rw [List.headD_eq_head?_getD, List.head?_drop] at this
  exact this
 ·have := cutP_len 0 s.data.toList
  rw [len_list] at this
  exact Nat.le_trans this hs
def seesB (ts : List Sym) (m : UInt8) : Bool :=
 match ts with
 | [] => false
 | x :: _ => x.1 == m
theorem sym_mark {s : ByteArray} {l : List Tk} (g : Good s l) {i : Nat} (hi : i < l.length) {m : UInt8} (h1 : m ≠ 63) (h2 : m ≠ 120) : (symOf s.data.toList l[i] == m) = (decide (l[i].kind = 6) && (s.data.toList.getD l[i].fro 0 == m)) := by
 unfold symOf
 by_cases h6 : l[i].kind = 6
 ·rw [if_pos h6, decide_eq_true h6]; rfl
 ·rw [if_neg h6, decide_eq_false h6, Bool.false_and]
  split
  ·exact beq_false_of_ne (Ne.symm h1)
  ·exact beq_false_of_ne (Ne.symm h2)
theorem isM_not {c : UInt8} (h : isM c = true) : c ≠ 120 ∧ c ≠ 63 ∧ c ≠ 0 := by
 refine ⟨fun e => ?_, fun e => ?_, fun e => ?_⟩ <;> (rw [e] at h; exact absurd h (by decide))
theorem sym_one {s : ByteArray} {l : List Tk} (g : Good s l) {i : Nat} (hi : i < l.length) (h3 : 3 < l[i].kind) : (symOf s.data.toList l[i] == 120) = decide (l[i].kind = 4 ∨ l[i].kind = 5) := by
 have := g.kind i hi
 unfold symOf
 by_cases h6 : l[i].kind = 6
 ·rw [if_pos h6, decide_eq_false (by omega)]
  exact beq_false_of_ne (isM_not (g.mark i hi h6)).1
 ·rw [if_neg h6]
  by_cases h7 : l[i].kind = 7
  ·rw [if_pos h7, decide_eq_false (by omega)]; rfl
  ·rw [if_neg h7, decide_eq_true (by omega)]; rfl
def placeOf (s : ByteArray) (l : List Tk) (ts : List Sym) : Nat :=
 match ts with
 | [] => s.size
 | x :: _ => (l.getD x.2 ⟨0, 0, 0⟩).fro
end Go.Proofs.YtnbfnjhbmeocfaaGreatDoor.trees
