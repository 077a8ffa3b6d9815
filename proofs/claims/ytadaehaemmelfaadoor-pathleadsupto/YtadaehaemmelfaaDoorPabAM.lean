/- Of our texts, what this claim reaches. -/
import Derived.Test.YtadaehaemmelfaaDoorPabAL
import Derived.Lib.ItoaNum
import Derived.Test.YtadaehaemmelfaaDoorPabAE
import Derived.Deep.QuietTactic
import Derived.BigQuiet
import Derived.Test.YtadaehaemmelfaaDoorPabAJ
import Derived.Lib.AppendIntMem
import Derived.Lib.Walk
import Derived.BigCall
import Derived.BigGuard
import Derived.WalkSmall
import Derived.Lib.IndexAny
import Derived.Lib.IndexMore
import Derived.OwnWalk
set_option linter.unusedVariables false
set_option maxHeartbeats 2000000
set_option maxRecDepth 100000
namespace Go.Proofs.YtadaehaemmelfaaDoor.paths
open utfs (bad enc sc)
abbrev St : Type := List UInt8 × Int
def chkS (x : St) : Int := if x.2 < -1 ∨ (-1 < x.2 ∧ x.1 ≠ []) then 1 else if 100 < x.1.length then 2 else if 0 ≤ bad x.1 then 3 else 0
def chkL : List St → Int
 | [] => 0
 | x :: l => if chkS x = 0 then chkL l else chkS x
def chkP (p : List St) : Int := if 20 < p.length then 5 else chkL p
theorem chkS_parts {x : St} (h : chkS x = 0) : -1 ≤ x.2 ∧ (x.2 = -1 ∨ (0 ≤ x.2 ∧ x.1 = [])) ∧ x.1.length ≤ 100 ∧ bad x.1 < 0 := by
 unfold chkS at h
 split at h
 ·omega
 ·rename_i h1
  split at h
  ·omega
  ·split at h
   ·omega
   ·refine ⟨by omega, ?_, by omega, by omega⟩
    by_cases e : x.2 = -1
    ·exact .inl e
    ·exact .inr ⟨by omega, Classical.byContradiction fun hn => h1 (.inr ⟨by omega, hn⟩)⟩
theorem chkL_mem : ∀ {p : List St}, chkL p = 0 → ∀ x ∈ p, chkS x = 0
 | [], _, x, hx => absurd hx (List.not_mem_nil)
 | y :: l, h, x, hx => by
  unfold chkL at h
  split at h
  ·rename_i h1
   rcases List.mem_cons.1 hx with rfl | hx
   ·exact h1
   ·exact chkL_mem h x hx
  ·rename_i h1
   exact absurd h h1
theorem chkP_parts {p : List St} (h : chkP p = 0) : p.length ≤ 20 ∧ ∀ x ∈ p, chkS x = 0 := by
 unfold chkP at h
 split at h
 ·omega
 ·exact ⟨by omega, chkL_mem h⟩
end Go.Proofs.YtadaehaemmelfaaDoor.paths
namespace Go.Proofs.YtadaehaemmelfaaDoor.utfs
open Go.RowKit
theorem scalar_any (n : Int) (w : World) : Calls Tryd.prog 67 #[.int .i64 n] w fun e w' => e = .returned (.bool (sc n)) ∧ w' = w := by
 have key : ∀ b : Bool, sc n = b → Calls Tryd.prog 67 #[.int .i64 n] w (fun e w' => e = .returned (.bool b) ∧ w' = w) → Calls Tryd.prog 67 #[.int .i64 n] w (fun e w' => e = .returned (.bool (sc n)) ∧ w' = w) := fun b e h => by rw [e]; exact h
 by_cases h0 : 0 ≤ n
 ·have t0 : decide (0 ≤ n) = true := decide_eq_true h0
  by_cases h1 : n ≤ 1114111
  ·have t1 : decide (n ≤ 1114111) = true := decide_eq_true h1
   by_cases h2 : n < 55296
   ·have t2 : decide (n < 55296) = true := decide_eq_true h2
    refine key true (decide_eq_true (by omega)) ?_
    clear key
    go_enter Tryd.func67, Tryd.ntmps67
    go_wp2
    go_ret
    exact ⟨rfl, rfl⟩
   ·have t2 : decide (n < 55296) = false := decide_eq_false h2
    by_cases h3 : 57343 < n
    ·refine key true (decide_eq_true (by omega)) ?_
     have t3 : decide (57343 < n) = true := decide_eq_true h3
     clear key
     go_enter Tryd.func67, Tryd.ntmps67
     go_wp2
     go_ret
     exact ⟨rfl, rfl⟩
    ·refine key false (decide_eq_false (by omega)) ?_
     have t3 : decide (57343 < n) = false := decide_eq_false h3
     clear key
     go_enter Tryd.func67, Tryd.ntmps67
     go_wp2
     go_ret
     exact ⟨rfl, rfl⟩
  ·have t1 : decide (n ≤ 1114111) = false := decide_eq_false h1
   refine key false (decide_eq_false (by omega)) ?_
   clear key
   go_enter Tryd.func67, Tryd.ntmps67
   go_wp2
   go_ret
   exact ⟨rfl, rfl⟩
 ·have t0 : decide (0 ≤ n) = false := decide_eq_false h0
  refine key false (decide_eq_false (by omega)) ?_
  clear key
  go_enter Tryd.func67, Tryd.ntmps67
  go_wp2
  go_ret
  exact ⟨rfl, rfl⟩
end Go.Proofs.YtadaehaemmelfaaDoor.utfs
namespace Go.Proofs.YtadaehaemmelfaaDoor.utfs
open Go.RowKit
theorem next_bad {l : List UInt8} (h0 : l ≠ []) (h : Lib.decodeL l = (65533, 1)) : nextR l = -1 ∧ nextN l = 1 := by
 have hb : badB l = true := decide_eq_true (by rw [h]; exact ⟨rfl, rfl⟩)
 exact ⟨by simp [nextR, h0, hb], by simp [nextN, h0, h]⟩
theorem next_good {l : List UInt8} {v : Int} {n : Nat} (h0 : l ≠ []) (h : Lib.decodeL l = (v.toNat, n)) (hv : 0 ≤ v) (hn : n = 1 → v < 128) : nextR l = v ∧ nextN l = n := by
 have hb : badB l = false := decide_eq_false (by rw [h]; simp only; omega)
 refine ⟨?_, by simp [nextN, h0, h]⟩
 simp only [nextR, h0, if_false, hb]
 rw [h]
 simp only [Bool.false_eq_true, if_false]
 omega
def byt (l : List UInt8) (i : Nat) : Nat := (l.getD i 0).toNat
theorem by_lt (l : List UInt8) (i : Nat) : byt l i < 256 := UInt8.toNat_lt _
theorem dec_by (l : List UInt8) : Lib.decodeL l = Lib.decodeN l.length (byt l 0) (byt l 1) (byt l 2) (byt l 3) := Lib.decodeL_N l
def val (l : List UInt8) (lead : Int) : Nat → Int
 | 0 => 0
 | 1 => (byt l 0 : Int) - lead
 | k + 2 => val l lead (k + 1) * 64 + (byt l (k + 1) : Int) - 128
def cont (l : List UInt8) (j : Nat) : Prop := 128 ≤ byt l j ∧ byt l j < 192
theorem val_two (l : List UInt8) (a : Int) : val l a 2 = (((byt l 0 : Nat) : Int) - a) * 64 + (byt l 1 : Int) - 128 := rfl
theorem val_three (l : List UInt8) (a : Int) : val l a 3 = ((((byt l 0 : Nat) : Int) - a) * 64 + (byt l 1 : Int) - 128) * 64 + (byt l 2 : Int) - 128 := rfl
theorem val_four (l : List UInt8) (a : Int) : val l a 4 = (((((byt l 0 : Nat) : Int) - a) * 64 + (byt l 1 : Int) - 128) * 64 + (byt l 2 : Int) - 128) * 64 + (byt l 3 : Int) - 128 := rfl
theorem class1 (l : List UInt8) (h0 : l ≠ []) (h : byt l 0 < 128) : nextR l = (byt l 0 : Int) ∧ nextN l = 1 := by
 refine next_good h0 ?_ (by omega) (fun _ => by omega)
 rw [dec_by]; unfold Lib.decodeN
 rw [if_pos h]
 simp
theorem class0 (l : List UInt8) (h0 : l ≠ []) (h : (128 ≤ byt l 0 ∧ byt l 0 < 192) ∨ 248 ≤ byt l 0) : nextR l = -1 ∧ nextN l = 1 := by
 have hb := by_lt l 0
 refine next_bad h0 ?_
 rw [dec_by]; unfold Lib.decodeN
 rw [if_neg (by omega), if_neg (by omega), if_neg (by omega), if_neg (by omega)]
theorem class2_bad (l : List UInt8) (h0 : l ≠ []) (h : 192 ≤ byt l 0 ∧ byt l 0 < 224) (hx : l.length < 2 ∨ ¬ cont l 1) : nextR l = -1 ∧ nextN l = 1 := by
 have hb := by_lt l 1
 unfold cont at hx
 refine next_bad h0 ?_
 rw [dec_by]; unfold Lib.decodeN
 rw [if_neg (by omega), if_neg (by omega), if_neg (by omega), if_neg (by omega)]
theorem class3_bad (l : List UInt8) (h0 : l ≠ []) (h : 224 ≤ byt l 0 ∧ byt l 0 < 240) (hx : l.length < 3 ∨ ¬ cont l 1 ∨ ¬ cont l 2) : nextR l = -1 ∧ nextN l = 1 := by
 have hb := by_lt l 1
 have hb2 := by_lt l 2
 unfold cont at hx
 refine next_bad h0 ?_
 rw [dec_by]; unfold Lib.decodeN
 rw [if_neg (by omega), if_neg (by omega), if_neg (by omega), if_neg (by omega)]
theorem class4_bad (l : List UInt8) (h0 : l ≠ []) (h : 240 ≤ byt l 0 ∧ byt l 0 < 248) (hx : l.length < 4 ∨ ¬ cont l 1 ∨ ¬ cont l 2 ∨ ¬ cont l 3) : nextR l = -1 ∧ nextN l = 1 := by
 have hb := by_lt l 1
 have hb2 := by_lt l 2
 have hb3 := by_lt l 3
 unfold cont at hx
 refine next_bad h0 ?_
 rw [dec_by]; unfold Lib.decodeN
 rw [if_neg (by omega), if_neg (by omega), if_neg (by omega), if_neg (by omega)]
theorem class2 (l : List UInt8) (h0 : l ≠ []) (h : 192 ≤ byt l 0 ∧ byt l 0 < 224) (hl : 2 ≤ l.length) (c1 : cont l 1) :
  (128 ≤ val l 192 2 ∧ sc (val l 192 2) = true → nextR l = val l 192 2 ∧ nextN l = 2) ∧ ((val l 192 2 < 128 ∨ sc (val l 192 2) = false) → nextR l = -1 ∧ nextN l = 1) := by
 unfold cont at c1
 rw [val_two]
 refine ⟨fun ⟨a, b⟩ => ?_, fun a => ?_⟩
 ·have s := sc_true b
  refine next_good h0 ?_ (by omega) (fun h => by cases h)
  rw [dec_by]; unfold Lib.decodeN
  rw [if_neg (by omega), if_pos (by omega), if_pos (by omega)]
  apply Prod.ext <;> simp only <;> omega
 ·refine next_bad h0 ?_
  have s : ((((byt l 0 : Nat) : Int) - 192) * 64 + (byt l 1 : Int) - 128) < 128 := by
   rcases a with a | a
   ·exact a
   ·have := sc_false a; omega
  rw [dec_by]; unfold Lib.decodeN
  rw [if_neg (by omega), if_pos (by omega), if_neg (by omega)]
theorem class3 (l : List UInt8) (h0 : l ≠ []) (h : 224 ≤ byt l 0 ∧ byt l 0 < 240) (hl : 3 ≤ l.length) (c1 : cont l 1) (c2 : cont l 2) :
  (2048 ≤ val l 224 3 ∧ sc (val l 224 3) = true → nextR l = val l 224 3 ∧ nextN l = 3) ∧ ((val l 224 3 < 2048 ∨ sc (val l 224 3) = false) → nextR l = -1 ∧ nextN l = 1) := by
 unfold cont at c1 c2
 rw [val_three]
 refine ⟨fun ⟨a, b⟩ => ?_, fun a => ?_⟩
 ·have s := sc_true b
  refine next_good h0 ?_ (by omega) (fun h => by cases h)
  rw [dec_by]; unfold Lib.decodeN
  rw [if_neg (by omega), if_neg (by omega), if_pos (by omega), if_pos (by omega)]
  apply Prod.ext <;> simp only <;> omega
 ·refine next_bad h0 ?_
  have s : (((((byt l 0 : Nat) : Int) - 224) * 64 + (byt l 1 : Int) - 128) * 64 + (byt l 2 : Int) - 128) < 2048 ∨ (55296 ≤ (((((byt l 0 : Nat) : Int) - 224) * 64 + (byt l 1 : Int) - 128) * 64 + (byt l 2 : Int) - 128) ∧ (((((byt l 0 : Nat) : Int) - 224) * 64 + (byt l 1 : Int) - 128) * 64 + (byt l 2 : Int) - 128) ≤ 57343) := by
   rcases a with a | a
   ·exact .inl a
   ·have := sc_false a; omega
  rw [dec_by]; unfold Lib.decodeN
  rw [if_neg (by omega), if_neg (by omega), if_pos (by omega), if_neg (by omega)]
theorem class4 (l : List UInt8) (h0 : l ≠ []) (h : 240 ≤ byt l 0 ∧ byt l 0 < 248) (hl : 4 ≤ l.length) (c1 : cont l 1) (c2 : cont l 2) (c3 : cont l 3) :
  (65536 ≤ val l 240 4 ∧ sc (val l 240 4) = true → nextR l = val l 240 4 ∧ nextN l = 4) ∧ ((val l 240 4 < 65536 ∨ sc (val l 240 4) = false) → nextR l = -1 ∧ nextN l = 1) := by
 unfold cont at c1 c2 c3
 rw [val_four]
 refine ⟨fun ⟨a, b⟩ => ?_, fun a => ?_⟩
 ·have s := sc_true b
  refine next_good h0 ?_ (by omega) (fun h => by cases h)
  rw [dec_by]; unfold Lib.decodeN
  rw [if_neg (by omega), if_neg (by omega), if_neg (by omega), if_pos (by omega), if_pos (by omega)]
  apply Prod.ext <;> simp only <;> omega
 ·refine next_bad h0 ?_
  have s : ((((((byt l 0 : Nat) : Int) - 240) * 64 + (byt l 1 : Int) - 128) * 64 + (byt l 2 : Int) - 128) * 64 + (byt l 3 : Int) - 128) < 65536 ∨ 1114111 < ((((((byt l 0 : Nat) : Int) - 240) * 64 + (byt l 1 : Int) - 128) * 64 + (byt l 2 : Int) - 128) * 64 + (byt l 3 : Int) - 128) := by
   rcases a with a | a
   ·exact .inl a
   ·have := sc_false a; omega
  rw [dec_by]; unfold Lib.decodeN
  rw [if_neg (by omega), if_neg (by omega), if_neg (by omega), if_pos (by omega), if_neg (by omega)]
theorem by_get (s : ByteArray) (i : Nat) (h : i < s.size) : byt s.data.toList i = (s[i]'h).toNat := by
 unfold byt
 have : s.data.toList.getD i 0 = s[i]'h := by
  have h' : i < s.data.toList.length := by rw [len_list]; exact h
  rw [List.getD_eq_getElem?_getD, List.getElem?_eq_getElem h']
  simp
  rfl
 rw [this]
theorem not_empty (s : ByteArray) (h : 0 < s.size) : s.toList.isEmpty = false := by
 rw [ByteArray.toList_eq, List.isEmpty_eq_false_iff]
 intro e
 have := congrArg List.length e
 rw [len_list] at this
 simp only [List.length_nil] at this
 omega
theorem is_empty (s : ByteArray) (h : s.size = 0) : s.toList.isEmpty = true := by
 rw [ByteArray.toList_eq, List.isEmpty_iff]
 apply List.eq_nil_of_length_eq_zero
 rw [len_list]; exact h
theorem list_ne (s : ByteArray) (h : 0 < s.size) : s.data.toList ≠ [] := by
 intro e
 have := congrArg List.length e
 rw [len_list] at this
 simp only [List.length_nil] at this
 omega
theorem val_succ (l : List UInt8) (a : Int) (k : Nat) (hk : 1 ≤ k) : val l a (k + 1) = val l a k * 64 + (byt l k : Int) - 128 := by
 obtain ⟨m, rfl⟩ : ∃ m, k = m + 1 := ⟨k - 1, by omega⟩
 rfl
theorem val_bound (l : List UInt8) (a : Int) (h0 : a ≤ (byt l 0 : Int)) (h1 : (byt l 0 : Int) < a + 32) : ∀ k, 1 ≤ k → k ≤ 4 → (∀ j, 1 ≤ j → j < k → cont l j) → 0 ≤ val l a k ∧ val l a k ≤ 8388607 := by
 intro k hk h4 hc
 have v1 : val l a 1 = (byt l 0 : Int) - a := rfl
 match k, hk, h4, hc with
 | 1, _, _, _ => rw [v1]; omega
 | 2, _, _, hc => have c1 := hc 1 (by omega) (by omega); unfold cont at c1; rw [val_two]; omega
 | 3, _, _, hc => have c1 := hc 1 (by omega) (by omega); have c2 := hc 2 (by omega) (by omega); unfold cont at c1 c2; rw [val_three]; omega
 | 4, _, _, hc => have c1 := hc 1 (by omega) (by omega); have c2 := hc 2 (by omega) (by omega); have c3 := hc 3 (by omega) (by omega); unfold cont at c1 c2 c3; rw [val_four]; omega
theorem code_one (s : ByteArray) (w : World) (hs : s.size ≤ 9223372036854775807) (h0 : 0 < s.size) (hb : byt s.data.toList 0 < 128) :
  Calls Tryd.prog 49 #[.string s] w fun e w' => e = .returned (.tuple #[.int .i32 (byt s.data.toList 0), .int .i64 1]) ∧ Below w.heap.size w w' := by
 have h255 := by_lt s.data.toList 0
 rw [by_get s 0 h0] at *
 have hne : s.toList.isEmpty = false := not_empty s h0
 go_enter Tryd.func49, Tryd.ntmps49
 go_wp2
 go_region
 go_wp2
 go_ret2
 exact ⟨rfl, (Below.refl _ w).drew⟩
theorem code_lowbad (s : ByteArray) (w : World) (hs : s.size ≤ 9223372036854775807) (h0 : 0 < s.size) (hb : 128 ≤ byt s.data.toList 0 ∧ byt s.data.toList 0 < 192) :
  Calls Tryd.prog 49 #[.string s] w fun e w' => e = .returned (.tuple #[.int .i32 (-1), .int .i64 1]) ∧ Below w.heap.size w w' := by
 have h255 := by_lt s.data.toList 0
 rw [by_get s 0 h0] at *
 have hne : s.toList.isEmpty = false := not_empty s h0
 go_enter Tryd.func49, Tryd.ntmps49
 go_wp2
 go_region
 go_wp2
 go_ret2
 exact ⟨rfl, (Below.refl _ w).drew⟩
theorem code_highbad (s : ByteArray) (w : World) (hs : s.size ≤ 9223372036854775807) (h0 : 0 < s.size) (hb : 248 ≤ byt s.data.toList 0) :
  Calls Tryd.prog 49 #[.string s] w fun e w' => e = .returned (.tuple #[.int .i32 (-1), .int .i64 1]) ∧ Below w.heap.size w w' := by
 have h255 := by_lt s.data.toList 0
 rw [by_get s 0 h0] at *
 have hne : s.toList.isEmpty = false := not_empty s h0
 go_enter Tryd.func49, Tryd.ntmps49
 go_wp2
 go_region
 go_wp2
 go_ret2
 exact ⟨rfl, (Below.refl _ w).drew⟩
theorem code_empty (s : ByteArray) (w : World) (h0 : s.size = 0) :
  Calls Tryd.prog 49 #[.string s] w fun e w' => e = .returned (.tuple #[.int .i32 (-1), .int .i64 0]) ∧ Below w.heap.size w w' := by
 have hne : s.toList.isEmpty = true := is_empty s h0
 clear h0
 go_enter Tryd.func49, Tryd.ntmps49
 go_wp2
 go_ret2
 exact ⟨rfl, Below.refl _ w⟩
end Go.Proofs.YtadaehaemmelfaaDoor.utfs
namespace Go.Proofs.YtadaehaemmelfaaDoor.utfs
open Go.RowKit
theorem two_of {P : Nat → Prop} {k : Nat} (h1 : 1 ≤ k) (h2 : k < 3) (h : ¬ P k) : ¬ P 1 ∨ ¬ P 2 := by
 rcases (show k = 1 ∨ k = 2 by omega) with e | e
 ·subst e; exact .inl h
 ·subst e; exact .inr h
theorem three_of {P : Nat → Prop} {k : Nat} (h1 : 1 ≤ k) (h2 : k < 4) (h : ¬ P k) : ¬ P 1 ∨ ¬ P 2 ∨ ¬ P 3 := by
 rcases (show k = 1 ∨ k = 2 ∨ k = 3 by omega) with e | e | e
 ·subst e; exact .inl h
 ·subst e; exact .inr (.inl h)
 ·subst e; exact .inr (.inr h)
theorem code_2 (s : ByteArray) (w : World) (hs : s.size ≤ 9223372036854775807) (h0 : 0 < s.size) (hb : 192 ≤ byt s.data.toList 0 ∧ byt s.data.toList 0 < 224) :
  Calls Tryd.prog 49 #[.string s] w fun e w' => e = .returned (.tuple #[.int .i32 (nextR s.data.toList), .int .i64 (nextN s.data.toList)]) ∧ Below w.heap.size w w' := by
 have hl := list_ne s h0
 have hne : s.toList.isEmpty = false := not_empty s h0
 have g0 := by_get s 0 h0
 have b0 : 192 ≤ s[0].toNat ∧ s[0].toNat < 224 := by rw [← g0]; exact hb
 have G0 := hide g0
 have HB := hide hb
 have HLN := hide (len_list s)
 clear g0 hb
 by_cases hlen : s.size < 2
 ·have hbad := class2_bad s.data.toList hl HB.out (.inl (by rw [len_list]; omega))
  rw [hbad.1, hbad.2]
  clear hbad hl
  go_enter Tryd.func49, Tryd.ntmps49
  go_wp2
  go_region
  go_wp2
  go_ret2
  exact ⟨rfl, (Below.refl _ w).drew⟩
 ·have ta128 : decide ((s[0].toNat : Int) < 128) = false := decide_eq_false (by omega)
  have tb192 : decide (192 ≤ (s[0].toNat : Int)) = true := decide_eq_true (by omega)
  have ta224 : decide ((s[0].toNat : Int) < 224) = true := decide_eq_true (by omega)
  go_enter Tryd.func49, Tryd.ntmps49
  go_wp2
  go_region
  go_wp2
  go_loopw [6, 7] (fun r i wr => ∃ k : Nat, Below w.heap.size w wr ∧ 1 ≤ k ∧ k ≤ 2 ∧ i = .int .i64 k ∧ r = .int .i64 (val s.data.toList 192 k) ∧ Hid (∀ j, 1 ≤ j → j < k → cont s.data.toList j)) (fun _ i _ => 2 - (intOf i).toNat)
  case atStart =>
   refine ⟨1, (Below.refl _ w).drew, by omega, by omega, rfl, ?_, fun j h1 h2 => by omega⟩
   have v1 : val s.data.toList 192 1 = (byt s.data.toList 0 : Int) - 192 := rfl
   rw [v1, G0.out]
  case round =>
   obtain ⟨k, hbw, hk1, hk2, rfl, rfl, hcon⟩ := hrel
   have hvb := val_bound s.data.toList 192 (by have := HB.out; omega) (by have := HB.out; omega) k hk1 (by omega) hcon.out
   have hvs := hide (val_succ s.data.toList 192 k hk1)
   by_cases hlt : k < 2
   ·have hks : k < s.size := by omega
    have gk := by_get s k hks
    have hk255 := by_lt s.data.toList k
    have GK := hide gk
    by_cases hct : cont s.data.toList k
    ·have hct' : 128 ≤ s[k].toNat ∧ s[k].toNat < 192 := by rw [← GK.out]; exact hct
     have hcon2 : Hid (∀ j, 1 ≤ j → j < k + 1 → cont s.data.toList j) := fun j h1 h2 => by
      by_cases e : j = k
      ·subst e; exact hct
      ·exact hcon.out j h1 (by omega)
     clear hct gk
     generalize val s.data.toList 192 k = v at *
     go_wp2
     go_roundw
     case rel => exact ⟨k + 1, hbw, by omega, by omega, by go_num, by rw [hvs.out, GK.out], hcon2⟩
     case measure => simp [intOf]; omega
    ·have hbad := class2_bad s.data.toList hl HB.out (.inr (by rwa [show k = 1 by omega] at hct))
     have hct' : s[k].toNat < 128 ∨ 192 ≤ s[k].toNat := by
      have : ¬ (128 ≤ byt s.data.toList k ∧ byt s.data.toList k < 192) := hct
      rw [GK.out] at this
      omega
     have HBAD := hide hbad
     clear hct gk hbad
     generalize val s.data.toList 192 k = v at *
     rcases hct' with hct' | hct'
     ·go_wp2
      go_ret2
      rw [HBAD.out.1, HBAD.out.2]
      exact ⟨rfl, hbw⟩
     ·go_wp2
      go_ret2
      rw [HBAD.out.1, HBAD.out.2]
      exact ⟨rfl, hbw⟩
   ·obtain rfl : k = 2 := by omega
    have hc := hcon.out
    obtain ⟨q1, q2⟩ := class2 s.data.toList hl HB.out (by rw [len_list]; omega) (hc 1 (by omega) (by omega))
    clear hc hvs
    generalize val s.data.toList 192 2 = v at *
    by_cases hle : v < 128
    ·have hbad := hide (q2 (.inl hle))
     clear q1 q2
     go_wp2
     go_ret2
     rw [hbad.out.1, hbad.out.2]
     exact ⟨rfl, hbw⟩
    ·cases hsc : sc v with
     | true =>
      have hgood := hide (q1 ⟨by omega, hsc⟩)
      have hsv := sc_true hsc
      have hc := scalar_any v wr
      rw [hsc] at hc
      have HC := hide hc
      clear q1 q2 hc hsc
      go_wp2_with fail
      refine (unhide HC).mono ?_
      rintro e w1 ⟨rfl, rfl⟩
      go_wp2_with fail
      go_ret2
      rw [hgood.out.1, hgood.out.2]
      exact ⟨rfl, hbw⟩
     | false =>
      have hbad := hide (q2 (.inr hsc))
      have hc := scalar_any v wr
      rw [hsc] at hc
      have HC := hide hc
      clear q1 q2 hc hsc
      go_wp2_with fail
      refine (unhide HC).mono ?_
      rintro e w1 ⟨rfl, rfl⟩
      go_wp2_with fail
      go_ret2
      rw [hbad.out.1, hbad.out.2]
      exact ⟨rfl, hbw⟩
theorem code_3 (s : ByteArray) (w : World) (hs : s.size ≤ 9223372036854775807) (h0 : 0 < s.size) (hb : 224 ≤ byt s.data.toList 0 ∧ byt s.data.toList 0 < 240) :
  Calls Tryd.prog 49 #[.string s] w fun e w' => e = .returned (.tuple #[.int .i32 (nextR s.data.toList), .int .i64 (nextN s.data.toList)]) ∧ Below w.heap.size w w' := by
 have hl := list_ne s h0
 have hne : s.toList.isEmpty = false := not_empty s h0
 have g0 := by_get s 0 h0
 have b0 : 224 ≤ s[0].toNat ∧ s[0].toNat < 240 := by rw [← g0]; exact hb
 have G0 := hide g0
 have HB := hide hb
 have HLN := hide (len_list s)
 clear g0 hb
 by_cases hlen : s.size < 3
 ·have hbad := class3_bad s.data.toList hl HB.out (.inl (by rw [len_list]; omega))
  rw [hbad.1, hbad.2]
  clear hbad hl
  go_enter Tryd.func49, Tryd.ntmps49
  go_wp2
  go_region
  go_wp2
  go_ret2
  exact ⟨rfl, (Below.refl _ w).drew⟩
 ·have ta128 : decide ((s[0].toNat : Int) < 128) = false := decide_eq_false (by omega)
  have tb192 : decide (192 ≤ (s[0].toNat : Int)) = true := decide_eq_true (by omega)
  have ta224 : decide ((s[0].toNat : Int) < 224) = false := decide_eq_false (by omega)
  have tb224 : decide (224 ≤ (s[0].toNat : Int)) = true := decide_eq_true (by omega)
  have ta240 : decide ((s[0].toNat : Int) < 240) = true := decide_eq_true (by omega)
  go_enter Tryd.func49, Tryd.ntmps49
  go_wp2
  go_region
  go_wp2
  go_loopw [6, 7] (fun r i wr => ∃ k : Nat, Below w.heap.size w wr ∧ 1 ≤ k ∧ k ≤ 3 ∧ i = .int .i64 k ∧ r = .int .i64 (val s.data.toList 224 k) ∧ Hid (∀ j, 1 ≤ j → j < k → cont s.data.toList j)) (fun _ i _ => 3 - (intOf i).toNat)
  case atStart =>
   refine ⟨1, (Below.refl _ w).drew, by omega, by omega, rfl, ?_, fun j h1 h2 => by omega⟩
   have v1 : val s.data.toList 224 1 = (byt s.data.toList 0 : Int) - 224 := rfl
   rw [v1, G0.out]
  case round =>
   obtain ⟨k, hbw, hk1, hk2, rfl, rfl, hcon⟩ := hrel
   have hvb := val_bound s.data.toList 224 (by have := HB.out; omega) (by have := HB.out; omega) k hk1 (by omega) hcon.out
   have hvs := hide (val_succ s.data.toList 224 k hk1)
   by_cases hlt : k < 3
   ·have hks : k < s.size := by omega
    have gk := by_get s k hks
    have hk255 := by_lt s.data.toList k
    have GK := hide gk
    by_cases hct : cont s.data.toList k
    ·have hct' : 128 ≤ s[k].toNat ∧ s[k].toNat < 192 := by rw [← GK.out]; exact hct
     have hcon2 : Hid (∀ j, 1 ≤ j → j < k + 1 → cont s.data.toList j) := fun j h1 h2 => by
      by_cases e : j = k
      ·subst e; exact hct
      ·exact hcon.out j h1 (by omega)
     clear hct gk
     generalize val s.data.toList 224 k = v at *
     go_wp2
     go_roundw
     case rel => exact ⟨k + 1, hbw, by omega, by omega, by go_num, by rw [hvs.out, GK.out], hcon2⟩
     case measure => simp [intOf]; omega
    ·have hbad := class3_bad s.data.toList hl HB.out (.inr (two_of hk1 hlt hct))
     have hct' : s[k].toNat < 128 ∨ 192 ≤ s[k].toNat := by
      have : ¬ (128 ≤ byt s.data.toList k ∧ byt s.data.toList k < 192) := hct
      rw [GK.out] at this
      omega
     have HBAD := hide hbad
     clear hct gk hbad
     generalize val s.data.toList 224 k = v at *
     rcases hct' with hct' | hct'
     ·go_wp2
      go_ret2
      rw [HBAD.out.1, HBAD.out.2]
      exact ⟨rfl, hbw⟩
     ·go_wp2
      go_ret2
      rw [HBAD.out.1, HBAD.out.2]
      exact ⟨rfl, hbw⟩
   ·obtain rfl : k = 3 := by omega
    have hc := hcon.out
    obtain ⟨q1, q2⟩ := class3 s.data.toList hl HB.out (by rw [len_list]; omega) (hc 1 (by omega) (by omega)) (hc 2 (by omega) (by omega))
    clear hc hvs
    generalize val s.data.toList 224 3 = v at *
    by_cases hle : v < 2048
    ·have hbad := hide (q2 (.inl hle))
     clear q1 q2
     go_wp2
     go_ret2
     rw [hbad.out.1, hbad.out.2]
     exact ⟨rfl, hbw⟩
    ·cases hsc : sc v with
     | true =>
      have hgood := hide (q1 ⟨by omega, hsc⟩)
      have hsv := sc_true hsc
      have hc := scalar_any v wr
      rw [hsc] at hc
      have HC := hide hc
      clear q1 q2 hc hsc
      go_wp2_with fail
      refine (unhide HC).mono ?_
      rintro e w1 ⟨rfl, rfl⟩
      go_wp2_with fail
      go_ret2
      rw [hgood.out.1, hgood.out.2]
      exact ⟨rfl, hbw⟩
     | false =>
      have hbad := hide (q2 (.inr hsc))
      have hc := scalar_any v wr
      rw [hsc] at hc
      have HC := hide hc
      clear q1 q2 hc hsc
      go_wp2_with fail
      refine (unhide HC).mono ?_
      rintro e w1 ⟨rfl, rfl⟩
      go_wp2_with fail
      go_ret2
      rw [hbad.out.1, hbad.out.2]
      exact ⟨rfl, hbw⟩
theorem code_4 (s : ByteArray) (w : World) (hs : s.size ≤ 9223372036854775807) (h0 : 0 < s.size) (hb : 240 ≤ byt s.data.toList 0 ∧ byt s.data.toList 0 < 248) :
  Calls Tryd.prog 49 #[.string s] w fun e w' => e = .returned (.tuple #[.int .i32 (nextR s.data.toList), .int .i64 (nextN s.data.toList)]) ∧ Below w.heap.size w w' := by
 have hl := list_ne s h0
 have hne : s.toList.isEmpty = false := not_empty s h0
 have g0 := by_get s 0 h0
 have b0 : 240 ≤ s[0].toNat ∧ s[0].toNat < 248 := by rw [← g0]; exact hb
 have G0 := hide g0
 have HB := hide hb
 have HLN := hide (len_list s)
 clear g0 hb
 by_cases hlen : s.size < 4
 ·have hbad := class4_bad s.data.toList hl HB.out (.inl (by rw [len_list]; omega))
  rw [hbad.1, hbad.2]
  clear hbad hl
  go_enter Tryd.func49, Tryd.ntmps49
  go_wp2
  go_region
  go_wp2
  go_ret2
  exact ⟨rfl, (Below.refl _ w).drew⟩
 ·have ta128 : decide ((s[0].toNat : Int) < 128) = false := decide_eq_false (by omega)
  have tb192 : decide (192 ≤ (s[0].toNat : Int)) = true := decide_eq_true (by omega)
  have ta224 : decide ((s[0].toNat : Int) < 224) = false := decide_eq_false (by omega)
  have tb224 : decide (224 ≤ (s[0].toNat : Int)) = true := decide_eq_true (by omega)
  have ta240 : decide ((s[0].toNat : Int) < 240) = false := decide_eq_false (by omega)
  have tb240 : decide (240 ≤ (s[0].toNat : Int)) = true := decide_eq_true (by omega)
  have ta248 : decide ((s[0].toNat : Int) < 248) = true := decide_eq_true (by omega)
  go_enter Tryd.func49, Tryd.ntmps49
  go_wp2
  go_region
  go_wp2
  go_loopw [6, 7] (fun r i wr => ∃ k : Nat, Below w.heap.size w wr ∧ 1 ≤ k ∧ k ≤ 4 ∧ i = .int .i64 k ∧ r = .int .i64 (val s.data.toList 240 k) ∧ Hid (∀ j, 1 ≤ j → j < k → cont s.data.toList j)) (fun _ i _ => 4 - (intOf i).toNat)
  case atStart =>
   refine ⟨1, (Below.refl _ w).drew, by omega, by omega, rfl, ?_, fun j h1 h2 => by omega⟩
   have v1 : val s.data.toList 240 1 = (byt s.data.toList 0 : Int) - 240 := rfl
   rw [v1, G0.out]
  case round =>
   obtain ⟨k, hbw, hk1, hk2, rfl, rfl, hcon⟩ := hrel
   have hvb := val_bound s.data.toList 240 (by have := HB.out; omega) (by have := HB.out; omega) k hk1 (by omega) hcon.out
   have hvs := hide (val_succ s.data.toList 240 k hk1)
   by_cases hlt : k < 4
   ·have hks : k < s.size := by omega
    have gk := by_get s k hks
    have hk255 := by_lt s.data.toList k
    have GK := hide gk
    by_cases hct : cont s.data.toList k
    ·have hct' : 128 ≤ s[k].toNat ∧ s[k].toNat < 192 := by rw [← GK.out]; exact hct
     have hcon2 : Hid (∀ j, 1 ≤ j → j < k + 1 → cont s.data.toList j) := fun j h1 h2 => by
      by_cases e : j = k
      ·subst e; exact hct
      ·exact hcon.out j h1 (by omega)
     clear hct gk
     generalize val s.data.toList 240 k = v at *
     go_wp2
     go_roundw
     case rel => exact ⟨k + 1, hbw, by omega, by omega, by go_num, by rw [hvs.out, GK.out], hcon2⟩
     case measure => simp [intOf]; omega
    ·have hbad := class4_bad s.data.toList hl HB.out (.inr (three_of hk1 hlt hct))
     have hct' : s[k].toNat < 128 ∨ 192 ≤ s[k].toNat := by
      have : ¬ (128 ≤ byt s.data.toList k ∧ byt s.data.toList k < 192) := hct
      rw [GK.out] at this
      omega
     have HBAD := hide hbad
     clear hct gk hbad
     generalize val s.data.toList 240 k = v at *
     rcases hct' with hct' | hct'
     ·go_wp2
      go_ret2
      rw [HBAD.out.1, HBAD.out.2]
      exact ⟨rfl, hbw⟩
     ·go_wp2
      go_ret2
      rw [HBAD.out.1, HBAD.out.2]
      exact ⟨rfl, hbw⟩
   ·obtain rfl : k = 4 := by omega
    have hc := hcon.out
    obtain ⟨q1, q2⟩ := class4 s.data.toList hl HB.out (by rw [len_list]; omega) (hc 1 (by omega) (by omega)) (hc 2 (by omega) (by omega)) (hc 3 (by omega) (by omega))
    clear hc hvs
    generalize val s.data.toList 240 4 = v at *
    by_cases hle : v < 65536
    ·have hbad := hide (q2 (.inl hle))
     clear q1 q2
     go_wp2
     go_ret2
     rw [hbad.out.1, hbad.out.2]
     exact ⟨rfl, hbw⟩
    ·cases hsc : sc v with
     | true =>
      have hgood := hide (q1 ⟨by omega, hsc⟩)
      have hsv := sc_true hsc
      have hc := scalar_any v wr
      rw [hsc] at hc
      have HC := hide hc
      clear q1 q2 hc hsc
      go_wp2_with fail
      refine (unhide HC).mono ?_
      rintro e w1 ⟨rfl, rfl⟩
      go_wp2_with fail
      go_ret2
      rw [hgood.out.1, hgood.out.2]
      exact ⟨rfl, hbw⟩
     | false =>
      have hbad := hide (q2 (.inr hsc))
      have hc := scalar_any v wr
      rw [hsc] at hc
      have HC := hide hc
      clear q1 q2 hc hsc
      go_wp2_with fail
      refine (unhide HC).mono ?_
      rintro e w1 ⟨rfl, rfl⟩
      go_wp2_with fail
      go_ret2
      rw [hbad.out.1, hbad.out.2]
      exact ⟨rfl, hbw⟩
theorem code_any (s : ByteArray) (w : World) (hs : s.size ≤ 9223372036854775807) :
  Calls Tryd.prog 49 #[.string s] w fun e w' => e = .returned (.tuple #[.int .i32 (nextR s.data.toList), .int .i64 (nextN s.data.toList)]) ∧ Below w.heap.size w w' := by
 by_cases h0 : 0 < s.size
 ·have hl := list_ne s h0
  by_cases h1 : byt s.data.toList 0 < 128
  ·have h := code_one s w hs h0 h1
   obtain ⟨e1, e2⟩ := class1 s.data.toList hl h1
   rw [e1, e2]; exact h
  ·by_cases h2 : byt s.data.toList 0 < 192
   ·have h := code_lowbad s w hs h0 ⟨by omega, h2⟩
    obtain ⟨e1, e2⟩ := class0 s.data.toList hl (.inl ⟨by omega, h2⟩)
    rw [e1, e2]; exact h
   ·by_cases h3 : byt s.data.toList 0 < 224
    ·exact code_2 s w hs h0 ⟨by omega, h3⟩
    ·by_cases h4 : byt s.data.toList 0 < 240
     ·exact code_3 s w hs h0 ⟨by omega, h4⟩
     ·by_cases h5 : byt s.data.toList 0 < 248
      ·exact code_4 s w hs h0 ⟨by omega, h5⟩
      ·have h := code_highbad s w hs h0 (by omega)
       obtain ⟨e1, e2⟩ := class0 s.data.toList hl (.inr (by omega))
       rw [e1, e2]; exact h
 ·have hz : s.size = 0 := by omega
  have h := code_empty s w hz
  have e : s.data.toList = [] := List.eq_nil_of_length_eq_zero (by rw [len_list]; exact hz)
  have e1 : nextR s.data.toList = -1 := by simp [nextR, e]
  have e2 : nextN s.data.toList = 0 := by simp [nextN, e]
  rw [e1, e2]; exact h
end Go.Proofs.YtadaehaemmelfaaDoor.utfs
namespace Go.Proofs.YtadaehaemmelfaaDoor.utfs
open Go.RowKit
theorem width_le {l : List UInt8} (h : l ≠ []) : (Lib.decodeL l).2 ≤ l.length := by
 rcases read_one l h with ⟨e, _⟩ | ⟨r, rest, hs, hl, e⟩
 ·rw [e]
  cases l with
  | nil => exact absurd rfl h
  | cons a b => simp
 ·rw [e, hl, List.length_append]; simp only; omega
theorem nextN_pos {l : List UInt8} (h : l ≠ []) : nextN l = (Lib.decodeL l).2 := by simp [nextN, h]
theorem drop_ne (s : ByteArray) (pos : Nat) (hp : pos < s.size) : s.data.toList.drop pos ≠ [] := by
 intro e
 have := congrArg List.length e
 rw [List.length_drop, len_list] at this
 simp only [List.length_nil] at this
 omega
theorem badPlace_any (s : ByteArray) (w : World) (hs : s.size ≤ 140737488355328) :
  Calls Tryd.prog 33 #[.string s] w fun e w' => e = .returned (.int .i64 (bad s.data.toList)) ∧ Below w.heap.size w w' := by
 go_enter Tryd.func33, Tryd.ntmps33
 go_wp2
 go_loopw [3] (fun i wr => ∃ (pos fuel : Nat), i = .int .i64 pos ∧ pos ≤ s.size ∧ Below w.heap.size w wr ∧ Hid (badF fuel pos (s.data.toList.drop pos) = bad s.data.toList) ∧ s.size ≤ pos + fuel) (fun i _ => s.size - (intOf i).toNat)
 case atStart => exact ⟨0, s.size, rfl, Nat.zero_le _, Below.refl _ _, rfl, by omega⟩
 case round =>
  obtain ⟨pos, fuel, rfl, hle, hbw, hacc, hfu⟩ := hrel
  by_cases hp : pos < s.size
  ·have hl := drop_ne s pos hp
   have hwl := width_le hl
   rw [List.length_drop, len_list] at hwl
   have hwd := width_ge (s.data.toList.drop pos)
   obtain ⟨f, rfl⟩ : ∃ f, fuel = f + 1 := ⟨fuel - 1, by omega⟩
   have hc := code_any (s.extract pos s.size) wr (by rw [ByteArray.size_extract]; omega)
   rw [ext_drop, nextN_pos hl] at hc
   have hneg := nextR_neg hl
   have hstep : badF (f + 1) pos (s.data.toList.drop pos) = if badB (s.data.toList.drop pos) = true then (pos : Int) else badF f (pos + (Lib.decodeL (s.data.toList.drop pos)).2) (s.data.toList.drop (pos + (Lib.decodeL (s.data.toList.drop pos)).2)) := by
    simp only [badF]
    rw [if_neg hl, List.drop_drop]
   have h2 := hacc.out
   rw [hstep] at h2
   have HA := hide h2
   have HC := hide hc
   clear hc h2 hstep hacc
   generalize nextR (s.data.toList.drop pos) = r at *
   generalize (Lib.decodeL (s.data.toList.drop pos)).2 = n at *
   cases hbb : badB (s.data.toList.drop pos) with
   | true =>
    rw [hbb] at HA hneg
    rw [if_pos rfl] at HA
    have hr : r < 0 := hneg.2 rfl
    clear hbb hneg
    go_wp2_with fail
    refine (unhide HC).mono ?_
    rintro e w1 ⟨rfl, b1⟩
    go_wp2_with fail
    go_ret
    rw [← HA.out]
    exact ⟨rfl, hbw.trans (b1.mono hbw.size)⟩
   | false =>
    rw [hbb] at HA hneg
    rw [if_neg (by simp)] at HA
    have hr : ¬ r < 0 := fun h => by have := hneg.1 h; cases this
    clear hbb hneg
    go_wp2_with fail
    refine (unhide HC).mono ?_
    rintro e w1 ⟨rfl, b1⟩
    go_wp2_with fail
    go_roundw
    case rel => exact ⟨pos + n, f, by go_num, by omega, hbw.trans (b1.mono hbw.size), HA, by omega⟩
    case measure => simp [intOf]; omega
  ·have hl : s.data.toList.drop pos = [] := List.drop_of_length_le (by rw [len_list]; omega)
   have h2 := hacc.out
   rw [hl, badF_nil] at h2
   have HA := hide h2
   clear h2 hl hacc
   go_wp2
   go_ret
   rw [← HA.out]
   exact ⟨rfl, hbw⟩
end Go.Proofs.YtadaehaemmelfaaDoor.utfs
