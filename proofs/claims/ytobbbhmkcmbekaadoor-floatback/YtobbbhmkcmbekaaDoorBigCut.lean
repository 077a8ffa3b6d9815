/- The walks of the document's answer: cut, at, Small. -/
import Derived.Test.YtobbbhmkcmbekaaDoorProg
import Derived.Test.YtobbbhmkcmbekaaDoorBigPlain
import Derived.WalkKit
import Derived.WalkSmall
import Derived.OwnWalk
import Derived.BigCall
import Derived.Maps.AppendAt
import Derived.Laws.OwnMore
import Derived.Below
set_option linter.unusedVariables false
namespace Go.Proofs.YtobbbhmkcmbekaaDoor.bigs
open Go.RowKit

theorem hide {p : Prop} (h : p) : Hid p := h
theorem unhide {p : Prop} (h : Hid p) : p := h
theorem infoInt : (Tryd.prog.info? 3).map (fun i => (i.zero, i.size, i.bytes)) = some (some (.int .i64 0), 1, 8) := by kernel_rfl

/-- A digit as a value. -/
def num (n : Nat) : Value := .int .i64 (n : Int)
/-- A slice whose elements lie in memory. -/
def Row (w : World) (a : Option Addr) (l : List Nat) : Prop :=
  l ≠ [] → ∃ b o, a = some ⟨b, o, none⟩ ∧ b < w.heap.size ∧ ∀ j, j < l.length → w.cell? ⟨b, o + j, none⟩ = some (.int .i64 ((l.getD j 0 : Nat) : Int))
/-- A number lies in memory. -/
def Lies (w : World) (v : Value) (n : Nat) : Prop := ∃ a cap, v = .slice a (dig n).length cap ∧ (dig n).length ≤ cap ∧ Row w a (dig n)

theorem Row.below {w w' : World} {a : Option Addr} {l : List Nat} (h : Row w a l) (hb : Below w.heap.size w w') : Row w' a l := by
  intro h0
  obtain ⟨b, o, e, hlt, hc⟩ := h h0
  refine ⟨b, o, e, Nat.lt_of_lt_of_le hlt hb.size, fun j hj => ?_⟩
  rw [hb.cell (p := ⟨b, o + j, none⟩) hlt]
  exact hc j hj
theorem Lies.below {w w' : World} {v : Value} {n : Nat} (h : Lies w v n) (hb : Below w.heap.size w w') : Lies w' v n := by
  obtain ⟨a, cap, e, hc, hr⟩ := h
  exact ⟨a, cap, e, hc, hr.below hb⟩
theorem Row.take {w : World} {a : Option Addr} {l : List Nat} (h : Row w a l) (k : Nat) : Row w a (l.take k) := by
  intro h0
  have hl : l ≠ [] := fun e => h0 (by rw [e, List.take_nil])
  obtain ⟨b, o, e, hlt, hc⟩ := h hl
  refine ⟨b, o, e, hlt, fun j hj => ?_⟩
  rw [List.length_take] at hj
  rw [hc j (by omega)]
  simp [List.getD, show j < k by omega]
theorem row_own {w : World} {base : Nat} {v : Value} {l : List Nat} (h : w.ownsRow base 3 1 v l.length (l.map num)) :
    ∃ a cap, v = .slice a l.length cap ∧ l.length ≤ cap ∧ Row w a l := by
  have h' := h
  rcases h.2 with ⟨rfl, h0⟩ | ⟨g, cap, cur, rfl, _, hg, hcap, _⟩
  · have : l = [] := List.eq_nil_of_length_eq_zero h0
    subst this
    exact ⟨none, 0, rfl, by simp, fun h => absurd rfl h⟩
  · refine ⟨_, cap, rfl, hcap, fun _ => ⟨g, 0, rfl, (Array.getElem?_eq_some_iff.1 hg).1, fun j hj => ?_⟩⟩
    rw [Nat.zero_add, h'.cellAt j (by omega)]
    simp [num, List.getD, List.getElem?_eq_getElem hj]
theorem own_ge {w : World} {base e n : Nat} {v : Value} {xs : List Value} (h : w.ownsRow base e 1 v n xs) : ∀ g, v.ownBlock = some g → base ≤ g := fun g hg => (h.lt g hg).1
/-- A slice that lies from block B on. -/
def Fresh (B : Nat) (v : Value) : Prop := ∀ g, v.ownBlock = some g → B ≤ g
/-- How long a slice is. -/
def slen : Value → Nat
  | .slice _ n _ => n
  | _ => 0

set_option maxHeartbeats 1000000 in
theorem at_any (w : World) (a : Option Addr) (l : List Nat) (cap j : Nat) (hl : l.length ≤ 1152921504606846975) (h : Row w a l) :
    Calls Tryd.prog 62 #[.slice a l.length cap, .int .i64 j] w fun e w' => e = .returned (.int .i64 ((l.getD j 0 : Nat) : Int)) ∧ w' = w := by
  by_cases hj : j < l.length
  · obtain ⟨b, o, rfl, hb, hc⟩ := h (by intro e; rw [e] at hj; simp at hj)
    have c := hc j hj
    clear hc
    generalize l.getD j 0 = x at *
    go_enter Tryd.func62, Tryd.ntmps62
    go_wp2
    go_ret
    exact ⟨rfl, rfl⟩
  · have e : l.getD j 0 = 0 := by rw [List.getD, List.getElem?_eq_none (by omega)]; rfl
    rw [e]
    go_enter Tryd.func62, Tryd.ntmps62
    go_wp2
    go_ret
    exact ⟨rfl, rfl⟩

set_option maxHeartbeats 2000000 in
theorem cut_any (w : World) (a : Option Addr) (l : List Nat) (cap : Nat) (hl : l.length ≤ 1152921504606846975) (hcap : l.length ≤ cap) (h : Row w a l) (hs : Small10 l) :
    Calls Tryd.prog 63 #[.slice a l.length cap] w fun e w' => ∃ v, e = .returned v ∧ Lies w' v (val l) ∧ v.ownBlock = (Value.slice a l.length cap).ownBlock ∧ w' = w := by
  go_enter Tryd.func63, Tryd.ntmps63
  go_wp2
  go_loopw [0] (fun v wr => ∃ (k : Nat), k ≤ l.length ∧ v = .slice a k cap ∧ Hid (val (l.take k) = val l) ∧ wr = w) (fun v _ => slen v)
  case atStart => exact ⟨l.length, Nat.le_refl _, rfl, by show val _ = _; rw [List.take_length], rfl⟩
  case round =>
    obtain ⟨k, hk, rfl, hv, rfl⟩ := hrel
    cases k with
    | zero =>
      have hfin : Lies wr (.slice a 0 cap) (val l) := by
        have e : val l = 0 := by rw [← hv.out]; rfl
        rw [e]
        refine ⟨a, cap, by rw [dig_zero]; rfl, by rw [dig_zero]; simp, ?_⟩
        rw [dig_zero]; exact fun h => absurd rfl h
      have HF := hide hfin
      clear hfin hv
      go_wp2
      go_ret
      exact ⟨_, rfl, HF.out, by cases a <;> rfl, rfl⟩
    | succ m =>
      obtain ⟨b, o, rfl, hb, hc⟩ := h (by intro e; rw [e] at hk; simp at hk)
      have c := hc m (by omega)
      by_cases h0 : l.getD m 0 = 0
      · have hv2 : Hid (val (l.take m) = val l) := by
          have := val_take_succ l m (by omega)
          rw [h0] at this
          show val (l.take m) = val l
          rw [← hv.out, this]; omega
        rw [h0] at c
        clear hc hv h0
        go_wp2
        go_roundw
        case rel => exact ⟨m, by omega, rfl, hv2, by trivial⟩
        case measure => simp only [slen]; omega
      · have hfin : Lies wr (.slice (some ⟨b, o, none⟩) (m + 1) cap) (val l) := by
          have e : dig (val l) = l.take (m + 1) := by
            rw [← hv.out]
            apply dig_uniq
            · intro j hj
              rw [List.length_take] at hj
              have : (l.take (m + 1)).getD j 0 = l.getD j 0 := by simp [List.getD, show j < m + 1 by omega]
              rw [this]
              exact hs j (by omega)
            · right
              rw [List.length_take, Nat.min_eq_left (by omega)]
              have : (l.take (m + 1)).getD (m + 1 - 1) 0 = l.getD m 0 := by simp [List.getD]
              rw [this]
              exact h0
          have e2 : (l.take (m + 1)).length = m + 1 := by rw [List.length_take]; omega
          refine ⟨some ⟨b, o, none⟩, cap, by rw [e, e2], by rw [e, e2]; omega, ?_⟩
          rw [e]
          exact h.take (m + 1)
        have HF := hide hfin
        have h0' : (((l.getD m 0 : Nat) : Int) == 0) = false := beq_false_of_ne (by omega)
        clear hfin hv hc h0
        generalize l.getD m 0 = x at *
        go_wp2
        go_ret
        exact ⟨_, rfl, HF.out, rfl, rfl⟩

set_option maxHeartbeats 2000000 in
set_option maxRecDepth 100000 in
theorem small_any (n : Nat) (w : World) (hn : n < 18446744073709551616) :
    Calls Tryd.prog 32 #[.int .u64 n] w fun e w' => ∃ v, e = .returned v ∧ Lies w' v n ∧ Fresh w.heap.size v ∧ Below w.heap.size w w' := by
  obtain ⟨i0, hi, hz0, hz1, hz2⟩ := info_parts infoInt
  go_enter Tryd.func32, Tryd.ntmps32
  go_wp2
  go_loopw [0, 3] (fun m v wr => ∃ (k : Nat) (l : List Nat), k < 18446744073709551616 ∧ m = .int .u64 k ∧ wr.ownsRow w.heap.size 3 1 v l.length (l.map num) ∧ Hid (l ++ dig k = dig n) ∧ l.length ≤ 10 ∧ Below w.heap.size w wr) (fun m _ _ => (intOf m).toNat)
  case atStart => exact ⟨n, [], hn, rfl, World.ownsRow_nil _ _ _ _, rfl, by simp, Below.refl _ _⟩
  case round =>
    obtain ⟨k, l, hk, rfl, hown, hd, hl, hbw⟩ := hrel
    by_cases h0 : k = 0
    · subst h0
      have e : l = dig n := by rw [← hd.out, dig_zero, List.append_nil]
      have hfr := hide (own_ge hown)
      obtain ⟨a, cap, rfl, hc, hr⟩ := row_own hown
      have HF : Hid (Lies wr (.slice a l.length cap) n) := ⟨a, cap, by rw [e], by rw [← e]; exact hc, by rw [← e]; exact hr⟩
      clear hd hown hr e
      go_wp2
      go_ret
      exact ⟨_, rfl, HF.out, unhide hfr, hbw⟩
    · have hd2 : Hid ((l ++ [k % 10000]) ++ dig (k / 10000) = dig n) := by
        show _ = _
        rw [← hd.out, dig_pos h0, List.append_assoc]; rfl
      have hl2 : l.length + 1 ≤ 10 := by
        have e1 : (dig n).length ≤ 5 := dig_length_le (Nat.lt_of_lt_of_le hn (by decide))
        have e2 := congrArg List.length hd2.out
        rw [List.length_append, List.length_append, List.length_singleton] at e2
        omega
      clear hd
      go_wp2_with (at_builtin; refine wpList_append_own _ rfl _ _ 51 rfl w.heap.size 3 i0 (.int .i64 0) 1 8 Tryd.underlying51 hi hz0 hz1 hz2 rfl (by decide) _ _ _ rfl (hown.alloc _) ⟨wr.heap.size, 0, none⟩ 1 1 [.int .i64 ((k % 10000 : Nat) : Int)] rfl rfl ?c1 ?c2 ?c3 ?c4 ?c5 ?_)
      case c1 => exact cell_one_new _ _ _
      case c2 => intro u hu; simp at hu; subst hu; rfl
      case c3 => unfold maxLen; omega
      case c4 => omega
      case c5 => have := hbw.size; simp; omega
      intro v' w2 hown' hgrow _
      have hbw2 : Below w.heap.size w w2 := (hbw.alloc hbw.size _).grown hgrow (by have := hbw.size; simp; omega) (own_ge hown)
      clear hgrow hown
      go_wp2
      go_roundw
      case rel =>
        refine ⟨k / 10000, l ++ [k % 10000], by omega, by go_num, ?_, hd2, by simpa using hl2, hbw2⟩
        simpa [num] using hown'
      case measure => simp only [intOf]; omega
end Go.Proofs.YtobbbhmkcmbekaaDoor.bigs
