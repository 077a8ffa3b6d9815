/- Of our texts, what this claim reaches. -/
import Derived.Test.YtnbfnjhbmeocfaaGreatDoorProg
import Derived.Test.YtnbfnjhbmeocfaaGreatDoorPgoAA
import Derived.WalkKit
import Derived.WalkSmall
import Derived.OwnWalk
import Derived.BigCall
import Derived.Maps.AppendAt
import Derived.Laws.OwnMore
import Derived.Below
set_option linter.unusedVariables false
namespace Go.Proofs.YtnbfnjhbmeocfaaGreatDoor.bigs
open Go.RowKit

theorem hide {p : Prop} (h : p) : Hid p := h
theorem unhide {p : Prop} (h : Hid p) : p := h
def Row (w : World) (a : Option Addr) (l : List Nat) : Prop :=
  l ≠ [] → ∃ b o, a = some ⟨b, o, none⟩ ∧ b < w.heap.size ∧ ∀ j, j < l.length → w.cell? ⟨b, o + j, none⟩ = some (.int .i64 ((l.getD j 0 : Nat) : Int))
def Lies (w : World) (v : Value) (n : Nat) : Prop := ∃ a cap, v = .slice a (dig n).length cap ∧ (dig n).length ≤ cap ∧ Row w a (dig n)

theorem Row.below {w w' : World} {a : Option Addr} {l : List Nat} (h : Row w a l) (hb : Below w.heap.size w w') : Row w' a l := by
  intro h0
  obtain ⟨b, o, e, hlt, hc⟩ := h h0
  refine ⟨b, o, e, Nat.lt_of_lt_of_le hlt hb.size, fun j hj => ?_⟩
  rw [hb.cell (p := ⟨b, o + j, none⟩) hlt]
  exact hc j hj
theorem Lies.below {w w' : World} {v : Value} {n : Nat} (h : Lies w v n) (hb : Below w.heap.size w w') : Lies w' v n := by
  obtain ⟨a, cap, e, hc, hr⟩ := h
  exact ⟨a, cap, e, hc, hr.below hb⟩
theorem Row.take {w : World} {a : Option Addr} {l : List Nat} (h : Row w a l) (k : Nat) : Row w a (l.take k) := by
  intro h0
  have hl : l ≠ [] := fun e => h0 (by rw [e, List.take_nil])
  obtain ⟨b, o, e, hlt, hc⟩ := h hl
  refine ⟨b, o, e, hlt, fun j hj => ?_⟩
  rw [List.length_take] at hj
  rw [hc j (by omega)]
  simp [List.getD, show j < k by omega]
theorem own_ge {w : World} {base e n : Nat} {v : Value} {xs : List Value} (h : w.ownsRow base e 1 v n xs) : ∀ g, v.ownBlock = some g → base ≤ g := fun g hg => (h.lt g hg).1
def slen : Value → Nat
  | .slice _ n _ => n
  | _ => 0

set_option maxHeartbeats 2000000 in
theorem cut_any (w : World) (a : Option Addr) (l : List Nat) (cap : Nat) (hl : l.length ≤ 1152921504606846975) (hcap : l.length ≤ cap) (h : Row w a l) (hs : Small10 l) :
    Calls Tryz.prog 108 #[.slice a l.length cap] w fun e w' => ∃ v, e = .returned v ∧ Lies w' v (val l) ∧ v.ownBlock = (Value.slice a l.length cap).ownBlock ∧ w' = w := by
  go_enter Tryz.func108, Tryz.ntmps108
  go_wp2
  go_loopw [0] (fun v wr => ∃ (k : Nat), k ≤ l.length ∧ v = .slice a k cap ∧ Hid (val (l.take k) = val l) ∧ wr = w) (fun v _ => slen v)
  case atStart => exact ⟨l.length, Nat.le_refl _, rfl, by show val _ = _; rw [List.take_length], rfl⟩
  case round =>
    obtain ⟨k, hk, rfl, hv, rfl⟩ := hrel
    cases k with
    | zero =>
      have hfin : Lies wr (.slice a 0 cap) (val l) := by
        have e : val l = 0 := by rw [← hv.out]; rfl
        rw [e]
        refine ⟨a, cap, by rw [dig_zero]; rfl, by rw [dig_zero]; simp, ?_⟩
        rw [dig_zero]; exact fun h => absurd rfl h
      have HF := hide hfin
      clear hfin hv
      go_wp2
      go_ret
      exact ⟨_, rfl, HF.out, by cases a <;> rfl, rfl⟩
    | succ m =>
      obtain ⟨b, o, rfl, hb, hc⟩ := h (by intro e; rw [e] at hk; simp at hk)
      have c := hc m (by omega)
      by_cases h0 : l.getD m 0 = 0
      · have hv2 : Hid (val (l.take m) = val l) := by
          have := val_take_succ l m (by omega)
          rw [h0] at this
          show val (l.take m) = val l
          rw [← hv.out, this]; omega
        rw [h0] at c
        clear hc hv h0
        go_wp2
        go_roundw
        case rel => exact ⟨m, by omega, rfl, hv2, by trivial⟩
        case measure => simp only [slen]; omega
      · have hfin : Lies wr (.slice (some ⟨b, o, none⟩) (m + 1) cap) (val l) := by
          have e : dig (val l) = l.take (m + 1) := by
            rw [← hv.out]
            apply dig_uniq
            · intro j hj
              rw [List.length_take] at hj
              have : (l.take (m + 1)).getD j 0 = l.getD j 0 := by simp [List.getD, show j < m + 1 by omega]
              rw [this]
              exact hs j (by omega)
            · right
              rw [List.length_take, Nat.min_eq_left (by omega)]
              have : (l.take (m + 1)).getD (m + 1 - 1) 0 = l.getD m 0 := by simp [List.getD]
              rw [this]
              exact h0
          have e2 : (l.take (m + 1)).length = m + 1 := by rw [List.length_take]; omega
          refine ⟨some ⟨b, o, none⟩, cap, by rw [e, e2], by rw [e, e2]; omega, ?_⟩
          rw [e]
          exact h.take (m + 1)
        have HF := hide hfin
        have h0' : (((l.getD m 0 : Nat) : Int) == 0) = false := beq_false_of_ne (by omega)
        clear hfin hv hc h0
        generalize l.getD m 0 = x at *
        go_wp2
        go_ret
        exact ⟨_, rfl, HF.out, rfl, rfl⟩

end Go.Proofs.YtnbfnjhbmeocfaaGreatDoor.bigs
set_option linter.unusedVariables false
namespace Go.Proofs.YtnbfnjhbmeocfaaGreatDoor.bigs
open Go.RowKit

def sgn (m n : Nat) : Int := if m < n then -1 else if n < m then 1 else 0
theorem sgn_lt {m n : Nat} (h : m < n) : sgn m n = -1 := by unfold sgn; rw [if_pos h]
theorem sgn_gt {m n : Nat} (h : n < m) : sgn m n = 1 := by unfold sgn; rw [if_neg (by omega), if_pos h]
theorem sgn_eq {m n : Nat} (h : m = n) : sgn m n = 0 := by subst h; unfold sgn; rw [if_neg (by omega), if_neg (by omega)]

end Go.Proofs.YtnbfnjhbmeocfaaGreatDoor.bigs
