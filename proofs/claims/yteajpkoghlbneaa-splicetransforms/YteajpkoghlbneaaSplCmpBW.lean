/- The walks of package splice: composeBytes, transformBytes; take in one form. -/
import Derived.Test.YteajpkoghlbneaaSplTakeW
import Derived.Test.YteajpkoghlbneaaSplBothP
set_option linter.unusedVariables false
namespace Go.Proofs.Yteajpkoghlbneaa.spls
open Go.RowKit

theorem take_any (X : Nat → Prop) (R : Nat) (x : Pt) (n : Nat) (A : List Pt) (w : World) (h : Rd X R (x :: A) w) (hx : okP x) (hn : n ≤ szP x) (hm : szP x ≤ 20000) (hl : A.length ≤ 1000000) :
    Calls Try.prog 23 #[.pointer (some ⟨R, 0, none⟩), .int .i64 (n : Int)] w fun e w' => e = .returned (.tuple #[]) ∧ Rd X R (tk n x A) w' ∧ Chg X w w' := by
  obtain ⟨k, m, s⟩ := x
  have num : ∀ (k : Int) (m : Int), k ≠ 3 → 0 < m → n ≤ szP (k, m, []) → szP (k, m, []) ≤ 20000 → Rd X R ((k, m, []) :: A) w → Calls Try.prog 23 #[.pointer (some ⟨R, 0, none⟩), .int .i64 (n : Int)] w fun e w' => e = .returned (.tuple #[]) ∧ Rd X R (tk n (k, m, []) A) w' ∧ Chg X w w' := by
    intro k m hk hmp hn hm h
    obtain ⟨m', rfl⟩ : ∃ m' : Nat, m = (m' : Int) := ⟨m.toNat, by omega⟩
    have e : szP (k, (m' : Int), []) = m' := by simp [szP]
    rw [e] at hn hm
    unfold tk
    rw [e]
    by_cases hw : n = m'
    · rw [if_pos hw]
      exact takeN_whole X R k m' n A w h hk hw hm hl
    · rw [if_neg hw, if_neg (by show ¬ k = 3; exact hk)]
      exact takeN_part X R k m' n A w h hk (by omega) hm hl
  rcases hx with ⟨a, b, c⟩ | ⟨a, b, c⟩ | ⟨a, b, c⟩
  · replace a : k = 1 := a
    replace c : s = [] := c
    subst a c
    exact num 1 m (by decide) b hn hm h
  · replace a : k = 2 := a
    replace c : s = [] := c
    subst a c
    exact num 2 m (by decide) b hn hm h
  · replace a : k = 3 := a
    replace b : m = 0 := b
    subst a b
    have e : szP (3, (0 : Int), s) = s.length := by simp [szP]
    rw [e] at hn hm
    unfold tk
    rw [e]
    by_cases hw : n = s.length
    · rw [if_pos hw]
      exact takeT_whole X R s n A w h hw hm hl
    · rw [if_neg hw, if_pos (by rfl)]
      exact takeT_part X R s n A w h (by omega) hm hl
/-- What one does with the next n bytes. -/
def midC (p q : Pt) (n : Nat) : List M := if p.1 = 1 then (if q.1 = 1 then keepsM n else cutsM n) else if q.1 = 1 then putsM (p.2.2.take n) else []
abbrev agg3 (x : Pt) : Value := .agg #[.int .i64 x.1, .int .i64 x.2.1, .string ⟨x.2.2.toArray⟩]
end Go.Proofs.Yteajpkoghlbneaa.spls
