/- The walks of the document's answer: Words. -/
import Derived.Test.YtobbbhmkcmbekabDoorBigWords
set_option linter.unusedVariables false
namespace Go.Proofs.YtobbbhmkcmbekabDoor.bigs
open Go.RowKit

/-- The words of a number, the least first, none of them 0 at the end. -/
def wdigG : Nat → Nat → List Nat
  | 0, _ => []
  | f + 1, n => if n = 0 then [] else n % 4294967296 :: wdigG f (n / 4294967296)
theorem wdigG_zero (f : Nat) : wdigG f 0 = [] := by cases f <;> rfl
theorem wdigG_same (n : Nat) : ∀ (f g : Nat), n ≤ f → n ≤ g → wdigG f n = wdigG g n := by
  induction n using Nat.strongRecOn with
  | ind n ih =>
    intro f g hf hg
    by_cases h : n = 0
    · rw [h, wdigG_zero, wdigG_zero]
    · obtain ⟨f', rfl⟩ : ∃ f', f = f' + 1 := ⟨f - 1, by omega⟩
      obtain ⟨g', rfl⟩ : ∃ g', g = g' + 1 := ⟨g - 1, by omega⟩
      rw [wdigG, wdigG, if_neg h, if_neg h, ih (n / 4294967296) (by omega) f' g' (by omega) (by omega)]
def wdig (n : Nat) : List Nat := wdigG n n
theorem wdig_zero : wdig 0 = [] := rfl
theorem wdig_pos {n : Nat} (h : n ≠ 0) : wdig n = n % 4294967296 :: wdig (n / 4294967296) := by
  obtain ⟨m, rfl⟩ : ∃ m, n = m + 1 := ⟨n - 1, by omega⟩
  unfold wdig
  rw [wdigG, if_neg h, wdigG_same ((m + 1) / 4294967296) m ((m + 1) / 4294967296) (by omega) (Nat.le_refl _)]
theorem wval_wdig (n : Nat) : wval (wdig n) = n := by
  induction n using Nat.strongRecOn with
  | ind n ih =>
    by_cases h : n = 0
    · subst h; rw [wdig_zero]; rfl
    · rw [wdig_pos h, wval, ih _ (by omega)]; omega
theorem wdig_len (n : Nat) : (wdig n).length ≤ (dig n).length := by
  induction n using Nat.strongRecOn with
  | ind n ih =>
    by_cases h : n = 0
    · subst h; rw [wdig_zero]; simp
    · rw [wdig_pos h, dig_pos h, List.length_cons, List.length_cons]
      have h1 := ih (n / 4294967296) (by omega)
      have h2 : (dig (n / 4294967296)).length ≤ (dig (n / 10000)).length := dig_len_mono (by omega)
      omega
theorem val_drop_le (l : List Nat) : ∀ k, val (l.drop k) ≤ val l := by
  induction l with
  | nil => intro k; rw [List.drop_nil]; exact Nat.le_refl _
  | cons d r ih =>
    intro k
    cases k with
    | zero => exact Nat.le_refl _
    | succ k => rw [List.drop_succ_cons, val]; have := ih k; omega
theorem infoU : (Tryd.prog.info? 30).map (fun i => (i.zero, i.size, i.bytes)) = some (some (.int .u32 0), 1, 4) := by kernel_rfl
/-- A word as a value. -/
def wrd (n : Nat) : Value := .int .u32 (n : Int)
theorem rowU_own {w : World} {base : Nat} {v : Value} {l : List Nat} (h : w.ownsRow base 30 1 v l.length (l.map wrd)) :
    ∃ a cap, v = .slice a l.length cap ∧ l.length ≤ cap ∧ RowU w a l := by
  have h' := h
  rcases h.2 with ⟨rfl, h0⟩ | ⟨g, cap, cur, rfl, _, hg, hcap, _⟩
  · have : l = [] := List.eq_nil_of_length_eq_zero h0
    subst this
    exact ⟨none, 0, rfl, by simp, fun h => absurd rfl h⟩
  · refine ⟨_, cap, rfl, hcap, fun _ => ⟨g, 0, rfl, (Array.getElem?_eq_some_iff.1 hg).1, fun j hj => ?_⟩⟩
    rw [Nat.zero_add, h'.cellAt j (by omega)]
    simp [wrd, List.getD, List.getElem?_eq_getElem hj]
theorem Lies.grown {w w' : World} {v : Value} {n : Nat} {row : Option Nat} (h : Lies w v n) (hg : w.grownBy w' row) (hne : ∀ b, v.ownBlock = some b → row ≠ some b) : Lies w' v n := by
  obtain ⟨a, cap, rfl, hc, hr⟩ := h
  refine ⟨a, cap, rfl, hc, fun h0 => ?_⟩
  obtain ⟨b, o, rfl, hb, hcell⟩ := hr h0
  have hbg := hne b rfl
  refine ⟨b, o, rfl, Nat.lt_of_lt_of_le hb hg.size, fun j hj => ?_⟩
  exact hg.cell (hcell j hj) (fun e => hbg e.symm)

end Go.Proofs.YtobbbhmkcmbekabDoor.bigs
