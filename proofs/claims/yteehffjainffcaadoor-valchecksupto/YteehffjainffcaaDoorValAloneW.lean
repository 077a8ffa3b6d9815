/- The program's checkAlone. -/
import Derived.Test.YteehffjainffcaaDoorValKindW
set_option linter.unusedVariables false
namespace Go.Proofs.YteehffjainffcaaDoor.valus
open Go.RowKit

theorem fparts_zero : (fparts 0).2.2 ≠ 2 := by decide
theorem kind_any (w : World) (B o : Nat) (k n : Int) (b : Nat) (s : ByteArray) (pL : Option Addr) (nL cL : Nat) (pE : Option Addr) (nE cE : Nat) (hb : b < 18446744073709551616) (h : Six w B o k n b s pL nL cL pE nE cE) :
    Calls Tryd.prog 14 #[.pointer (some ⟨B, o, none⟩)] w fun e w' => e = .returned (.bool (decide (KindOk k n b s.data.toList nL nE))) ∧ Below w.heap.size w w' := by
  have key : ∀ {p q : Prop} [Decidable p] [Decidable q], (p ↔ q) → (∀ (e : Ending) (w' : World), (e = .returned (.bool (decide p)) ∧ Below w.heap.size w w') → (e = .returned (.bool (decide q)) ∧ Below w.heap.size w w')) := by
    intro p q _ _ h e w' ⟨h1, h2⟩
    exact ⟨by rw [h1, decide_eq_decide.2 h], h2⟩
  have fz : b = 0 → ((fparts b).2.2 = 2 → b = 9221120237041090561) := fun h h' => by
    subst h
    exact absurd h' fparts_zero
  by_cases k0 : k = 0
  · subst k0
    refine (kind0 w B o n b s pL nL cL pE nE cE hb h).mono (key ⟨fun ⟨a1, a2, a3, a4, a5⟩ => ⟨⟨by omega, by omega⟩, .inl a1, fun h => by omega, .inl a2, .inl a3, .inl a4, .inl a5, fz a2⟩, fun ⟨_, a1, _, a2, a3, a4, a5, _⟩ => ⟨a1.elim (fun h => h) (fun h => by omega), a2.elim (fun h => h) (fun h => by omega), a3.elim (fun h => h) (fun h => by omega), a4.elim (fun h => h) (fun h => by omega), a5.elim (fun h => h) (fun h => by omega)⟩⟩)
  by_cases k1 : k = 1
  · subst k1
    refine (kind1 w B o n b s pL nL cL pE nE cE hb h).mono (key ⟨fun ⟨a1, a2, a3, a4, a5⟩ => ⟨⟨by omega, by omega⟩, .inr (.inl rfl), fun _ => a1, .inl a2, .inl a3, .inl a4, .inl a5, fz a2⟩, fun ⟨_, _, a1, a2, a3, a4, a5, _⟩ => ⟨a1 rfl, a2.elim (fun h => h) (fun h => by omega), a3.elim (fun h => h) (fun h => by omega), a4.elim (fun h => h) (fun h => by omega), a5.elim (fun h => h) (fun h => by omega)⟩⟩)
  by_cases k2 : k = 2
  · subst k2
    refine (kind2 w B o n b s pL nL cL pE nE cE hb h).mono (key ⟨fun ⟨a2, a3, a4, a5⟩ => ⟨⟨by omega, by omega⟩, .inr (.inr rfl), fun h => by omega, .inl a2, .inl a3, .inl a4, .inl a5, fz a2⟩, fun ⟨_, _, _, a2, a3, a4, a5, _⟩ => ⟨a2.elim (fun h => h) (fun h => by omega), a3.elim (fun h => h) (fun h => by omega), a4.elim (fun h => h) (fun h => by omega), a5.elim (fun h => h) (fun h => by omega)⟩⟩)
  by_cases k3 : k = 3
  · subst k3
    refine (kind3 w B o n b s pL nL cL pE nE cE hb h).mono (key ⟨fun ⟨a0, a1, a3, a4, a5⟩ => ⟨⟨by omega, by omega⟩, .inl a1, fun h => by omega, .inr rfl, .inl a3, .inl a4, .inl a5, a0⟩, fun ⟨_, a1, _, _, a3, a4, a5, a0⟩ => ⟨a0, a1.elim (fun h => h) (fun h => by omega), a3.elim (fun h => h) (fun h => by omega), a4.elim (fun h => h) (fun h => by omega), a5.elim (fun h => h) (fun h => by omega)⟩⟩)
  by_cases k4 : k = 4
  · subst k4
    refine (kind4 w B o n b s pL nL cL pE nE cE hb h).mono (key ⟨fun ⟨a1, a2, a4, a5⟩ => ⟨⟨by omega, by omega⟩, .inl a1, fun h => by omega, .inl a2, .inr rfl, .inl a4, .inl a5, fz a2⟩, fun ⟨_, a1, _, a2, _, a4, a5, _⟩ => ⟨a1.elim (fun h => h) (fun h => by omega), a2.elim (fun h => h) (fun h => by omega), a4.elim (fun h => h) (fun h => by omega), a5.elim (fun h => h) (fun h => by omega)⟩⟩)
  by_cases k5 : k = 5
  · subst k5
    refine (kind5 w B o n b s pL nL cL pE nE cE hb h).mono (key ⟨fun ⟨a1, a2, a3, a5⟩ => ⟨⟨by omega, by omega⟩, .inl a1, fun h => by omega, .inl a2, .inl a3, .inr rfl, .inl a5, fz a2⟩, fun ⟨_, a1, _, a2, a3, _, a5, _⟩ => ⟨a1.elim (fun h => h) (fun h => by omega), a2.elim (fun h => h) (fun h => by omega), a3.elim (fun h => h) (fun h => by omega), a5.elim (fun h => h) (fun h => by omega)⟩⟩)
  by_cases k6 : k = 6
  · subst k6
    refine (kind6 w B o n b s pL nL cL pE nE cE hb h).mono (key ⟨fun ⟨a1, a2, a3, a4⟩ => ⟨⟨by omega, by omega⟩, .inl a1, fun h => by omega, .inl a2, .inl a3, .inl a4, .inr rfl, fz a2⟩, fun ⟨_, a1, _, a2, a3, a4, _, _⟩ => ⟨a1.elim (fun h => h) (fun h => by omega), a2.elim (fun h => h) (fun h => by omega), a3.elim (fun h => h) (fun h => by omega), a4.elim (fun h => h) (fun h => by omega)⟩⟩)
  · refine (kind7 w B o k n b s pL nL cL pE nE cE hb (by omega) h).mono (key ⟨fun h => h.elim, fun ⟨a, _⟩ => by omega⟩)

set_option maxHeartbeats 4000000 in
set_option maxRecDepth 100000 in
theorem alone_any (ok : Nat → Prop) (f : Nat) (w : World) (B o : Nat) (k n : Int) (b : Nat) (s : ByteArray) (L E : List V) (pL pE : Option Addr) (cL cE : Nat) (hb : b < 18446744073709551616) (hs : s.size ≤ maxLen) (h : Six w B o k n b s pL L.length cL pE E.length cE)
    (hE : RowE ok f w pE E) (hL1 : L.length ≤ cL) (hL2 : cL ≤ maxLen) (h1 : E.length ≤ cE) (h2 : cE ≤ maxLen) (hT : Lib.Utf8Tabs 0 1 w) :
    Calls Tryd.prog 10 #[.pointer (some ⟨B, o, none⟩)] w fun e w' => e = .returned (.int .i64 (oneV (mkV (k, n, b, s.data.toList) L E))) ∧ Below w.heap.size w w' := by
  have hm : maxLen = 9223372036854775807 := rfl
  have hlen : s.data.toList.length = s.size := len_list s
  have hone : oneV (mkV (k, n, b, s.data.toList) L E) = if ¬ KindOk k n b s.data.toList L.length E.length then 10 else if 4000 < s.size ∨ 200 < L.length ∨ 200 < E.length then 2 else if 0 ≤ utfs.bad s.data.toList then 3 else keysF none (keysV E) := by
    rw [← hlen]
    rfl
  rw [hone]
  have hk := kind_any w B o k n b s pL L.length cL pE E.length cE hb h
  have HK := hide hk
  clear hk
  by_cases g1 : KindOk k n b s.data.toList L.length E.length
  · rw [if_neg (fun h => h g1)]
    have d1 : decide (KindOk k n b s.data.toList L.length E.length) = true := decide_eq_true g1
    have HK1 : Hid (Calls Tryd.prog 14 #[.pointer (some ⟨B, o, none⟩)] w fun e w' => e = .returned (.bool true) ∧ Below w.heap.size w w') := by
      have := HK.out
      rw [d1] at this
      exact this
    clear HK d1 g1
    have HX := hide h
    clear h
    by_cases g2 : 4000 < s.size ∨ 200 < L.length ∨ 200 < E.length
    · rw [if_pos g2]
      by_cases x1 : 4000 < s.size
      · have d1 : (s.size : Int) > 4000 := by omega
        clear g2
        go_enter Tryd.func10, Tryd.ntmps10
        go_wp2_with (go_at_call 14; refine (unhide HK1).mono ?_; rintro e w1 ⟨rfl, b1⟩; obtain ⟨q0, q1, q2, q3, q4, q5, ql⟩ := (unhide HX).below b1)
        go_ret
        exact ⟨rfl, b1⟩
      · have d1 : ¬ (s.size : Int) > 4000 := by omega
        by_cases x2 : 200 < L.length
        · have d2 : (L.length : Int) > 200 := by omega
          clear g2
          go_enter Tryd.func10, Tryd.ntmps10
          go_wp2_with (go_at_call 14; refine (unhide HK1).mono ?_; rintro e w1 ⟨rfl, b1⟩; obtain ⟨q0, q1, q2, q3, q4, q5, ql⟩ := (unhide HX).below b1)
          go_ret
          exact ⟨rfl, b1⟩
        · have d2 : ¬ (L.length : Int) > 200 := by omega
          have d3 : (E.length : Int) > 200 := by omega
          clear g2
          go_enter Tryd.func10, Tryd.ntmps10
          go_wp2_with (go_at_call 14; refine (unhide HK1).mono ?_; rintro e w1 ⟨rfl, b1⟩; obtain ⟨q0, q1, q2, q3, q4, q5, ql⟩ := (unhide HX).below b1)
          go_ret
          exact ⟨rfl, b1⟩
    · rw [if_neg g2]
      have d1 : ¬ (s.size : Int) > 4000 := by omega
      have d2 : ¬ (L.length : Int) > 200 := by omega
      have d3 : ¬ (E.length : Int) > 200 := by omega
      clear g2
      have hbad : Hid (∀ w1, Below w.heap.size w w1 → Calls Tryd.prog 15 #[.string s] w1 fun e w' => e = .returned (.int .i64 (utfs.bad s.data.toList)) ∧ Below w1.heap.size w1 w') := fun w1 h => utfs.bad_any s w1 (by omega) (Utf8Tabs_below hT h)
      by_cases g3 : 0 ≤ utfs.bad s.data.toList
      · rw [if_pos g3]
        go_enter Tryd.func10, Tryd.ntmps10
        go_wp2_with (first | (go_at_call 14; refine (unhide HK1).mono ?_; rintro e w1 ⟨rfl, b1⟩; obtain ⟨q0, q1, q2, q3, q4, q5, ql⟩ := (unhide HX).below b1) | (go_at_call 15; refine ((unhide hbad) w1 b1).mono ?_; rintro e w2 ⟨rfl, b2⟩))
        go_ret
        exact ⟨rfl, b1.trans (b2.mono b1.size)⟩
      · rw [if_neg g3]
        have hkeys : Hid (∀ w2, Below w.heap.size w w2 → Calls Tryd.prog 16 #[.slice pE E.length cE] w2 fun e w' => e = .returned (.int .i64 (keysF none (keysV E))) ∧ Below w2.heap.size w2 w') := fun w2 h =>
          checkKeys_any ok f w2 E pE cE (hE.kept (fun _ h => h) h.size (fun b _ hb => h.block b hb) (fun j us _ ⟨key, y, xs, a1, a2, a3, a4⟩ => ⟨key, y, xs, a1, a2, a3, a4.below h⟩)) h1 h2 (Utf8Tabs_below hT h)
        go_enter Tryd.func10, Tryd.ntmps10
        go_wp2_with (first | (go_at_call 14; refine (unhide HK1).mono ?_; rintro e w1 ⟨rfl, b1⟩; obtain ⟨q0, q1, q2, q3, q4, q5, ql⟩ := (unhide HX).below b1) | (go_at_call 15; refine ((unhide hbad) w1 b1).mono ?_; rintro e w2 ⟨rfl, b2⟩; obtain ⟨r0, r1, r2, r3, r4, r5, rl⟩ := (unhide HX).below (b1.trans (b2.mono b1.size))) | (go_at_call 16; refine ((unhide hkeys) w2 (b1.trans (b2.mono b1.size))).mono ?_; rintro e w3 ⟨rfl, b3⟩))
        go_ret
        exact ⟨rfl, (b1.trans (b2.mono b1.size)).trans (b3.mono (Nat.le_trans b1.size b2.size))⟩
  · rw [if_pos g1]
    have d1 : decide (KindOk k n b s.data.toList L.length E.length) = false := decide_eq_false g1
    have HK1 : Hid (Calls Tryd.prog 14 #[.pointer (some ⟨B, o, none⟩)] w fun e w' => e = .returned (.bool false) ∧ Below w.heap.size w w') := by
      have := HK.out
      rw [d1] at this
      exact this
    clear HK d1 g1
    go_enter Tryd.func10, Tryd.ntmps10
    go_wp2_with (go_at_call 14; refine (unhide HK1).mono ?_; rintro e w1 ⟨rfl, b1⟩)
    go_ret
    exact ⟨rfl, b1⟩
end Go.Proofs.YteehffjainffcaaDoor.valus
