/- The walks of package splice: composeBytes, transformBytes; take in one form. -/
import Derived.Test.YtleacpnmeoocbaaSplTakeW
import Derived.Test.YtleacpnmeoocbaaSplBothP
set_option linter.unusedVariables false
namespace Go.Proofs.Ytleacpnmeoocbaa.spls
open Go.RowKit

theorem take_any (X : Nat → Prop) (R : Nat) (x : Pt) (n : Nat) (A : List Pt) (w : World) (h : Rd X R (x :: A) w) (hx : okP x) (hn : n ≤ szP x) (hm : szP x ≤ 20000) (hl : A.length ≤ 1000000) :
    Calls Try.prog 50 #[.pointer (some ⟨R, 0, none⟩), .int .i64 (n : Int)] w fun e w' => e = .returned (.tuple #[]) ∧ Rd X R (tk n x A) w' ∧ Chg X w w' := by
  obtain ⟨k, m, s⟩ := x
  have num : ∀ (k : Int) (m : Int), k ≠ 3 → 0 < m → n ≤ szP (k, m, []) → szP (k, m, []) ≤ 20000 → Rd X R ((k, m, []) :: A) w → Calls Try.prog 50 #[.pointer (some ⟨R, 0, none⟩), .int .i64 (n : Int)] w fun e w' => e = .returned (.tuple #[]) ∧ Rd X R (tk n (k, m, []) A) w' ∧ Chg X w w' := by
    intro k m hk hmp hn hm h
    obtain ⟨m', rfl⟩ : ∃ m' : Nat, m = (m' : Int) := ⟨m.toNat, by omega⟩
    have e : szP (k, (m' : Int), []) = m' := by simp [szP]
    rw [e] at hn hm
    unfold tk
    rw [e]
    by_cases hw : n = m'
    · rw [if_pos hw]
      exact takeN_whole X R k m' n A w h hk hw hm hl
    · rw [if_neg hw, if_neg (by show ¬ k = 3; exact hk)]
      exact takeN_part X R k m' n A w h hk (by omega) hm hl
  rcases hx with ⟨a, b, c⟩ | ⟨a, b, c⟩ | ⟨a, b, c⟩
  · replace a : k = 1 := a
    replace c : s = [] := c
    subst a c
    exact num 1 m (by decide) b hn hm h
  · replace a : k = 2 := a
    replace c : s = [] := c
    subst a c
    exact num 2 m (by decide) b hn hm h
  · replace a : k = 3 := a
    replace b : m = 0 := b
    subst a b
    have e : szP (3, (0 : Int), s) = s.length := by simp [szP]
    rw [e] at hn hm
    unfold tk
    rw [e]
    by_cases hw : n = s.length
    · rw [if_pos hw]
      exact takeT_whole X R s n A w h hw hm hl
    · rw [if_neg hw, if_pos (by rfl)]
      exact takeT_part X R s n A w h (by omega) hm hl
/-- What one does with the next n bytes. -/
def midC (p q : Pt) (n : Nat) : List M := if p.1 = 1 then (if q.1 = 1 then keepsM n else cutsM n) else if q.1 = 1 then putsM (p.2.2.take n) else []
abbrev agg3 (x : Pt) : Value := .agg #[.int .i64 x.1, .int .i64 x.2.1, .string ⟨x.2.2.toArray⟩]
set_option maxHeartbeats 8000000 in
set_option maxRecDepth 100000 in
theorem composeBytes_any (X : Nat → Prop) (R : Nat) (S : WS) (w : World) (p q : Pt) (n : Nat) (h : Wr X R S w) (hF : Fits S 40000) (hp : p.1 = 1 ∨ (p.1 = 3 ∧ n ≤ p.2.2.length ∧ p.2.2.length ≤ 20000)) (hq : q.1 = 1 ∨ q.1 = 2) (hn : n ≤ 20000) :
    Calls Try.prog 52 #[.pointer (some ⟨R, 0, none⟩), agg3 p, agg3 q, .int .i64 (n : Int)] w fun e w' => e = .returned (.tuple #[]) ∧ WrTo X R (wrun S (midC p q n)) w w' := by
  obtain ⟨pk, pn, ps⟩ := p
  obtain ⟨qk, qn, qs⟩ := q
  dsimp only [agg3]
  obtain ⟨f1, f2, f3, f4, f5⟩ := hF
  have h1 := (h.alloc (.cells #[.int .i64 pk, .int .i64 pn, .string ⟨ps.toArray⟩] 45)).alloc (.cells #[.int .i64 qk, .int .i64 qn, .string ⟨qs.toArray⟩] 45)
  have HC : Hid (Chg X w ((w.alloc (.cells #[.int .i64 pk, .int .i64 pn, .string ⟨ps.toArray⟩] 45)).alloc (.cells #[.int .i64 qk, .int .i64 qn, .string ⟨qs.toArray⟩] 45))) := hide (((Chg.refl X w).alloc _).alloc _)
  rcases hp with hp | ⟨hp, hpl, hpm⟩ <;> rcases hq with hq | hq
  · replace hp : pk = 1 := hp
    replace hq : qk = 1 := hq
    subst hp hq
    have HK : Hid (wrun S (midC (1, pn, ps) (1, qn, qs) n) = wK n S) := hide (by rw [← wrun_keeps]; rfl)
    have K := hide (wkeep_any X R S _ n h1 f1 (by omega) (by omega) (by omega) (by omega) (fun x hx => by have := f5 x hx; omega))
    clear h h1 f1 f2 f3 f4 f5
    generalize (⟨ps.toArray⟩ : ByteArray) = PS at *
    generalize (⟨qs.toArray⟩ : ByteArray) = QS at *
    go_enter Try.func52, Try.ntmps52
    go_wp2_with fail
    refine (unhide K).mono ?_
    rintro e w1 ⟨rfl, H⟩
    have H2 := hide (WrTo.ahead HC.out H)
    clear H K
    go_wp2
    go_end0
    exact ⟨rfl, by rw [HK.out]; exact H2.out⟩
  · replace hp : pk = 1 := hp
    replace hq : qk = 2 := hq
    subst hp hq
    have HK : Hid (wrun S (midC (1, pn, ps) (2, qn, qs) n) = wC n S) := hide (by rw [← wrun_cuts]; rfl)
    have K := hide (wcut_any X R S _ n h1 (by omega))
    clear h h1 f1 f2 f3 f4 f5
    generalize (⟨ps.toArray⟩ : ByteArray) = PS at *
    generalize (⟨qs.toArray⟩ : ByteArray) = QS at *
    go_enter Try.func52, Try.ntmps52
    go_wp2_with fail
    refine (unhide K).mono ?_
    rintro e w1 ⟨rfl, H⟩
    have H2 := hide (WrTo.ahead HC.out H)
    clear H K
    go_wp2
    go_end0
    exact ⟨rfl, by rw [HK.out]; exact H2.out⟩
  · replace hp : pk = 3 := hp
    replace hq : qk = 1 := hq
    subst hp hq
    replace hpl : n ≤ ps.length := hpl
    replace hpm : ps.length ≤ 20000 := hpm
    obtain ⟨PS, hPS⟩ : ∃ PS : ByteArray, PS = ⟨ps.toArray⟩ := ⟨_, rfl⟩
    have hT : (PS.extract 0 n).data.toList = ps.take n := by rw [ext_take, hPS]
    have hTz : (PS.extract 0 n).size ≤ 20000 := by rw [← len_list, hT, List.length_take]; omega
    have HK : Hid (wrun S (midC (3, pn, ps) (1, qn, qs) n) = wP (PS.extract 0 n).data.toList S) := hide (by rw [hT, ← wrun_puts]; rfl)
    have K := hide (wput_any X R S _ (PS.extract 0 n) h1 (by omega))
    have i1 : (n : Int) ≤ (PS.size : Int) := by rw [hPS, size_mk]; omega
    have i2 : (0 : Int) ≤ (n : Int) := by omega
    rw [← hPS] at K HC
    rw [← hPS]
    clear h h1 f1 f2 f3 f4 f5 hT hTz hpl hpm hPS
    generalize (⟨qs.toArray⟩ : ByteArray) = QS at *
    go_enter Try.func52, Try.ntmps52
    go_wp2_with fail
    refine (unhide K).mono ?_
    rintro e w1 ⟨rfl, H⟩
    have H2 := hide (WrTo.ahead HC.out H)
    clear H K
    go_wp2
    go_end0
    exact ⟨rfl, by rw [HK.out]; exact H2.out⟩
  · replace hp : pk = 3 := hp
    replace hq : qk = 2 := hq
    subst hp hq
    have HK : Hid (wrun S (midC (3, pn, ps) (2, qn, qs) n) = S) := hide rfl
    have H2 := hide (WrTo.ahead HC.out (WrTo.refl h1))
    clear h h1 f1 f2 f3 f4 f5 hpl hpm
    generalize (⟨ps.toArray⟩ : ByteArray) = PS at *
    generalize (⟨qs.toArray⟩ : ByteArray) = QS at *
    go_enter Try.func52, Try.ntmps52
    go_wp2
    go_end0
    exact ⟨rfl, by rw [HK.out]; exact H2.out⟩
end Go.Proofs.Ytleacpnmeoocbaa.spls
