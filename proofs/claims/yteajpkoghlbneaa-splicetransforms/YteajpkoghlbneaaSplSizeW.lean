/- The walks of package splice: sizes, check, Sizes. -/
import Derived.Test.YteajpkoghlbneaaSplChkW
set_option linter.unusedVariables false
namespace Go.Proofs.Yteajpkoghlbneaa.spls
open Go.RowKit

/-- What is kept, cut and put. -/
def kN : List Pt → Nat
  | [] => 0
  | p :: l => (if p.1 = 1 then p.2.1.toNat else 0) + kN l
def cN : List Pt → Nat
  | [] => 0
  | p :: l => (if p.1 = 2 then p.2.1.toNat else 0) + cN l
def pN : List Pt → Nat
  | [] => 0
  | p :: l => (if p.1 = 3 then p.2.2.length else 0) + pN l
theorem one_eq (k n : Int) (s : List UInt8) : ov (ex (k, n, s)) = (if k = 1 then n.toNat else 0) + (if k = 2 then n.toNat else 0) ∧ mk (ex (k, n, s)) = (if k = 1 then n.toNat else 0) + (if k = 3 then s.length else 0) := by
  by_cases h1 : k = 1
  · subst h1; rw [ex_keep, ov_keeps, mk_keeps]; exact ⟨rfl, rfl⟩
  by_cases h2 : k = 2
  · subst h2; rw [ex_cut, ov_cuts, mk_cuts]; exact ⟨(Nat.zero_add _).symm, rfl⟩
  by_cases h3 : k = 3
  · subst h3; rw [ex_put, ov_puts, mk_puts]; exact ⟨rfl, (Nat.zero_add _).symm⟩
  have e : ex (k, n, s) = [] := by unfold ex; rw [if_neg h1, if_neg h2, if_neg h3]
  rw [e, if_neg h1, if_neg h2, if_neg h3]
  exact ⟨rfl, rfl⟩
theorem ov_eq : ∀ L, ov (exL L) = kN L + cN L
  | [] => rfl
  | (k, n, s) :: l => by
    rw [exL_cons, ov_app, ov_eq l, (one_eq k n s).1]
    have e1 : kN ((k, n, s) :: l) = (if k = 1 then n.toNat else 0) + kN l := rfl
    have e2 : cN ((k, n, s) :: l) = (if k = 2 then n.toNat else 0) + cN l := rfl
    rw [e1, e2]
    omega
theorem mk_eq : ∀ L, mk (exL L) = kN L + pN L
  | [] => rfl
  | (k, n, s) :: l => by
    rw [exL_cons, mk_app, mk_eq l, (one_eq k n s).2]
    have e1 : kN ((k, n, s) :: l) = (if k = 1 then n.toNat else 0) + kN l := rfl
    have e2 : pN ((k, n, s) :: l) = (if k = 3 then s.length else 0) + pN l := rfl
    rw [e1, e2]
    omega
theorem kN_app : ∀ a b, kN (a ++ b) = kN a + kN b
  | [], b => by show kN b = 0 + kN b; omega
  | p :: a, b => by show _ + kN (a ++ b) = _; rw [kN_app a b]; show _ = (_ + kN a) + kN b; omega
theorem cN_app : ∀ a b, cN (a ++ b) = cN a + cN b
  | [], b => by show cN b = 0 + cN b; omega
  | p :: a, b => by show _ + cN (a ++ b) = _; rw [cN_app a b]; show _ = (_ + cN a) + cN b; omega
theorem pN_app : ∀ a b, pN (a ++ b) = pN a + pN b
  | [], b => by show pN b = 0 + pN b; omega
  | p :: a, b => by show _ + pN (a ++ b) = _; rw [pN_app a b]; show _ = (_ + pN a) + pN b; omega
theorem sizes_small : ∀ L : List Pt, (∀ p ∈ L, chkP p = 0) → kN L ≤ L.length * 20000 ∧ cN L ≤ L.length * 20000 ∧ pN L ≤ L.length * 20000
  | [], h => ⟨Nat.zero_le _, Nat.zero_le _, Nat.zero_le _⟩
  | (k, n, s) :: l, h => by
    have ih := sizes_small l fun p hp => h p (List.mem_cons_of_mem _ hp)
    have hp := chkP_ok (h _ List.mem_cons_self)
    dsimp only at hp
    have a1 : (if k = 1 then n.toNat else 0) ≤ 20000 := by split <;> omega
    have a2 : (if k = 2 then n.toNat else 0) ≤ 20000 := by split <;> omega
    have a3 : (if k = 3 then s.length else 0) ≤ 20000 := by split <;> omega
    have e1 : kN ((k, n, s) :: l) = (if k = 1 then n.toNat else 0) + kN l := rfl
    have e2 : cN ((k, n, s) :: l) = (if k = 2 then n.toNat else 0) + cN l := rfl
    have e3 : pN ((k, n, s) :: l) = (if k = 3 then s.length else 0) + pN l := rfl
    rw [e1, e2, e3, List.length_cons]
    omega
theorem take_one {L : List Pt} {j : Nat} (h : j < L.length) : L.take (j + 1) = L.take j ++ [L[j]] := List.take_succ_eq_append_getElem h
set_option maxHeartbeats 8000000 in
set_option maxRecDepth 100000 in
theorem sizes_any (w : World) (p : Option Addr) (c : Nat) (L : List Pt) (hL : LiesQ w p L) (hl : L.length ≤ 1000000) (hg : ∀ x ∈ L, chkP x = 0) :
    Calls Try.prog 10 #[.slice p L.length c] w fun e w' => e = .returned (.tuple #[.int .i64 (ov (exL L) : Int), .int .i64 (mk (exL L) : Int)]) ∧ Below w.heap.size w w' := by
  have HL := hide hL
  have HG := hide hg
  have HM := hide (sizes_small L hg)
  clear hL hg
  go_enter Try.func10, Try.ntmps10
  go_wp2_with fail
  go_loopw [4, 5, 6, 11] (fun a b d i wr => ∃ (j ka cb pd : Nat), i = .int .i64 j ∧ j ≤ L.length ∧ a = .int .i64 (ka : Int) ∧ b = .int .i64 (cb : Int) ∧ d = .int .i64 (pd : Int) ∧ Hid (kN (L.take j) = ka ∧ cN (L.take j) = cb ∧ pN (L.take j) = pd) ∧ (ka ≤ j * 20000 ∧ cb ≤ j * 20000 ∧ pd ≤ j * 20000) ∧ Below w.heap.size w wr) (fun _ _ _ i _ => L.length - (intOf i).toNat)
  case atStart => exact ⟨0, 0, 0, 0, rfl, Nat.zero_le _, rfl, rfl, rfl, hide ⟨rfl, rfl, rfl⟩, ⟨Nat.zero_le _, Nat.zero_le _, Nat.zero_le _⟩, Below.refl _ _⟩
  case round =>
    obtain ⟨j, ka, cb, pd, rfl, hj, rfl, rfl, rfl, HS, ⟨m1, m2, m3⟩, hbw⟩ := hrel
    by_cases hlt : j < L.length
    · obtain ⟨B, o, rfl, hB, hr, h3⟩ := HL.out.at hlt
      obtain ⟨c0, c1, c2⟩ := h3.below hbw hB
      have hx := chkP_ok (HG.out _ (List.getElem_mem hlt))
      have hbA : ∀ v : Value, Below w.heap.size w (wr.alloc (.cells #[.int .i64 (L[j]).1, .int .i64 (L[j]).2.1, .string ⟨(L[j]).2.2.toArray⟩] 46)) := fun v => hbw.alloc (by have := hbw.size; omega) _
      have HB := hide (hbA (.int .i64 0))
      have hsz := size_mk (L[j]).2.2
      have H1 : Hid (kN (L.take (j + 1)) = kN (L.take j) + kN [L[j]] ∧ cN (L.take (j + 1)) = cN (L.take j) + cN [L[j]] ∧ pN (L.take (j + 1)) = pN (L.take j) + pN [L[j]]) := hide (by rw [take_one hlt, kN_app, cN_app, pN_app]; exact ⟨rfl, rfl, rfl⟩)
      clear h3 hbA hr
      generalize L[j] = q at *
      obtain ⟨k, n, s⟩ := q
      dsimp only at hx c0 c1 c2 hsz
      generalize (⟨s.toArray⟩ : ByteArray) = S at *
      rcases hx with ⟨rfl, n0, n1, s0⟩ | ⟨rfl, n0, n1, s0⟩ | ⟨rfl, rfl, s1⟩
      · have HE : Hid (kN (L.take (j + 1)) = ka + n.toNat ∧ cN (L.take (j + 1)) = cb ∧ pN (L.take (j + 1)) = pd) := hide (by
          obtain ⟨a1, a2, a3⟩ := H1.out
          obtain ⟨b1, b2, b3⟩ := HS.out
          have e1 : kN [((1 : Int), n, s)] = n.toNat := rfl
          have e2 : cN [((1 : Int), n, s)] = 0 := rfl
          have e3 : pN [((1 : Int), n, s)] = 0 := rfl
          omega)
        clear H1 HS s0 hsz
        go_wp2
        go_roundw
        case rel => exact ⟨j + 1, ka + n.toNat, cb, pd, by go_num, hlt, by first | rfl | (congr 1; omega), rfl, rfl, HE, ⟨by omega, by omega, by omega⟩, HB.out⟩
        case measure => simp only [intOf]; omega
      · have HE : Hid (kN (L.take (j + 1)) = ka ∧ cN (L.take (j + 1)) = cb + n.toNat ∧ pN (L.take (j + 1)) = pd) := hide (by
          obtain ⟨a1, a2, a3⟩ := H1.out
          obtain ⟨b1, b2, b3⟩ := HS.out
          have e1 : kN [((2 : Int), n, s)] = 0 := rfl
          have e2 : cN [((2 : Int), n, s)] = n.toNat := rfl
          have e3 : pN [((2 : Int), n, s)] = 0 := rfl
          omega)
        clear H1 HS s0 hsz
        go_wp2
        go_roundw
        case rel => exact ⟨j + 1, ka, cb + n.toNat, pd, by go_num, hlt, rfl, by first | rfl | (congr 1; omega), rfl, HE, ⟨by omega, by omega, by omega⟩, HB.out⟩
        case measure => simp only [intOf]; omega
      · have HE : Hid (kN (L.take (j + 1)) = ka ∧ cN (L.take (j + 1)) = cb ∧ pN (L.take (j + 1)) = pd + S.size) := hide (by
          obtain ⟨a1, a2, a3⟩ := H1.out
          obtain ⟨b1, b2, b3⟩ := HS.out
          have e1 : kN [((3 : Int), (0 : Int), s)] = 0 := rfl
          have e2 : cN [((3 : Int), (0 : Int), s)] = 0 := rfl
          have e3 : pN [((3 : Int), (0 : Int), s)] = s.length := rfl
          omega)
        have hS : S.size ≤ 20000 := by omega
        clear H1 HS hsz s1
        go_wp2
        go_roundw
        case rel => exact ⟨j + 1, ka, cb, pd + S.size, by go_num, hlt, rfl, rfl, by first | rfl | (congr 1; omega), HE, ⟨by omega, by omega, by omega⟩, HB.out⟩
        case measure => simp only [intOf]; omega
    · have hjl : j = L.length := by omega
      have HF : Hid (ov (exL L) = ka + cb ∧ mk (exL L) = ka + pd) := hide (by
        obtain ⟨b1, b2, b3⟩ := HS.out
        rw [hjl, List.take_length] at b1 b2 b3
        rw [ov_eq, mk_eq, b1, b2, b3]
        exact ⟨rfl, rfl⟩)
      have hjN := hide hjl
      have i1 : ¬ (j : Int) < (L.length : Int) := by omega
      clear HS hjl
      go_wp2
      go_ret2
      rw [HF.out.1, HF.out.2]
      exact ⟨by first | rfl | (congr; omega), hbw⟩
theorem chkL_at {P : List Pt} {j : Nat} (h : j < P.length) : chkL (P.drop j) = if chkP P[j] = 0 then chkL (P.drop (j + 1)) else chkP P[j] := by
  rw [List.drop_eq_getElem_cons h]
  rfl
theorem nil_at {L : List Pt} : chkL (L.drop L.length) = 0 := by rw [List.drop_length]; rfl
set_option maxHeartbeats 8000000 in
set_option maxRecDepth 100000 in
theorem check_any (w : World) (p : Option Addr) (c : Nat) (L : List Pt) (hL : LiesQ w p L) (hl : L.length ≤ 9223372036854775807) :
    Calls Try.prog 12 #[.slice p L.length c] w fun e w' => e = .returned (.int .i64 (chk L)) ∧ Below w.heap.size w w' := by
  by_cases i0 : (L.length : Int) > 400
  · have E : Hid (chk L = 2) := hide (by unfold chk; rw [if_pos (by omega)])
    go_enter Try.func12, Try.ntmps12
    go_wp2
    go_ret
    exact ⟨by rw [E.out]; rfl, Below.refl _ _⟩
  have E : Hid (chk L = if chkL L ≠ 0 then chkL L else if 20000 < ov (exL L) ∨ 20000 < mk (exL L) then 2 else 0) := hide (by unfold chk; rw [if_neg (by omega)])
  have HL := hide hL
  clear hL
  go_enter Try.func12, Try.ntmps12
  go_wp2_with fail
  go_loopw [13] (fun i wr => ∃ j : Nat, i = .int .i64 j ∧ j ≤ L.length ∧ Hid (chkL (L.drop j) = chkL L) ∧ Below w.heap.size w wr) (fun i _ => L.length - (intOf i).toNat)
  case atStart => exact ⟨0, rfl, Nat.zero_le _, hide rfl, Below.refl _ _⟩
  case round =>
    obtain ⟨j, rfl, hj, HS, hbw⟩ := hrel
    by_cases hlt : j < L.length
    · obtain ⟨B, o, rfl, hB, hr, h3⟩ := HL.out.at hlt
      obtain ⟨c0, c1, c2⟩ := h3.below hbw hB
      have hst := chkL_at hlt
      rw [HS.out] at hst
      have hsz := size_mk (L[j]).2.2
      have hbA : Below w.heap.size w ((wr.alloc (.cells #[.int .i64 (L[j]).1, .int .i64 (L[j]).2.1, .string ⟨(L[j]).2.2.toArray⟩] 46)).alloc (.cells #[.int .i64 (L[j]).1, .int .i64 (L[j]).2.1, .string ⟨(L[j]).2.2.toArray⟩] 46)) := (hbw.alloc (by have := hbw.size; omega) _).alloc (by have := hbw.size; simp; omega) _
      have HB := hide hbA
      have KC := hide (checkPart_any (wr.alloc (.cells #[.int .i64 (L[j]).1, .int .i64 (L[j]).2.1, .string ⟨(L[j]).2.2.toArray⟩] 46)) (L[j]).1 (L[j]).2.1 ⟨(L[j]).2.2.toArray⟩ (by rw [hsz]; exact hr.2.2))
      obtain ⟨er, her⟩ : ∃ er, er = chkP L[j] := ⟨_, rfl⟩
      have hst2 : Hid (chkL L = if er = 0 then chkL (L.drop (j + 1)) else er) := hide (by rw [hst, her])
      rw [show (((L[j]).1, (L[j]).2.1, (⟨(L[j]).2.2.toArray⟩ : ByteArray).data.toList) : Pt) = L[j] from by simp, ← her] at KC
      clear h3 hbA hr hst her hsz
      generalize (⟨(L[j]).2.2.toArray⟩ : ByteArray) = S at *
      generalize (L[j]).1 = k at *
      generalize (L[j]).2.1 = n at *
      by_cases he : er = 0
      · subst he
        have HS2 : Hid (chkL (L.drop (j + 1)) = chkL L) := hide (by rw [hst2.out, if_pos rfl])
        clear hst2 HS
        go_wp2_with fail
        refine (unhide KC).mono ?_
        rintro e w1 ⟨rfl, hw1⟩
        have hb1 : Below w.heap.size w w1 := by rw [hw1]; exact HB.out
        clear hw1 HB KC c0 c1 c2 hbw
        go_wp2
        go_roundw
        case rel => exact ⟨j + 1, by go_num, hlt, HS2, hb1⟩
        case measure => simp only [intOf]; omega
      · have he2 : (er == 0) = false := beq_false_of_ne he
        have he3 : (er != 0) = true := by simp [he]
        have HR : Hid (chk L = er) := hide (by
          have h1 : chkL L = er := by rw [hst2.out, if_neg he]
          rw [E.out, if_pos (by rw [h1]; exact he), h1])
        clear hst2 HS
        go_wp2_with fail
        refine (unhide KC).mono ?_
        rintro e w1 ⟨rfl, hw1⟩
        have hb1 : Below w.heap.size w w1 := by rw [hw1]; exact HB.out
        clear hw1 HB KC c0 c1 c2 hbw
        go_wp2
        go_ret
        exact ⟨by rw [HR.out]; rfl, hb1⟩
    · have hjl : j = L.length := by omega
      have h0 : chkL L = 0 := by rw [← HS.out, hjl]; exact nil_at
      have hall := chkL_zero.1 h0
      have KS := hide (sizes_any wr p c L (HL.out.keep hbw) (by omega) hall)
      have HM := sizes_small L hall
      have e1 := ov_eq L
      have e2 := mk_eq L
      have o1 : ov (exL L) ≤ 100000000 := by omega
      have o2 : mk (exL L) ≤ 100000000 := by omega
      have E2 : Hid (chk L = if 20000 < ov (exL L) ∨ 20000 < mk (exL L) then 2 else 0) := hide (by rw [E.out, if_neg (fun h => h h0)])
      have i1 : ¬ (j : Int) < (L.length : Int) := by omega
      clear HS hjl h0 hall HM e1 e2 E
      generalize ov (exL L) = u at *
      generalize mk (exL L) = v at *
      go_wp2_with fail
      refine (unhide KS).mono ?_
      rintro e w1 ⟨rfl, hb⟩
      have hb1 : Below w.heap.size w w1 := hbw.trans (hb.mono hbw.size)
      clear hb hbw KS
      by_cases t1 : (u : Int) > 20000
      · have HR : Hid (chk L = 2) := hide (by rw [E2.out, if_pos (.inl (by omega))])
        go_wp2
        go_ret
        exact ⟨by rw [HR.out]; rfl, hb1⟩
      by_cases t2 : (v : Int) > 20000
      · have HR : Hid (chk L = 2) := hide (by rw [E2.out, if_pos (.inr (by omega))])
        go_wp2
        go_ret
        exact ⟨by rw [HR.out]; rfl, hb1⟩
      · have HR : Hid (chk L = 0) := hide (by rw [E2.out, if_neg (by omega)])
        go_wp2
        go_ret
        exact ⟨by rw [HR.out]; rfl, hb1⟩
end Go.Proofs.Yteajpkoghlbneaa.spls
