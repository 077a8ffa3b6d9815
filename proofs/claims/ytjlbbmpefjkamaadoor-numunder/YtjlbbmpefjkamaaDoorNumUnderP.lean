/- Numerals of 64 bits: a stroke between two digits, plain. -/
import Derived.Test.YtjlbbmpefjkamaaDoorNumMore
set_option linter.unusedVariables false
namespace Go.Proofs.YtjlbbmpefjkamaaDoor.bigs
open Go.RowKit

/-- A stroke put in. -/
def ins (l : List UInt8) (k : Nat) : List UInt8 := l.take k ++ 95 :: l.drop k
theorem ins_cons (c : UInt8) (r : List UInt8) (k : Nat) : ins (c :: r) (k + 1) = c :: ins r k := by simp [ins]
theorem split_two {D : List UInt8} {j : Nat} (h : j + 1 < D.length) : D = D.take j ++ D[j] :: D[j + 1] :: D.drop (j + 2) := by
  rw [List.getElem_cons_drop, List.getElem_cons_drop, List.take_append_drop]
theorem ins_two {D : List UInt8} {j : Nat} (h : j + 1 < D.length) : ins D (j + 1) = D.take j ++ D[j] :: 95 :: D[j + 1] :: D.drop (j + 2) := by
  unfold ins
  rw [List.take_add_one, List.getElem?_eq_getElem (by omega), List.drop_eq_getElem_cons h, List.append_assoc]
  rfl
theorem ins_form {b : Nat} (hb : b ≤ 16) {D : List UInt8} {j : Nat} (h : j + 1 < D.length) (hc : D[j] ≠ 95) (hd : D[j + 1] ≠ 95) (hf : formG b false D = true) : formG b false (ins D (j + 1)) = true ∧ (∀ n, valG b n (ins D (j + 1)) = valG b n D) := by
  have d1 := form_digit b D false hf D[j] (List.getElem_mem _) hc
  have d2 := form_digit b D false hf D[j + 1] (List.getElem_mem _) hd
  rw [ins_two h]
  have e := split_two h
  constructor
  · rw [form_under b hb _ _ _ _ _ hc hd d1 d2, ← e]
    exact hf
  · intro n
    rw [valG_under, ← e]
theorem ins_head {D : List UInt8} {j : Nat} (h : j + 1 < D.length) : (ins D (j + 1)).headD 0 = D.headD 0 ∧ (ins D (j + 1)).length = D.length + 1 := by
  cases D with
  | nil => simp at h
  | cons c r => rw [ins_cons]; exact ⟨rfl, by simp [ins]; omega⟩
theorem ins_formed {b : Nat} (hb : b ≤ 16) {D : List UInt8} {j : Nat} (h : j + 1 < D.length) (hc : D[j] ≠ 95) (hd : D[j + 1] ≠ 95) (hf : formedL b D = true) : formedL b (ins D (j + 1)) = true ∧ valG b 0 (ins D (j + 1)) = valG b 0 D := by
  obtain ⟨f1, f2⟩ := ins_form hb h hc hd (formed_form hf).1
  refine ⟨?_, f2 0⟩
  obtain ⟨e1, e2⟩ := ins_head h
  unfold formedL at *
  rw [e1, e2, f1]
  rw [Bool.and_eq_true] at hf
  have : (decide (1 < D.length + 1)) = decide (1 < D.length) := by
    rw [decide_eq_decide]; omega
  rw [this, hf.1]
  rfl
/-- Behind the sign. -/
theorem ins_body {b : Nat} {t D : List UInt8} {j p : Nat} (e : baseCut t = (b, D)) (hf : formedL b D = true) (hp : t.length = p + D.length) (h : j + 1 < D.length) : baseCut (ins t (p + (j + 1))) = (b, ins D (j + 1)) := by
  have len2 : 2 ≤ D.length := by omega
  by_cases h2 : ∃ r, t = 48 :: 98 :: r
  · obtain ⟨r, rfl⟩ := h2
    have e' : baseCut (48 :: 98 :: r) = (2, r) := rfl
    rw [e'] at e
    injection e with e1 e2
    subst e1 e2
    have : p = 2 := by simp at hp; omega
    subst this
    rw [show 2 + (j + 1) = j + 1 + 1 + 1 by omega, ins_cons, ins_cons]
    rfl
  · by_cases h8 : ∃ r, t = 48 :: 111 :: r
    · obtain ⟨r, rfl⟩ := h8
      have e' : baseCut (48 :: 111 :: r) = (8, r) := rfl
      rw [e'] at e
      injection e with e1 e2
      subst e1 e2
      have : p = 2 := by simp at hp; omega
      subst this
      rw [show 2 + (j + 1) = j + 1 + 1 + 1 by omega, ins_cons, ins_cons]
      rfl
    · by_cases h16 : ∃ r, t = 48 :: 120 :: r
      · obtain ⟨r, rfl⟩ := h16
        have e' : baseCut (48 :: 120 :: r) = (16, r) := rfl
        rw [e'] at e
        injection e with e1 e2
        subst e1 e2
        have : p = 2 := by simp at hp; omega
        subst this
        rw [show 2 + (j + 1) = j + 1 + 1 + 1 by omega, ins_cons, ins_cons]
        rfl
      · rw [baseCut_none (fun r e => h2 ⟨r, e⟩) (fun r e => h8 ⟨r, e⟩) (fun r e => h16 ⟨r, e⟩)] at e
        injection e with e1 e2
        subst e1 e2
        have : p = 0 := by omega
        subst this
        rw [Nat.zero_add]
        cases t with
        | nil => simp at len2
        | cons c r =>
          have hc : c ≠ 48 := by
            rintro rfl
            unfold formedL at hf
            rw [Bool.and_eq_true] at hf
            have : decide (1 < (48 :: r : List UInt8).length) = true := decide_eq_true len2
            rw [this] at hf
            exact absurd hf.1 (by simp)
          rw [ins_cons]
          refine baseCut_none ?_ ?_ ?_ <;> (intro r' e'; injection e' with e1 _; exact hc e1)
theorem sign_suffix (l : List UInt8) : ∃ P, l = P ++ (signCut l).2 := by
  cases l with
  | nil => exact ⟨[], rfl⟩
  | cons c r =>
    by_cases e : c = 45
    · exact ⟨[45], by rw [signCut, if_pos e, e]; rfl⟩
    · exact ⟨[], by rw [signCut, if_neg e]; rfl⟩
theorem base_suffix (t : List UInt8) : ∃ P, t = P ++ (baseCut t).2 := by
  by_cases h2 : ∃ r, t = 48 :: 98 :: r
  · obtain ⟨r, rfl⟩ := h2; exact ⟨[48, 98], rfl⟩
  · by_cases h8 : ∃ r, t = 48 :: 111 :: r
    · obtain ⟨r, rfl⟩ := h8; exact ⟨[48, 111], rfl⟩
    · by_cases h16 : ∃ r, t = 48 :: 120 :: r
      · obtain ⟨r, rfl⟩ := h16; exact ⟨[48, 120], rfl⟩
      · rw [baseCut_none (fun r e => h2 ⟨r, e⟩) (fun r e => h8 ⟨r, e⟩) (fun r e => h16 ⟨r, e⟩)]
        exact ⟨[], rfl⟩
theorem under_law {l : List UInt8} {p j : Nat} (h : (numRes l).2 = 0) (hl : l.length < 80) (hp : l.length = p + (baseCut (signCut l).2).2.length) (hj : p + (j + 1) < l.length) (hc : l[p + j]'(by omega) ≠ 95) (hd : l[p + (j + 1)] ≠ 95) : numRes (ins l (p + (j + 1))) = numRes l := by
  obtain ⟨h1, h2, h3, h4⟩ := res_good h
  have hb := (baseCut_good (signCut l).2).1
  obtain ⟨b, hbe⟩ : ∃ b, b = (baseCut (signCut l).2).1 := ⟨_, rfl⟩
  obtain ⟨D, hD⟩ : ∃ D, D = (baseCut (signCut l).2).2 := ⟨_, rfl⟩
  have eb : baseCut (signCut l).2 = (b, D) := by rw [hbe, hD]
  have hb16 : b ≤ 16 := by rw [hbe]; unfold GoodB at hb; omega
  rw [eb] at h2 hp
  simp only at h2 hp
  have hjD : j + 1 < D.length := by omega
  -- what stands behind the prefix is the end of the text
  have suffix : ∀ i (hi : i < D.length), D[i] = l[p + i]'(by omega) := by
    have s1 : ∃ P, l = P ++ D ∧ P.length = p := by
      obtain ⟨P1, e1⟩ := sign_suffix l
      obtain ⟨P2, e2⟩ := base_suffix (signCut l).2
      rw [← hD] at e2
      rw [e2, ← List.append_assoc] at e1
      refine ⟨P1 ++ P2, e1, ?_⟩
      have := congrArg List.length e1
      rw [List.length_append] at this
      omega
    obtain ⟨P, e, hP⟩ := s1
    intro i hi
    have : l[p + i]? = D[i]? := by
      rw [e, List.getElem?_append_right (by omega)]
      congr 1
      omega
    rw [List.getElem?_eq_getElem (by omega), List.getElem?_eq_getElem hi] at this
    exact (Option.some.inj this).symm
  have hc' : D[j] ≠ 95 := by rw [suffix j (by omega)]; exact hc
  have hd' : D[j + 1] ≠ 95 := by rw [suffix (j + 1) hjD]; exact hd
  obtain ⟨f1, f2⟩ := ins_formed hb16 hjD hc' hd' h2
  have hlen : (ins l (p + (j + 1))).length = l.length + 1 := by simp [ins]; omega
  have key : ∃ q, signCut (ins l (p + (j + 1))) = ((signCut l).1, ins (signCut l).2 (q + (j + 1))) ∧ (signCut l).2.length = q + D.length := by
    cases l with
    | nil => simp at hj
    | cons c r =>
      by_cases e : c = 45
      · subst e
        rw [signCut, if_pos rfl] at *
        simp only at *
        have hr : D.length ≤ r.length := by rw [hD]; exact (baseCut_good r).2
        simp only [List.length_cons] at hp
        refine ⟨p - 1, ?_, by omega⟩
        rw [show p + (j + 1) = (p - 1 + (j + 1)) + 1 by omega, ins_cons, signCut, if_pos rfl]
      · rw [signCut, if_neg e]
        refine ⟨p, ?_, hp⟩
        rw [show p + (j + 1) = (p + j) + 1 by omega, ins_cons, signCut, if_neg e]
  obtain ⟨q, k1, k2⟩ := key
  have k3 := ins_body eb h2 k2 hjD
  unfold numRes
  rw [if_neg (by omega), if_neg (by omega), k1]
  simp only
  rw [k3, eb]
  unfold bodyRes
  simp only
  rw [f1, f2, h2]
end Go.Proofs.YtjlbbmpefjkamaaDoor.bigs
