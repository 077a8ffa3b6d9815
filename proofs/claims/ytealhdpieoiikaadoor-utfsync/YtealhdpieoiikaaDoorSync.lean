/- Plain: where codes begin within a good text. -/
import Derived.Test.YtealhdpieoiikaaDoorCut
set_option linter.unusedVariables false
namespace Go.Proofs.YtealhdpieoiikaaDoor.walks
open plain

/-- a code begins at k, among the first j -/
def isB (rs : List Int) (j : Nat) (k : Int) : Bool := (List.range j).any fun i => k == ((enc (rs.take i)).length : Int)
theorem isB_zero (rs : List Int) (k : Int) : isB rs 0 k = false := rfl
theorem isB_succ (rs : List Int) (j : Nat) (k : Int) : isB rs (j + 1) k = (isB rs j k || (k == ((enc (rs.take j)).length : Int))) := by
  simp [isB, List.range_succ]
theorem isB_iff (rs : List Int) (j : Nat) (k : Int) : isB rs j k = true ↔ ∃ i, i < j ∧ k = ((enc (rs.take i)).length : Int) := by
  simp [isB, List.any_eq_true]

/-- a good beginning of a good text is of whole codes -/
theorem front_of : ∀ (ps rs : List Int) (x : List UInt8), (∀ r ∈ ps, sc r = true) → (∀ r ∈ rs, sc r = true) → enc ps ++ x = enc rs → ∃ rest, rs = ps ++ rest
  | [], rs, x, _, _, _ => ⟨rs, rfl⟩
  | p :: ps, [], x, _, _, h => by
    rw [enc_cons, List.append_assoc] at h
    exact absurd h (enc_ne p _)
  | p :: ps, r :: rs, x, hp, hr, h => by
    have h1 := hp p List.mem_cons_self
    have h2 := hr r List.mem_cons_self
    rw [enc_cons, enc_cons, List.append_assoc] at h
    have e1 := dec_enc h1 (enc ps ++ x)
    have e2 := dec_enc h2 (enc rs)
    rw [h, e2, Prod.mk.injEq] at e1
    have s1 := sc_true h1
    have s2 := sc_true h2
    have hpr : p = r := by omega
    subst hpr
    obtain ⟨rest, e⟩ := front_of ps rs x (fun q hq => hp q (List.mem_cons_of_mem _ hq)) (fun q hq => hr q (List.mem_cons_of_mem _ hq)) (List.append_cancel_left h)
    exact ⟨rest, by rw [e]; rfl⟩

theorem sync_take (rs : List Int) (hs : ∀ r ∈ rs, sc r = true) (k : Nat) (hk : k < (enc rs).length) :
    (bad ((enc rs).take k) < 0) ↔ isB rs rs.length k = true := by
  rw [isB_iff, ← good_iff]
  constructor
  · rintro ⟨ps, hp, e⟩
    have h : enc ps ++ (enc rs).drop k = enc rs := by rw [← e, List.take_append_drop]
    obtain ⟨rest, er⟩ := front_of ps rs _ hp hs h
    have hlen : (enc ps).length = k := by rw [← e, List.length_take]; omega
    refine ⟨ps.length, ?_, ?_⟩
    · rw [er, List.length_append]
      cases rest with
      | nil => rw [er, List.append_nil, hlen] at hk; omega
      | cons a b => simp
    · rw [er, List.take_left' rfl, hlen]
  · rintro ⟨i, hi, e⟩
    have e' : k = (enc (rs.take i)).length := by omega
    rw [e', take_front]
    exact ⟨_, fun r hr => hs r (List.mem_of_mem_take hr), rfl⟩

/-- the first byte of a code, and the others -/
theorem lead_byte {r : Int} (h : sc r = true) : ∀ j, (hj : j < (Lib.encodeRune r).length) → (j = 0 ↔ ((Lib.encodeRune r)[j].toNat < 128 ∨ 192 ≤ (Lib.encodeRune r)[j].toNat)) := by
  have s := sc_true h
  intro j hj
  rcases code_forms h with ⟨a, e⟩ | ⟨a, b, e⟩ | ⟨a, b, e⟩ | ⟨a, e⟩
  · simp only [e, List.length_cons, List.length_nil] at hj ⊢
    match j, hj with
    | 0, _ => simp only [List.getElem_cons_zero, byte_toNat (x := r) (by omega) (by omega)]; exact ⟨fun _ => by omega, fun _ => trivial⟩
  · simp only [e, List.length_cons, List.length_nil] at hj ⊢
    match j, hj with
    | 0, _ => simp only [List.getElem_cons_zero, byte_toNat (x := 192 + r / 64) (by omega) (by omega)]; exact ⟨fun _ => by omega, fun _ => trivial⟩
    | 1, _ => simp only [List.getElem_cons_succ, List.getElem_cons_zero, byte_toNat (x := 128 + r % 64) (by omega) (by omega)]; omega
  · simp only [e, List.length_cons, List.length_nil] at hj ⊢
    match j, hj with
    | 0, _ => simp only [List.getElem_cons_zero, byte_toNat (x := 224 + r / 4096) (by omega) (by omega)]; exact ⟨fun _ => by omega, fun _ => trivial⟩
    | 1, _ => simp only [List.getElem_cons_succ, List.getElem_cons_zero, byte_toNat (x := 128 + r / 64 % 64) (by omega) (by omega)]; omega
    | 2, _ => simp only [List.getElem_cons_succ, List.getElem_cons_zero, byte_toNat (x := 128 + r % 64) (by omega) (by omega)]; omega
  · simp only [e, List.length_cons, List.length_nil] at hj ⊢
    match j, hj with
    | 0, _ => simp only [List.getElem_cons_zero, byte_toNat (x := 240 + r / 262144) (by omega) (by omega)]; exact ⟨fun _ => by omega, fun _ => trivial⟩
    | 1, _ => simp only [List.getElem_cons_succ, List.getElem_cons_zero, byte_toNat (x := 128 + r / 4096 % 64) (by omega) (by omega)]; omega
    | 2, _ => simp only [List.getElem_cons_succ, List.getElem_cons_zero, byte_toNat (x := 128 + r / 64 % 64) (by omega) (by omega)]; omega
    | 3, _ => simp only [List.getElem_cons_succ, List.getElem_cons_zero, byte_toNat (x := 128 + r % 64) (by omega) (by omega)]; omega

theorem starts : ∀ (rs : List Int) (k : Nat), (∀ r ∈ rs, sc r = true) → (hk : k < (enc rs).length) → ((enc rs)[k].toNat < 128 ∨ 192 ≤ (enc rs)[k].toNat) → ∃ i, i < rs.length ∧ k = (enc (rs.take i)).length
  | [], k, _, hk, _ => by simp [enc] at hk
  | r :: rs, k, hs, hk, hb => by
    have h1 := hs r List.mem_cons_self
    by_cases h0 : k < (Lib.encodeRune r).length
    · have hb' : (Lib.encodeRune r)[k].toNat < 128 ∨ 192 ≤ (Lib.encodeRune r)[k].toNat := by
        have e : (enc (r :: rs))[k] = (Lib.encodeRune r)[k] := by
          simp only [enc_cons]
          exact List.getElem_append_left h0
        rw [e] at hb
        exact hb
      have hk0 := (lead_byte h1 k h0).2 hb'
      exact ⟨0, by simp, by rw [hk0]; rfl⟩
    · have hlen : (enc (r :: rs)).length = (Lib.encodeRune r).length + (enc rs).length := by rw [enc_cons, List.length_append]
      have hk' : k - (Lib.encodeRune r).length < (enc rs).length := by omega
      have e : (enc (r :: rs))[k] = (enc rs)[k - (Lib.encodeRune r).length] := by
        simp only [enc_cons]
        exact List.getElem_append_right (by omega)
      rw [e] at hb
      obtain ⟨i, hi, hki⟩ := starts rs (k - (Lib.encodeRune r).length) (fun q hq => hs q (List.mem_cons_of_mem _ hq)) hk' hb
      refine ⟨i + 1, by simp; omega, ?_⟩
      rw [List.take_succ_cons, enc_cons, List.length_append]
      omega

theorem sync_drop (rs : List Int) (hs : ∀ r ∈ rs, sc r = true) (k : Nat) (hk : k < (enc rs).length) :
    (bad ((enc rs).drop k) < 0) ↔ isB rs rs.length k = true := by
  rw [isB_iff, ← good_iff]
  constructor
  · rintro ⟨ps, hp, e⟩
    cases ps with
    | nil =>
      have := congrArg List.length e
      rw [List.length_drop] at this
      simp only [enc_nil, List.length_nil] at this
      omega
    | cons p ps =>
      have h1 := hp p List.mem_cons_self
      have h2 := encodeRune_length p
      have hlb := (lead_byte h1 0 (by omega)).1 rfl
      have e0 : (enc rs)[k] = (Lib.encodeRune p)[0]'(by omega) := by
        have a1 : ((enc rs).drop k)[0]? = (enc rs)[k]? := by simp
        rw [e, enc_cons, List.getElem?_append_left (by omega), List.getElem?_eq_getElem (by omega), List.getElem?_eq_getElem hk] at a1
        exact (Option.some.inj a1).symm
      rw [← e0] at hlb
      obtain ⟨i, hi, hki⟩ := starts rs k hs hk hlb
      exact ⟨i, hi, by omega⟩
  · rintro ⟨i, hi, e⟩
    have e' : k = (enc (rs.take i)).length := by omega
    rw [e', drop_front]
    exact ⟨_, fun r hr => hs r (List.mem_of_mem_drop hr), rfl⟩
end Go.Proofs.YtealhdpieoiikaaDoor.walks
