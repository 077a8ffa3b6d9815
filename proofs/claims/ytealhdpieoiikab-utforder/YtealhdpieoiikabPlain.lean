/- Plain arithmetic, no program in it: lists of scalars and their codes stand in the same order. -/
import Derived.Lib.RuneBytes
import Derived.Lib.Bytealg
namespace Go.Proofs.Ytealhdpieoiikab.plain

/-- a scalar -/
def sc (r : Int) : Bool := decide (0 ≤ r ∧ r ≤ 1114111 ∧ (r < 55296 ∨ 57343 < r))
/-- how many bytes its code has; 0 of no scalar -/
def sizeZ (r : Int) : Int :=
  if sc r = true then (if r < 128 then 1 else if r < 2048 then 2 else if r < 65536 then 3 else 4) else 0
theorem sc_true {r : Int} (h : sc r = true) : 0 ≤ r ∧ r ≤ 1114111 ∧ (r < 55296 ∨ 57343 < r) := of_decide_eq_true h
theorem sc_false {r : Int} (h : sc r = false) : r < 0 ∨ 1114111 < r ∨ (55296 ≤ r ∧ r ≤ 57343) := by
  have := of_decide_eq_false h; omega
theorem sizeZ_zero (r : Int) : (sizeZ r == 0) = !sc r := by
  unfold sizeZ
  cases h : sc r
  · simp
  · simp only [if_true]; split
    · rfl
    · split
      · rfl
      · split <;> rfl

/-- the codes of a list -/
def encZ (l : List Int) : List Int := l.flatMap Lib.encodeRuneZ
def enc (l : List Int) : List UInt8 := l.flatMap Lib.encodeRune
theorem enc_eq (l : List Int) : enc l = (encZ l).map fun x => x.toNat.toUInt8 := by
  induction l with
  | nil => rfl
  | cons r l ih =>
    simp only [enc, encZ, List.flatMap_cons, List.map_append] at *
    rw [ih]; rfl
theorem enc_append (a b : List Int) : enc (a ++ b) = enc a ++ enc b := by simp [enc]
theorem enc_one (r : Int) : enc [r] = Lib.encodeRune r := by simp [enc]
theorem encodeRune_length (r : Int) : 1 ≤ (Lib.encodeRune r).length ∧ (Lib.encodeRune r).length ≤ 4 := by
  have := Lib.encodeRuneZ_length r
  simpa [Lib.encodeRune] using this
theorem enc_length (l : List Int) : (enc l).length ≤ 4 * l.length := by
  induction l with
  | nil => simp [enc]
  | cons r l ih =>
    have h := encodeRune_length r
    simp only [enc, List.flatMap_cons, List.length_append, List.length_cons] at *
    omega

/-- what is first other decides; else the length -/
def cmpZ : List Int → List Int → Int
  | [], [] => 0
  | [], _ :: _ => -1
  | _ :: _, [] => 1
  | a :: as, b :: bs => if a < b then -1 else if b < a then 1 else cmpZ as bs

theorem cmpZ_neg : ∀ (a b : List Int), cmpZ b a = - cmpZ a b
  | [], [] => rfl
  | [], _ :: _ => rfl
  | _ :: _, [] => rfl
  | x :: a, y :: b => by
    simp only [cmpZ]
    rw [cmpZ_neg a b]
    by_cases h : x < y
    · have h' : ¬ y < x := by omega
      simp [h, h']
    · by_cases h' : y < x
      · simp [h, h']
      · simp [h, h']

theorem cmpZ_front (l a b : List Int) : cmpZ (l ++ a) (l ++ b) = cmpZ a b := by
  induction l with
  | nil => rfl
  | cons x l ih => simp only [List.cons_append, cmpZ]; rw [if_neg (by omega), if_neg (by omega), ih]

theorem byte_lt {x y : Int} (hx : 0 ≤ x ∧ x < 256) (hy : 0 ≤ y ∧ y < 256) : (x.toNat.toUInt8 < y.toNat.toUInt8) ↔ x < y := by
  rw [UInt8.lt_iff_toNat_lt]
  simp only [Nat.toUInt8, UInt8.toNat_ofNat']
  omega

theorem bytes_cmp : ∀ (a b : List Int), (∀ x ∈ a, 0 ≤ x ∧ x < 256) → (∀ x ∈ b, 0 ≤ x ∧ x < 256) →
    Lib.compareBytes (a.map fun x => x.toNat.toUInt8) (b.map fun x => x.toNat.toUInt8) = cmpZ a b
  | [], [], _, _ => rfl
  | [], _ :: _, _, _ => rfl
  | _ :: _, [], _, _ => rfl
  | x :: a, y :: b, ha, hb => by
    have hx := ha x List.mem_cons_self
    have hy := hb y List.mem_cons_self
    have ih := bytes_cmp a b (fun z hz => ha z (List.mem_cons_of_mem _ hz)) (fun z hz => hb z (List.mem_cons_of_mem _ hz))
    simp only [List.map_cons, Lib.compareBytes, cmpZ, byte_lt hx hy, byte_lt hy hx, ih]

theorem forms {r : Int} (h : sc r = true) :
    (r ≤ 127 ∧ Lib.encodeRuneZ r = [r]) ∨ (128 ≤ r ∧ r ≤ 2047 ∧ Lib.encodeRuneZ r = [192 + r / 64, 128 + r % 64]) ∨
    (2048 ≤ r ∧ r ≤ 65535 ∧ Lib.encodeRuneZ r = [224 + r / 4096, 128 + r / 64 % 64, 128 + r % 64]) ∨
    (65536 ≤ r ∧ Lib.encodeRuneZ r = [240 + r / 262144, 128 + r / 4096 % 64, 128 + r / 64 % 64, 128 + r % 64]) := by
  obtain ⟨h0, h1, h2⟩ := sc_true h
  by_cases a : r ≤ 127
  · exact .inl ⟨a, Lib.encodeRuneZ_one h0 a⟩
  · by_cases b : r ≤ 2047
    · exact .inr (.inl ⟨by omega, b, Lib.encodeRuneZ_two (by omega) b⟩)
    · by_cases c : r ≤ 65535
      · exact .inr (.inr (.inl ⟨by omega, c, Lib.encodeRuneZ_three (by omega)⟩))
      · exact .inr (.inr (.inr ⟨by omega, Lib.encodeRuneZ_four (by omega) h1⟩))

theorem first_lt (x y : Int) (a b : List Int) (h : x < y) : cmpZ (x :: a) (y :: b) = -1 := by simp [cmpZ, h]
theorem first_eq (x y : Int) (a b : List Int) (h : x = y) : cmpZ (x :: a) (y :: b) = cmpZ a b := by
  subst h; simp [cmpZ]

theorem code_lt {r q : Int} (hr : sc r = true) (hq : sc q = true) (h : r < q) (a b : List Int) :
    cmpZ (Lib.encodeRuneZ r ++ a) (Lib.encodeRuneZ q ++ b) = -1 := by
  have r0 := sc_true hr
  have q0 := sc_true hq
  rcases forms hr with ⟨r1, er⟩ | ⟨r1, r2, er⟩ | ⟨r1, r2, er⟩ | ⟨r1, er⟩ <;>
  rcases forms hq with ⟨q1, eq⟩ | ⟨q1, q2, eq⟩ | ⟨q1, q2, eq⟩ | ⟨q1, eq⟩ <;>
  rw [er, eq] <;> simp only [List.cons_append, List.nil_append]
  · exact first_lt _ _ _ _ h
  · exact first_lt _ _ _ _ (by omega)
  · exact first_lt _ _ _ _ (by omega)
  · exact first_lt _ _ _ _ (by omega)
  · omega
  · by_cases e1 : r / 64 = q / 64
    · rw [first_eq _ _ _ _ (by omega)]; exact first_lt _ _ _ _ (by omega)
    · exact first_lt _ _ _ _ (by omega)
  · exact first_lt _ _ _ _ (by omega)
  · exact first_lt _ _ _ _ (by omega)
  · omega
  · omega
  · by_cases e1 : r / 4096 = q / 4096
    · rw [first_eq _ _ _ _ (by omega)]
      by_cases e2 : r / 64 % 64 = q / 64 % 64
      · rw [first_eq _ _ _ _ (by omega)]; exact first_lt _ _ _ _ (by omega)
      · exact first_lt _ _ _ _ (by omega)
    · exact first_lt _ _ _ _ (by omega)
  · exact first_lt _ _ _ _ (by omega)
  · omega
  · omega
  · omega
  · by_cases e1 : r / 262144 = q / 262144
    · rw [first_eq _ _ _ _ (by omega)]
      by_cases e2 : r / 4096 % 64 = q / 4096 % 64
      · rw [first_eq _ _ _ _ (by omega)]
        by_cases e3 : r / 64 % 64 = q / 64 % 64
        · rw [first_eq _ _ _ _ (by omega)]; exact first_lt _ _ _ _ (by omega)
        · exact first_lt _ _ _ _ (by omega)
      · exact first_lt _ _ _ _ (by omega)
    · exact first_lt _ _ _ _ (by omega)

theorem code_some (r : Int) : ∃ x l, Lib.encodeRuneZ r = x :: l := by
  have h := Lib.encodeRuneZ_length r
  match e : Lib.encodeRuneZ r with
  | [] => rw [e] at h; simp at h
  | x :: l => exact ⟨x, l, rfl⟩

theorem orderZ : ∀ (a b : List Int), (∀ r ∈ a, sc r = true) → (∀ r ∈ b, sc r = true) → cmpZ (encZ a) (encZ b) = cmpZ a b
  | [], [], _, _ => rfl
  | [], q :: b, _, _ => by
    obtain ⟨x, l, e⟩ := code_some q
    simp [encZ, e, cmpZ]
  | r :: a, [], _, _ => by
    obtain ⟨x, l, e⟩ := code_some r
    simp [encZ, e, cmpZ]
  | r :: a, q :: b, ha, hb => by
    have hr := ha r List.mem_cons_self
    have hq := hb q List.mem_cons_self
    have ih := orderZ a b (fun z hz => ha z (List.mem_cons_of_mem _ hz)) (fun z hz => hb z (List.mem_cons_of_mem _ hz))
    show cmpZ (Lib.encodeRuneZ r ++ encZ a) (Lib.encodeRuneZ q ++ encZ b) = _
    simp only [cmpZ]
    by_cases h : r < q
    · rw [if_pos h, code_lt hr hq h]
    · by_cases h' : q < r
      · rw [if_neg h, if_pos h', cmpZ_neg, code_lt hq hr h']; rfl
      · obtain rfl : r = q := by omega
        rw [if_neg h, if_neg h, cmpZ_front, ih]

theorem encZ_byte (l : List Int) : ∀ x ∈ encZ l, 0 ≤ x ∧ x < 256 := by
  intro x hx
  obtain ⟨r, _, h⟩ := List.mem_flatMap.1 hx
  exact Lib.encodeRuneZ_byte r x h

/-- THE ORDER OF THE TEXTS IS THE ORDER OF THE SCALARS. -/
theorem order (a b : List Int) (ha : ∀ r ∈ a, sc r = true) (hb : ∀ r ∈ b, sc r = true) : Lib.compareBytes (enc a) (enc b) = cmpZ a b := by
  rw [enc_eq, enc_eq, bytes_cmp _ _ (encZ_byte a) (encZ_byte b), orderZ a b ha hb]

theorem cmpZ_snoc : ∀ (a b : List Int) (k : Nat), k < a.length → k < b.length → a.take k = b.take k → cmpZ a b = cmpZ (a.drop k) (b.drop k) := by
  intro a b k ha hb h
  have := cmpZ_front (a.take k) (a.drop k) (b.drop k)
  rw [List.take_append_drop] at this
  rw [h, List.take_append_drop] at this
  exact this
end Go.Proofs.Ytealhdpieoiikab.plain
