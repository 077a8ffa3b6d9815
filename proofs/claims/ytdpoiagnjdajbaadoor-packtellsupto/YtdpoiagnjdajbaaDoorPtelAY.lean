/- Fractions, turned back. -/
import Derived.Test.YtdpoiagnjdajbaaDoorPtelAW
import Derived.Test.YtdpoiagnjdajbaaDoorPtelAX
import Derived.Test.YtdpoiagnjdajbaaDoorPtelAP
import Derived.Test.YtdpoiagnjdajbaaDoorPtelAS
import Derived.Test.YtdpoiagnjdajbaaDoorPtelAR
import Derived.RangeFuncCalls
import Derived.OwnWalkIn
set_option linter.unusedVariables false
namespace Go.Proofs.YtdpoiagnjdajbaaDoor.valus
open Go.RowKit Go.Shelf

def turnB (b : Nat) : Nat := if b < 9223372036854775808 then 18446744073709551615 - b else b - 9223372036854775808
theorem turnB_lt {b : Nat} (h : b < 18446744073709551616) : turnB b < 18446744073709551616 := by
  unfold turnB
  split <;> omega
theorem turnB_turnF {b : Nat} (h : b < 18446744073709551616) : turnB (turnF b) = b := by
  unfold turnB turnF
  split <;> split <;> omega
theorem turnF_turnB {b : Nat} (h : b < 18446744073709551616) : turnF (turnB b) = b := by
  unfold turnB turnF
  split <;> split <;> omega
set_option maxHeartbeats 2000000 in
theorem turnBack_any (w : World) (b : Nat) (hb : b < 18446744073709551616) : Calls Tryd.prog 40 #[.int .u64 (b : Int)] w fun e w' => e = .returned (.int .u64 (turnB b : Int)) ∧ w' = w := by
  have h1 := top_and hb
  by_cases c : b < 9223372036854775808
  · rw [if_pos c] at h1
    have h2 := top_xor hb
    have HV : Hid (turnB b = 18446744073709551615 - b) := hide (if_pos c)
    clear c hb
    go_enter Tryd.func40, Tryd.ntmps40
    go_wp2
    go_ret
    exact ⟨ret_u64 (by rw [HV.out]), rfl⟩
  · rw [if_neg c] at h1
    have h2 := bits_xor hb
    rw [xor_high (Nat.le_of_not_lt c) hb] at h2
    have HV : Hid (turnB b = b - 9223372036854775808) := hide (if_neg c)
    clear c hb
    go_enter Tryd.func40, Tryd.ntmps40
    go_wp2
    go_ret
    exact ⟨ret_u64 (by rw [HV.out]), rfl⟩
end Go.Proofs.YtdpoiagnjdajbaaDoor.valus
/- One value, read from the front: plain mathematics. -/
set_option linter.unusedVariables false
namespace Go.Proofs.YtdpoiagnjdajbaaDoor.valus

/-- One value more was begun. -/
def beg (s : St) : St := (s.1, s.2.1, s.2.2 + 1)
def leaf (x : Lab) : V := mkV x [] []
def entM (rd : St → V × St) (s : St) : V × St := (ent (chainM (s.1.length + 1) [] s).1 (rd (chainM (s.1.length + 1) [] s).2).1, (rd (chainM (s.1.length + 1) [] s).2).2)
/-- What stands behind the byte of the kind, read. -/
def behindM (rd : St → V × St) (c : UInt8) (s : St) : V × St :=
  if c = 1 then (leaf (0, 0, 0, []), s)
  else if c = 2 then (leaf (1, ((byteM s).1.toNat : Int), 0, []), (byteM s).2)
  else if c = 3 then (leaf (2, ((numM 8 0 s).1 : Int) - 9223372036854775808, 0, []), (numM 8 0 s).2)
  else if c = 4 then (leaf (3, 0, turnB (numM 8 0 s).1, []), (numM 8 0 s).2)
  else if c = 5 then (leaf (4, 0, 0, (chainM (s.1.length + 1) [] s).1), (chainM (s.1.length + 1) [] s).2)
  else if c = 6 then (mkV (5, 0, 0, []) (partsM rd (roomM s) (s.1.length + 1) [] s).1 [], (partsM rd (roomM s) (s.1.length + 1) [] s).2)
  else if c = 7 then (mkV (6, 0, 0, []) [] (partsM (entM rd) (roomM s) (s.1.length + 1) [] s).1, (partsM (entM rd) (roomM s) (s.1.length + 1) [] s).2)
  else (leaf ((c.toNat : Int) - 1, 0, 0, []), failM s)
/-- A value that may hold so many levels. -/
def valM : Nat → St → V × St
  | 0, s => (leaf (0, 0, 0, []), failM s)
  | n + 1, s => behindM (valM n) (byteM (beg s)).1 (byteM (beg s)).2

/-- No more bytes are left, and no value was begun. -/
def Dn (s s' : St) : Prop := s'.1.length ≤ s.1.length ∧ s'.2.2 = s.2.2
theorem Dn.refl (s : St) : Dn s s := ⟨Nat.le_refl _, rfl⟩
theorem Dn.trans {a b c : St} (h : Dn a b) (k : Dn b c) : Dn a c := ⟨Nat.le_trans k.1 h.1, k.2.trans h.2⟩
theorem dn_fail (s : St) : Dn s (failM s) := ⟨Nat.zero_le _, rfl⟩
theorem dn_byte (s : St) : Dn s (byteM s).2 := ⟨byteM_len s, byteM_count s⟩
theorem dn_inside (s : St) : Dn s (insideM s).2 := by
  unfold insideM
  split
  · exact dn_byte s
  · split
    · exact dn_byte s
    · exact (dn_byte s).trans (dn_fail _)
theorem dn_has (s : St) : Dn s (hasM s).2 := by
  unfold hasM
  split
  · exact dn_byte s
  · split
    · exact dn_byte s
    · exact (dn_byte s).trans (dn_fail _)
theorem dn_num : ∀ (k m : Nat) (s : St), Dn s (numM k m s).2
  | 0, m, s => Dn.refl s
  | k + 1, m, s => (dn_byte s).trans (dn_num k _ _)
theorem dn_chain : ∀ (n : Nat) (acc : List UInt8) (s : St), Dn s (chainM n acc s).2
  | 0, acc, s => Dn.refl s
  | n + 1, acc, s => by
    unfold chainM
    split
    · split
      · exact ((dn_byte s).trans (dn_inside _)).trans (dn_chain n _ _)
      · exact (dn_byte s).trans (dn_inside _)
    · exact (dn_byte s).trans (dn_chain n _ _)
/-- At most one value more than bytes are gone. -/
def Up (rd : St → V × St) : Prop := ∀ s, (rd s).2.1.length ≤ s.1.length ∧ (rd s).2.1.length + (rd s).2.2.2 ≤ s.1.length + s.2.2 + 1
theorem up_ent {rd : St → V × St} (h : Up rd) : Up (entM rd) := fun s => by
  have h1 := h (chainM (s.1.length + 1) [] s).2
  have h2 := dn_chain (s.1.length + 1) [] s
  unfold Dn at h2
  unfold entM
  dsimp only
  omega
theorem parts_up {rd : St → V × St} (h : Up rd) (room : Nat) : ∀ (n : Nat) (acc : List V) (s : St), (partsM rd room n acc s).2.1.length ≤ s.1.length ∧ (partsM rd room n acc s).2.1.length + (partsM rd room n acc s).2.2.2 ≤ s.1.length + s.2.2
  | 0, acc, s => ⟨Nat.le_refl _, Nat.le_refl _⟩
  | n + 1, acc, s => by
    unfold partsM
    have h2 := dn_has s
    unfold Dn at h2
    split
    · rename_i hh
      have h1 := h (hasM s).2
      have h3 := hasM_more hh
      have h4 := parts_up h room n (if acc.length < room then acc ++ [(rd (hasM s).2).1] else acc) (rd (hasM s).2).2
      omega
    · dsimp only
      omega
theorem behind_up {rd : St → V × St} (h : Up rd) (c : UInt8) (s : St) : (behindM rd c s).2.1.length ≤ s.1.length ∧ (behindM rd c s).2.1.length + (behindM rd c s).2.2.2 ≤ s.1.length + s.2.2 := by
  have of_dn : ∀ s', Dn s s' → s'.1.length ≤ s.1.length ∧ s'.1.length + s'.2.2 ≤ s.1.length + s.2.2 := fun s' hd => ⟨hd.1, by have := hd.1; have := hd.2; omega⟩
  unfold behindM
  repeat' split
  · exact of_dn _ (Dn.refl s)
  · exact of_dn _ (dn_byte s)
  · exact of_dn _ (dn_num 8 0 s)
  · exact of_dn _ (dn_num 8 0 s)
  · exact of_dn _ (dn_chain _ _ s)
  · exact parts_up h _ _ _ s
  · exact parts_up (up_ent h) _ _ _ s
  · exact of_dn _ (dn_fail s)
theorem valM_up : ∀ n, Up (valM n)
  | 0, s => ⟨Nat.zero_le _, by show 0 + s.2.2 ≤ _; omega⟩
  | n + 1, s => by
    have h1 := behind_up (valM_up n) (byteM (beg s)).1 (byteM (beg s)).2
    have h2 := dn_byte (beg s)
    have e1 : (beg s).1.length = s.1.length := rfl
    have e2 : (beg s).2.2 = s.2.2 + 1 := rfl
    unfold Dn at h2
    unfold valM
    omega
end Go.Proofs.YtdpoiagnjdajbaaDoor.valus
/- What was written is read, and what is read was written so: plain mathematics. -/
set_option linter.unusedVariables false
namespace Go.Proofs.YtdpoiagnjdajbaaDoor.valus

/-- Nothing in it is too long a list. -/
def FewV : Nat → V → Prop
  | 0, _ => False
  | n + 1, v => ((opn v).2.1.length ≤ 200 ∧ (opn v).2.2.length ≤ 200) ∧ ∀ y ∈ parts v, FewV n y
theorem few_good : ∀ {n : Nat} {v : V}, IsV n v → faultV oneV v = 0 → FewV n v
  | 0, _, h, _ => h.elim
  | n + 1, v, h, hf => by
    have h1 := good_one hf
    unfold oneV at h1
    refine ⟨?_, fun y hy => few_good (h.part hy) (good_part hf hy)⟩
    by_cases c1 : KindOk (opn v).1.1 (opn v).1.2.1 (opn v).1.2.2.1 (opn v).1.2.2.2 (opn v).2.1.length (opn v).2.2.length
    · rw [if_neg (fun h => h c1)] at h1
      by_cases c2 : 4000 < (opn v).1.2.2.2.length ∨ 200 < (opn v).2.1.length ∨ 200 < (opn v).2.2.length
      · rw [if_pos c2] at h1
        cases h1
      · omega
    · rw [if_pos c1] at h1
      cases h1

/-- A text that was written is read. -/
theorem chainM_enc : ∀ (t acc p : List UInt8) (x : Bool × Nat) (n : Nat), (chainF t).length < n → chainM n acc (chainF t ++ (0 :: 0 :: p), x) = (acc ++ t, p, x)
  | [], acc, p, x, 0, h => by cases h
  | [], acc, p, x, n + 1, h => by
    rw [List.append_nil]
    rfl
  | c :: t, acc, p, x, 0, h => by cases h
  | c :: t, acc, p, x, n + 1, h => by
    rw [chainF_cons] at h ⊢
    by_cases hc : c = 0
    · rw [if_pos hc] at h ⊢
      have h' : (chainF t).length < n := by simp only [List.length_cons] at h; omega
      have ih := chainM_enc t (acc ++ [0]) p x n h'
      show chainM n (acc ++ [0]) (chainF t ++ (0 :: 0 :: p), x) = _
      rw [ih, hc, List.append_assoc]
      rfl
    · rw [if_neg hc] at h ⊢
      have h' : (chainF t).length < n := by simp only [List.length_cons] at h; omega
      have ih := chainM_enc t (acc ++ [c]) p x n h'
      show (if c = 0 then _ else chainM n (acc ++ [c]) (chainF t ++ (0 :: 0 :: p), x)) = _
      rw [if_neg hc, ih, List.append_assoc]
      rfl
theorem chainM_one : ∀ (n : Nat) (acc l : List UInt8) (f : Bool) (k : Nat), l.length < n → (chainM n acc (l, f, k)).2.2.1 = false →
    f = false ∧ ∃ t, (chainM n acc (l, f, k)).1 = acc ++ t ∧ l = chainL t ++ (chainM n acc (l, f, k)).2.1
  | 0, acc, l, f, k, h, _ => by cases h
  | n + 1, acc, [], f, k, h, hf => by cases hf
  | n + 1, acc, c :: r, f, k, h, hf => by
    have e : chainM (n + 1) acc (c :: r, f, k) = if c = 0 then (if (insideM (r, f, k)).1 = true then chainM n (acc ++ [0]) (insideM (r, f, k)).2 else (acc, (insideM (r, f, k)).2)) else chainM n (acc ++ [c]) (r, f, k) := rfl
    rw [e] at hf ⊢
    by_cases hc : c = 0
    · rw [if_pos hc] at hf ⊢
      cases r with
      | nil => cases hf
      | cons d r =>
        by_cases h1 : d = 255
        · have ei : insideM (d :: r, f, k) = (true, r, f, k) := if_pos h1
          rw [ei] at hf ⊢
          rw [if_pos rfl] at hf ⊢
          obtain ⟨h2, t, h3, h4⟩ := chainM_one n (acc ++ [0]) r f k (by simp only [List.length_cons] at h; omega) hf
          refine ⟨h2, 0 :: t, ?_, ?_⟩
          · rw [h3, List.append_assoc]
            rfl
          · show c :: d :: r = (0 :: 255 :: chainL t) ++ _
            rw [hc, h1]
            exact congrArg (fun z => (0 : UInt8) :: (255 : UInt8) :: z) h4
        · by_cases h2 : d = 0
          · have ei : insideM (d :: r, f, k) = (false, r, f, k) := by
              show (if d = 255 then (true, (r, f, k)) else if d = 0 then (false, (r, f, k)) else (false, failM (r, f, k))) = _
              rw [if_neg h1, if_pos h2]
            rw [ei] at hf ⊢
            rw [if_neg (by simp)] at hf ⊢
            refine ⟨hf, [], (List.append_nil _).symm, ?_⟩
            rw [hc, h2]
            rfl
          · have ei : insideM (d :: r, f, k) = (false, failM (r, f, k)) := by
              show (if d = 255 then (true, (r, f, k)) else if d = 0 then (false, (r, f, k)) else (false, failM (r, f, k))) = _
              rw [if_neg h1, if_neg h2]
            rw [ei] at hf
            rw [if_neg (by simp)] at hf
            cases hf
    · rw [if_neg hc] at hf ⊢
      obtain ⟨h2, t, h3, h4⟩ := chainM_one n (acc ++ [c]) r f k (by simp only [List.length_cons] at h; omega) hf
      refine ⟨h2, c :: t, ?_, ?_⟩
      · rw [h3, List.append_assoc]
        rfl
      · have ec : chainL (c :: t) = c :: chainL t := by unfold chainL; rw [chainF_cons, if_neg hc]; rfl
        rw [ec]
        exact congrArg (fun z => c :: z) h4
theorem fail_num : ∀ (k a : Nat) (l : List UInt8) (c : Nat), (numM k a (l, true, c)).2.2.1 = true
  | 0, a, l, c => rfl
  | k + 1, a, [], c => fail_num k _ [] c
  | k + 1, a, x :: r, c => fail_num k _ r c
theorem encB_add : ∀ (k c m : Nat), encB k (c * 256 ^ k + m) = encB k m
  | 0, c, m => rfl
  | k + 1, c, m => by
    have e : c * 256 ^ (k + 1) + m = (c * 256) * 256 ^ k + m := by rw [Nat.pow_succ, Nat.mul_assoc, Nat.mul_comm (256 ^ k) 256]
    have hp : 0 < 256 ^ k := Nat.pow_pos (by omega)
    have e2 : ((c * 256) * 256 ^ k + m) / 256 ^ k = c * 256 + m / 256 ^ k := by rw [Nat.add_comm, Nat.add_mul_div_right _ _ hp, Nat.add_comm]
    show UInt8.ofNat ((c * 256 ^ (k + 1) + m) / 256 ^ k % 256) :: encB k (c * 256 ^ (k + 1) + m) = UInt8.ofNat (m / 256 ^ k % 256) :: encB k m
    rw [e, e2, encB_add k (c * 256) m, Nat.add_comm (c * 256), Nat.add_mul_mod_self_right]
theorem numM_one : ∀ (k a : Nat) (l : List UInt8) (f : Bool) (c : Nat), (numM k a (l, f, c)).2.2.1 = false →
    f = false ∧ ∃ m, (numM k a (l, f, c)).1 = a * 256 ^ k + m ∧ m < 256 ^ k ∧ l = encB k m ++ (numM k a (l, f, c)).2.1
  | 0, a, l, f, c, h => ⟨h, 0, by rw [Nat.pow_zero, Nat.mul_one]; rfl, by rw [Nat.pow_zero]; omega, rfl⟩
  | k + 1, a, [], f, c, h => by
    have e : numM (k + 1) a ([], f, c) = numM k (a * 256 + 0) ([], true, c) := rfl
    rw [e, fail_num] at h
    cases h
  | k + 1, a, x :: r, f, c, h => by
    have e : numM (k + 1) a (x :: r, f, c) = numM k (a * 256 + x.toNat) (r, f, c) := rfl
    rw [e] at h ⊢
    obtain ⟨h1, m, h2, h3, h4⟩ := numM_one k _ r f c h
    have hp : 0 < 256 ^ k := Nat.pow_pos (by omega)
    have hx := x.toNat_lt
    refine ⟨h1, x.toNat * 256 ^ k + m, ?_, ?_, ?_⟩
    · rw [h2, Nat.add_mul, Nat.pow_succ, Nat.mul_assoc, Nat.mul_comm 256 (256 ^ k), Nat.add_assoc]
    · have : (x.toNat + 1) * 256 ^ k ≤ 256 * 256 ^ k := Nat.mul_le_mul_right _ (by omega)
      rw [Nat.add_mul, Nat.one_mul] at this
      rw [Nat.pow_succ, Nat.mul_comm (256 ^ k) 256]
      omega
    · show x :: r = UInt8.ofNat ((x.toNat * 256 ^ k + m) / 256 ^ k % 256) :: (encB k (x.toNat * 256 ^ k + m) ++ _)
      rw [encB_add, Nat.add_comm, Nat.add_mul_div_right _ _ hp, Nat.div_eq_of_lt h3, Nat.zero_add, Nat.mod_eq_of_lt hx, UInt8.ofNat_toNat]
      exact congrArg (fun z => x :: z) h4

theorem tabL_eq (e : V → List UInt8) : ∀ E : List V, tabL e E = listL (fun x => chainL (opnE x).1 ++ e (opnE x).2) E
  | [] => rfl
  | x :: r => by
    show 1 :: (chainL (opnE x).1 ++ (e (opnE x).2 ++ tabL e r)) = 1 :: ((chainL (opnE x).1 ++ e (opnE x).2) ++ listL _ r)
    rw [tabL_eq e r, List.append_assoc]
theorem sumOf_mapQ (c : V → Nat) (g : V → V) : ∀ l : List V, sumOf c (l.map g) = sumOf (fun x => c (g x)) l
  | [] => rfl
  | x :: r => by
    show c (g x) + sumOf c (r.map g) = c (g x) + sumOf (fun x => c (g x)) r
    rw [sumOf_mapQ c g r]
theorem sumOf_inQ (c : V → Nat) : ∀ {l : List V} {x : V}, x ∈ l → c x ≤ sumOf c l
  | y :: r, x, h => by
    show c x ≤ c y + sumOf c r
    rcases List.mem_cons.1 h with rfl | h
    · omega
    · have := sumOf_inQ c h
      omega
theorem pow8 : (256 : Nat) ^ 8 = 18446744073709551616 := by decide
/-- What e writes of x, rd reads. -/
def Back (rd : St → V × St) (e : V → List UInt8) (c : V → Nat) (x : V) : Prop := ∀ (p : List UInt8) (f : Bool) (k : Nat), k + c x ≤ 2000 → rd (e x ++ p, f, k) = (x, p, f, k + c x)
theorem parts_enc {rd : St → V × St} {e : V → List UInt8} {c : V → Nat} {room : Nat} (p : List UInt8) (f : Bool) : ∀ (L acc : List V) (n k : Nat), (∀ x ∈ L, Back rd e c x) → acc.length + L.length ≤ room → L.length < n → k + sumOf c L ≤ 2000 →
    partsM rd room n acc (listL e L ++ p, f, k) = (acc ++ L, p, f, k + sumOf c L)
  | L, acc, 0, k, _, _, h, _ => by cases h
  | [], acc, n + 1, k, _, _, _, _ => by
    rw [List.append_nil]
    rfl
  | x :: r, acc, n + 1, k, hb, hr, hn, hk => by
    have e2 : sumOf c (x :: r) = c x + sumOf c r := rfl
    simp only [List.length_cons] at hr hn
    rw [e2] at hk ⊢
    have hx := hb x (by simp) (listL e r ++ p) f k (by omega)
    have ih := parts_enc (rd := rd) (e := e) (c := c) (room := room) p f r (acc ++ [x]) n (k + c x) (fun y hy => hb y (by simp [hy])) (by simp only [List.length_append, List.length_cons, List.length_nil]; omega) (by omega) (by omega)
    have eL : listL e (x :: r) ++ p = 1 :: (e x ++ (listL e r ++ p)) := by
      show 1 :: ((e x ++ listL e r) ++ p) = _
      rw [List.append_assoc]
    rw [eL]
    show partsM rd room n (if acc.length < room then acc ++ [(rd (e x ++ (listL e r ++ p), f, k)).1] else acc) (rd (e x ++ (listL e r ++ p), f, k)).2 = _
    rw [hx, if_pos (by omega), ih, List.append_assoc, Nat.add_assoc]
    rfl
theorem ent_back {rd : St → V × St} {e : V → List UInt8} {c : V → Nat} {k : List UInt8} {y : V} (h : Back rd e c y) : Back (entM rd) (fun x => chainL (opnE x).1 ++ e (opnE x).2) (fun x => c (opnE x).2) (ent k y) := fun p f n hn => by
  have h1 := h p f n hn
  have e1 : (fun x => chainL (opnE x).1 ++ e (opnE x).2) (ent k y) ++ p = chainF k ++ (0 :: 0 :: (e y ++ p)) := by
    show (chainL k ++ e y) ++ p = _
    unfold chainL
    simp only [List.append_assoc]
    rfl
  rw [e1]
  unfold entM
  rw [chainM_enc k [] (e y ++ p) (f, n) _ (by simp only [List.length_append]; omega)]
  dsimp only
  rw [h1]
  rfl
theorem behind_1 (rd : St → V × St) (s : St) : behindM rd 1 s = (leaf (0, 0, 0, []), s) := by unfold behindM; rw [if_pos rfl]
theorem behind_2 (rd : St → V × St) (s : St) : behindM rd 2 s = (leaf (1, ((byteM s).1.toNat : Int), 0, []), (byteM s).2) := by unfold behindM; rw [if_neg (by decide), if_pos rfl]
theorem behind_3 (rd : St → V × St) (s : St) : behindM rd 3 s = (leaf (2, ((numM 8 0 s).1 : Int) - 9223372036854775808, 0, []), (numM 8 0 s).2) := by unfold behindM; rw [if_neg (by decide), if_neg (by decide), if_pos rfl]
theorem behind_4 (rd : St → V × St) (s : St) : behindM rd 4 s = (leaf (3, 0, turnB (numM 8 0 s).1, []), (numM 8 0 s).2) := by unfold behindM; rw [if_neg (by decide), if_neg (by decide), if_neg (by decide), if_pos rfl]
theorem behind_5 (rd : St → V × St) (s : St) : behindM rd 5 s = (leaf (4, 0, 0, (chainM (s.1.length + 1) [] s).1), (chainM (s.1.length + 1) [] s).2) := by unfold behindM; rw [if_neg (by decide), if_neg (by decide), if_neg (by decide), if_neg (by decide), if_pos rfl]
theorem behind_6 (rd : St → V × St) (s : St) : behindM rd 6 s = (mkV (5, 0, 0, []) (partsM rd (roomM s) (s.1.length + 1) [] s).1 [], (partsM rd (roomM s) (s.1.length + 1) [] s).2) := by unfold behindM; rw [if_neg (by decide), if_neg (by decide), if_neg (by decide), if_neg (by decide), if_neg (by decide), if_pos rfl]
theorem behind_7 (rd : St → V × St) (s : St) : behindM rd 7 s = (mkV (6, 0, 0, []) [] (partsM (entM rd) (roomM s) (s.1.length + 1) [] s).1, (partsM (entM rd) (roomM s) (s.1.length + 1) [] s).2) := by unfold behindM; rw [if_neg (by decide), if_neg (by decide), if_neg (by decide), if_neg (by decide), if_neg (by decide), if_neg (by decide), if_pos rfl]
theorem behind_no (rd : St → V × St) (s : St) {c : UInt8} (h : ¬ (1 ≤ c.toNat ∧ c.toNat ≤ 7)) : behindM rd c s = (leaf ((c.toNat : Int) - 1, 0, 0, []), failM s) := by
  have h1 : c ≠ 1 := fun e => h (by rw [e]; decide)
  have h2 : c ≠ 2 := fun e => h (by rw [e]; decide)
  have h3 : c ≠ 3 := fun e => h (by rw [e]; decide)
  have h4 : c ≠ 4 := fun e => h (by rw [e]; decide)
  have h5 : c ≠ 5 := fun e => h (by rw [e]; decide)
  have h6 : c ≠ 6 := fun e => h (by rw [e]; decide)
  have h7 : c ≠ 7 := fun e => h (by rw [e]; decide)
  unfold behindM
  rw [if_neg h1, if_neg h2, if_neg h3, if_neg h4, if_neg h5, if_neg h6, if_neg h7]
theorem listL_long (e : V → List UInt8) : ∀ L : List V, L.length < (listL e L).length
  | [] => by simp [listL]
  | x :: r => by
    have := listL_long e r
    show r.length + 1 < (e x ++ listL e r).length + 1
    rw [List.length_append]
    omega
theorem nodes_mk (n : Nat) (x : Lab) (L E : List V) : nodesV (n + 1) (mkV x L E) = sumOf (nodesV n) L + sumOf (fun e => nodesV n (opnE e).2) E + 1 := by
  show sumOf (nodesV n) (parts (mkV x L E)) + 1 = _
  rw [parts_mk, sumOf_append, sumOf_mapQ]
/-- A value that was written is read. -/
theorem valM_enc : ∀ (n : Nat) (v : V), IsV n v → GoodV n v → FewV n v → Back (valM n) (encV n) (nodesV n) v
  | 0, v, h, _, _ => h.elim
  | n + 1, v, hI, hG, hF => fun p f k hk => by
    obtain ⟨⟨x1, x2, x3, x4⟩, L, E, rfl, hx, iL, iE⟩ := hI
    obtain ⟨ok, _, gL, gE⟩ := hG
    obtain ⟨⟨fl, fe⟩, fp⟩ := hF
    rw [opn_mk] at ok gL gE fl fe
    dsimp only at ok gL gE fl fe hx
    rw [parts_mk] at fp
    have hn := nodes_mk n (x1, x2, x3, x4) L E
    have bL : ∀ y ∈ L, Back (valM n) (encV n) (nodesV n) y := fun y hy => valM_enc n y (iL y hy) (gL y hy) (fp y (List.mem_append_left _ hy))
    have bE : ∀ e ∈ E, Back (entM (valM n)) (fun x => chainL (opnE x).1 ++ encV n (opnE x).2) (fun x => nodesV n (opnE x).2) e := fun e he => by
      have g := gE e he
      have q := fp (opnE e).2 (List.mem_append_right _ (List.mem_map.2 ⟨e, he, rfl⟩))
      obtain ⟨kk, y, rfl, iy⟩ := iE e he
      rw [opnE_ent] at g q
      exact ent_back (valM_enc n y iy g q)
    obtain ⟨k1, k2, k3, k4, k5, k6, k7, k8, k9⟩ := ok
    dsimp only at k1 k2 k3 k4 k5 k6 k7 k8 k9
    have e0 : valM (n + 1) (encV (n + 1) (mkV (x1, x2, x3, x4) L E) ++ p, f, k) = behindM (valM n) (UInt8.ofNat (x1 + 1).toNat) (bodyL (encV n) (x1, x2, x3, x4) L E ++ p, f, k + 1) := rfl
    rw [e0]
    have zN : ¬ (x1 = 1 ∨ x1 = 2) → x2 = 0 := not_or k2
    have zF : ¬ x1 = 3 → x3 = 0 := not_orN k5
    have zS : ¬ x1 = 4 → x4 = [] := not_orL k7
    have zL : ¬ x1 = 5 → L = [] := not_orL k8
    have zE : ¬ x1 = 6 → E = [] := not_orL k9
    obtain h | h | h | h | h | h | h : x1 = 0 ∨ x1 = 1 ∨ x1 = 2 ∨ x1 = 3 ∨ x1 = 4 ∨ x1 = 5 ∨ x1 = 6 := by omega
    · obtain rfl := zN (by omega); obtain rfl := zF (by omega); obtain rfl := zS (by omega); obtain rfl := zL (by omega); obtain rfl := zE (by omega)
      subst h
      rw [hn]
      exact behind_1 _ _
    · obtain rfl := zF (by omega); obtain rfl := zS (by omega); obtain rfl := zL (by omega); obtain rfl := zE (by omega)
      subst h
      rw [hn]
      refine (behind_2 _ _).trans ?_
      rcases k3 rfl with rfl | rfl <;> rfl
    · obtain rfl := zF (by omega); obtain rfl := zS (by omega); obtain rfl := zL (by omega); obtain rfl := zE (by omega)
      subst h
      rw [hn]
      refine (behind_3 _ _).trans ?_
      have hb : bodyL (encV n) ((2 : Int), x2, (0 : Nat), ([] : List UInt8)) [] [] = encB 8 (x2 + 9223372036854775808).toNat := rfl
      have hm := numM_enc 8 (x2 + 9223372036854775808).toNat 0 p (f, k + 1)
      rw [Nat.zero_mul, Nat.zero_add, Nat.mod_eq_of_lt (by rw [pow8]; omega)] at hm
      rw [hb, hm]
      show (leaf (2, ((x2 + 9223372036854775808).toNat : Int) - 9223372036854775808, 0, []), _) = _
      rw [show ((x2 + 9223372036854775808).toNat : Int) - 9223372036854775808 = x2 by omega]
      rfl
    · obtain rfl := zN (by omega); obtain rfl := zS (by omega); obtain rfl := zL (by omega); obtain rfl := zE (by omega)
      subst h
      rw [hn]
      refine (behind_4 _ _).trans ?_
      have hb : bodyL (encV n) ((3 : Int), (0 : Int), x3, ([] : List UInt8)) [] [] = encB 8 (turnF x3) := rfl
      have hm := numM_enc 8 (turnF x3) 0 p (f, k + 1)
      have hlt := turnF_lt hx
      rw [Nat.zero_mul, Nat.zero_add, Nat.mod_eq_of_lt (by rw [pow8]; omega)] at hm
      rw [hb, hm]
      dsimp only
      rw [turnB_turnF hx]
      rfl
    · obtain rfl := zN (by omega); obtain rfl := zF (by omega); obtain rfl := zL (by omega); obtain rfl := zE (by omega)
      subst h
      rw [hn]
      refine (behind_5 _ _).trans ?_
      have hb : bodyL (encV n) ((4 : Int), (0 : Int), (0 : Nat), x4) [] [] ++ p = chainF x4 ++ (0 :: 0 :: p) := by
        show chainL x4 ++ p = _
        unfold chainL
        rw [List.append_assoc]
        rfl
      rw [hb, chainM_enc x4 [] p (f, k + 1) _ (by simp only [List.length_append]; omega)]
      rfl
    · obtain rfl := zN (by omega); obtain rfl := zF (by omega); obtain rfl := zS (by omega); obtain rfl := zE (by omega)
      subst h
      have hn' : nodesV (n + 1) (mkV (5, 0, 0, []) L []) = sumOf (nodesV n) L + 1 := hn
      rw [hn'] at hk ⊢
      refine (behind_6 _ _).trans ?_
      have hb : bodyL (encV n) ((5 : Int), (0 : Int), (0 : Nat), ([] : List UInt8)) L [] = listL (encV n) L := rfl
      have hr : roomM (bodyL (encV n) ((5 : Int), (0 : Int), (0 : Nat), ([] : List UInt8)) L [] ++ p, f, k + 1) = 201 := if_neg (by show ¬ 2000 < k + 1; omega)
      rw [hr, hb, parts_enc p f L [] _ (k + 1) bL (by simp only [List.length_nil]; omega) (by have := listL_long (encV n) L; simp only [List.length_append]; omega) (by omega)]
      rw [show k + 1 + sumOf (nodesV n) L = k + (sumOf (nodesV n) L + 1) by omega]
      rfl
    · obtain rfl := zN (by omega); obtain rfl := zF (by omega); obtain rfl := zS (by omega); obtain rfl := zL (by omega)
      subst h
      have hn' : nodesV (n + 1) (mkV (6, 0, 0, []) [] E) = sumOf (fun e => nodesV n (opnE e).2) E + 1 := by
        rw [hn]
        show 0 + _ + 1 = _
        omega
      rw [hn'] at hk ⊢
      refine (behind_7 _ _).trans ?_
      have hb : bodyL (encV n) ((6 : Int), (0 : Int), (0 : Nat), ([] : List UInt8)) [] E = listL (fun x => chainL (opnE x).1 ++ encV n (opnE x).2) E := tabL_eq (encV n) E
      have hr : roomM (bodyL (encV n) ((6 : Int), (0 : Int), (0 : Nat), ([] : List UInt8)) [] E ++ p, f, k + 1) = 201 := if_neg (by show ¬ 2000 < k + 1; omega)
      rw [hr, hb, parts_enc p f E [] _ (k + 1) bE (by simp only [List.length_nil]; omega) (by have := listL_long (fun x => chainL (opnE x).1 ++ encV n (opnE x).2) E; simp only [List.length_append]; omega) (by omega)]
      rw [show k + 1 + sumOf (fun e => nodesV n (opnE e).2) E = k + (sumOf (fun e => nodesV n (opnE e).2) E + 1) by omega]
      rfl
end Go.Proofs.YtdpoiagnjdajbaaDoor.valus
/- What is read was written so, where all was kept: plain mathematics. -/
set_option linter.unusedVariables false
namespace Go.Proofs.YtdpoiagnjdajbaaDoor.valus

/-- Who reads without failing has read what e writes, or has left something out. -/
def One (rd : St → V × St) (e : V → List UInt8) (c : V → Nat) (Is Fw : V → Prop) : Prop :=
  ∀ s : St, (rd s).2.2.1 = false → s.2.1 = false ∧ Is (rd s).1 ∧ s.2.2 + c (rd s).1 ≤ (rd s).2.2.2 ∧ ((s.1 = e (rd s).1 ++ (rd s).2.1 ∧ (rd s).2.2.2 = s.2.2 + c (rd s).1) ∨ 2000 < s.2.2 + c (rd s).1 ∨ ¬ Fw (rd s).1)
theorem has_one (l : List UInt8) (f : Bool) (k : Nat) : ((hasM (l, f, k)).1 = true ∧ ∃ r, l = 1 :: r ∧ (hasM (l, f, k)).2 = (r, f, k)) ∨ ((hasM (l, f, k)).1 = false ∧ ((hasM (l, f, k)).2.2.1 = true ∨ ∃ r, l = 0 :: r ∧ (hasM (l, f, k)).2 = (r, f, k))) := by
  cases l with
  | nil => exact .inr ⟨rfl, .inl rfl⟩
  | cons c r =>
    by_cases h1 : c = 1
    · have e : hasM (c :: r, f, k) = (true, r, f, k) := if_pos h1
      rw [e]
      exact .inl ⟨rfl, r, by rw [h1], rfl⟩
    · by_cases h0 : c = 0
      · have e : hasM (c :: r, f, k) = (false, r, f, k) := by
          show (if c = 1 then (true, (r, f, k)) else if c = 0 then (false, (r, f, k)) else (false, failM (r, f, k))) = _
          rw [if_neg h1, if_pos h0]
        rw [e]
        exact .inr ⟨rfl, .inr ⟨r, by rw [h0], rfl⟩⟩
      · have e : hasM (c :: r, f, k) = (false, failM (r, f, k)) := by
          show (if c = 1 then (true, (r, f, k)) else if c = 0 then (false, (r, f, k)) else (false, failM (r, f, k))) = _
          rw [if_neg h1, if_neg h0]
        rw [e]
        exact .inr ⟨rfl, .inl rfl⟩
theorem parts_one {rd : St → V × St} {e : V → List UInt8} {c : V → Nat} {Is Fw : V → Prop} (h : One rd e c Is Fw) (hle : ∀ s, (rd s).2.1.length ≤ s.1.length) (room : Nat) : ∀ (n : Nat) (acc : List V) (l : List UInt8) (f : Bool) (k : Nat), l.length < n → (partsM rd room n acc (l, f, k)).2.2.1 = false →
    f = false ∧ ∃ M, (partsM rd room n acc (l, f, k)).1 = acc ++ M ∧ (∀ x ∈ M, Is x) ∧ k + sumOf c M ≤ (partsM rd room n acc (l, f, k)).2.2.2 ∧ ((l = listL e M ++ (partsM rd room n acc (l, f, k)).2.1 ∧ (partsM rd room n acc (l, f, k)).2.2.2 = k + sumOf c M) ∨ 2000 < k + sumOf c M ∨ (∃ x ∈ M, ¬ Fw x) ∨ room ≤ (acc ++ M).length)
  | 0, acc, l, f, k, hl, _ => by cases hl
  | n + 1, acc, l, f, k, hl, hf => by
    have e0 : partsM rd room (n + 1) acc (l, f, k) = if (hasM (l, f, k)).1 = true then partsM rd room n (if acc.length < room then acc ++ [(rd (hasM (l, f, k)).2).1] else acc) (rd (hasM (l, f, k)).2).2 else (acc, (hasM (l, f, k)).2) := rfl
    rw [e0] at hf ⊢
    rcases has_one l f k with ⟨hh, r, rfl, hr⟩ | ⟨hh, hh2⟩
    · rw [if_pos hh, hr] at hf ⊢
      have hrl := hle (r, f, k)
      have h1 := h (r, f, k)
      simp only [List.length_cons] at hl
      generalize hrd : rd (r, f, k) = res at *
      obtain ⟨t, l1, f1, k1⟩ := res
      dsimp only at hf hrl h1 ⊢
      obtain ⟨g1, M, g2, g3, g5, g4⟩ := parts_one h hle room n _ l1 f1 k1 (by omega) hf
      obtain ⟨q1, q2, q4, q3⟩ := h1 g1
      refine ⟨q1, ?_⟩
      by_cases hroom : acc.length < room
      · rw [if_pos hroom] at g2 g4 g5 hf ⊢
        have es : sumOf c (t :: M) = c t + sumOf c M := rfl
        refine ⟨t :: M, ?_, ?_, by rw [es]; omega, ?_⟩
        · rw [g2, List.append_assoc]
          rfl
        · intro x hx
          rcases List.mem_cons.1 hx with rfl | hx
          · exact q2
          · exact g3 x hx
        · rw [es]
          rcases q3 with ⟨a1, a2⟩ | a | a
          · rcases g4 with ⟨b1, b2⟩ | b | b | b
            · refine .inl ⟨?_, ?_⟩
              · show 1 :: r = (1 :: (e t ++ listL e M)) ++ _
                rw [a1]
                refine (congrArg (fun z => (1 : UInt8) :: (e t ++ z)) b1).trans ?_
                simp only [List.cons_append, List.append_assoc]
              · rw [b2, a2]
                omega
            · exact .inr (.inl (by omega))
            · obtain ⟨x, hx, hw⟩ := b
              exact .inr (.inr (.inl ⟨x, by simp [hx], hw⟩))
            · exact .inr (.inr (.inr (by simp only [List.length_append, List.length_cons, List.length_nil] at b ⊢; omega)))
          · exact .inr (.inl (by omega))
          · exact .inr (.inr (.inl ⟨t, by simp, a⟩))
      · rw [if_neg hroom] at g2 g4 g5 hf ⊢
        exact ⟨M, g2, g3, by omega, .inr (.inr (.inr (by simp only [List.length_append]; omega)))⟩
    · rw [if_neg (by rw [hh]; simp)] at hf ⊢
      rcases hh2 with h2 | ⟨r, rfl, hr⟩
      · dsimp only at hf
        rw [h2] at hf
        cases hf
      · rw [hr] at hf ⊢
        exact ⟨hf, [], (List.append_nil _).symm, fun x hx => (by cases hx), Nat.le_refl _, .inl ⟨rfl, rfl⟩⟩
theorem pent_one {rd : St → V × St} {e : V → List UInt8} {c : V → Nat} {Is Fw : V → Prop} (h : One rd e c Is Fw) : One (entM rd) (fun x => chainL (opnE x).1 ++ e (opnE x).2) (fun x => c (opnE x).2) (fun x => ∃ k y, x = ent k y ∧ Is y) (fun x => Fw (opnE x).2) := fun s hf => by
  obtain ⟨l, f, k⟩ := s
  have h1 := h (chainM (l.length + 1) [] (l, f, k)).2 hf
  have h2 := chainM_one (l.length + 1) [] l f k (Nat.lt_succ_self _)
  have h3 := (dn_chain (l.length + 1) [] (l, f, k)).2
  have e0 : entM rd (l, f, k) = (ent (chainM (l.length + 1) [] (l, f, k)).1 (rd (chainM (l.length + 1) [] (l, f, k)).2).1, (rd (chainM (l.length + 1) [] (l, f, k)).2).2) := rfl
  rw [e0]
  generalize chainM (l.length + 1) [] (l, f, k) = X at *
  obtain ⟨t, l1, f1, k1⟩ := X
  dsimp only at h1 h2 h3 ⊢
  obtain ⟨a1, a2, a4, a3⟩ := h1
  obtain ⟨b1, t', b2, b3⟩ := h2 a1
  rw [List.nil_append] at b2
  subst b2
  refine ⟨b1, ⟨t, _, rfl, a2⟩, ?_⟩
  rw [opnE_ent]
  dsimp only
  refine ⟨by omega, ?_⟩
  rcases a3 with ⟨c1, c2⟩ | c1 | c1
  · refine .inl ⟨?_, by omega⟩
    rw [b3]
    exact (congrArg (fun z => chainL t ++ z) c1).trans (List.append_assoc _ _ _).symm
  · exact .inr (.inl (by omega))
  · exact .inr (.inr c1)
theorem isV_leaf {n : Nat} {x : Lab} (h : x.2.2.1 < 18446744073709551616) : IsV (n + 1) (leaf x) := ⟨x, [], [], rfl, h, fun y hy => (by cases hy), fun y hy => (by cases hy)⟩
theorem u8_cases {c : UInt8} (h1 : 1 ≤ c.toNat) (h2 : c.toNat ≤ 7) : c = 1 ∨ c = 2 ∨ c = 3 ∨ c = 4 ∨ c = 5 ∨ c = 6 ∨ c = 7 := by
  have e : ∀ d : UInt8, c.toNat = d.toNat → c = d := fun d hd => UInt8.toNat_inj.1 hd
  obtain h | h | h | h | h | h | h : c.toNat = 1 ∨ c.toNat = 2 ∨ c.toNat = 3 ∨ c.toNat = 4 ∨ c.toNat = 5 ∨ c.toNat = 6 ∨ c.toNat = 7 := by omega
  · exact .inl (e 1 h)
  · exact .inr (.inl (e 2 h))
  · exact .inr (.inr (.inl (e 3 h)))
  · exact .inr (.inr (.inr (.inl (e 4 h))))
  · exact .inr (.inr (.inr (.inr (.inl (e 5 h)))))
  · exact .inr (.inr (.inr (.inr (.inr (.inl (e 6 h))))))
  · exact .inr (.inr (.inr (.inr (.inr (.inr (e 7 h))))))
/-- What is read without failing was written so, or something was left out. -/
theorem valM_one : ∀ n : Nat, One (valM n) (encV n) (nodesV n) (IsV n) (FewV n)
  | 0, s, h => by cases h
  | n + 1, (l, f, k), hf => by
    have e0 : valM (n + 1) (l, f, k) = behindM (valM n) (byteM (l, f, k + 1)).1 (byteM (l, f, k + 1)).2 := rfl
    rw [e0] at hf ⊢
    cases l with
    | nil =>
      have e1 : behindM (valM n) (byteM (([] : List UInt8), f, k + 1)).1 (byteM (([] : List UInt8), f, k + 1)).2 = (leaf (((0 : UInt8).toNat : Int) - 1, 0, 0, []), failM (failM ([], f, k + 1))) := behind_no _ _ (c := 0) (by decide)
      rw [e1] at hf
      cases hf
    | cons c r =>
      have e1 : byteM (c :: r, f, k + 1) = (c, r, f, k + 1) := rfl
      rw [e1] at hf ⊢
      dsimp only at hf ⊢
      by_cases hc : 1 ≤ c.toNat ∧ c.toNat ≤ 7
      · have nodeL : ∀ x : Lab, nodesV (n + 1) (leaf x) = 1 := fun x => rfl
        rcases u8_cases hc.1 hc.2 with rfl | rfl | rfl | rfl | rfl | rfl | rfl
        · rw [behind_1] at hf ⊢
          exact ⟨hf, isV_leaf (show (0 : Nat) < 18446744073709551616 by decide), Nat.le_refl _, .inl ⟨rfl, by rw [nodeL]⟩⟩
        · rw [behind_2] at hf ⊢
          cases r with
          | nil => cases hf
          | cons d r =>
            refine ⟨hf, isV_leaf (show (0 : Nat) < 18446744073709551616 by decide), Nat.le_refl _, .inl ⟨?_, by rw [nodeL]; rfl⟩⟩
            show (2 : UInt8) :: d :: r = 2 :: UInt8.ofNat (((d.toNat : Int) % 256).toNat) :: r
            have hd := d.toNat_lt
            rw [show ((d.toNat : Int) % 256).toNat = d.toNat by omega, UInt8.ofNat_toNat]
        · rw [behind_3] at hf ⊢
          obtain ⟨h1, m, h2, h3, h4⟩ := numM_one 8 0 r f (k + 1) hf
          have hd := (dn_num 8 0 (r, f, k + 1)).2
          rw [Nat.zero_mul, Nat.zero_add] at h2
          rw [pow8] at h3
          refine ⟨h1, isV_leaf (show (0 : Nat) < 18446744073709551616 by decide), Nat.le_of_eq hd.symm, .inl ⟨?_, by rw [nodeL]; exact hd⟩⟩
          show (3 : UInt8) :: r = 3 :: (encB 8 ((((numM 8 0 (r, f, k + 1)).1 : Int) - 9223372036854775808 + 9223372036854775808).toNat) ++ (numM 8 0 (r, f, k + 1)).2.1)
          rw [show (((numM 8 0 (r, f, k + 1)).1 : Int) - 9223372036854775808 + 9223372036854775808).toNat = m by omega]
          exact congrArg (fun z => (3 : UInt8) :: z) h4
        · rw [behind_4] at hf ⊢
          obtain ⟨h1, m, h2, h3, h4⟩ := numM_one 8 0 r f (k + 1) hf
          have hd := (dn_num 8 0 (r, f, k + 1)).2
          rw [Nat.zero_mul, Nat.zero_add] at h2
          rw [pow8] at h3
          rw [h2]
          refine ⟨h1, isV_leaf (turnB_lt h3), Nat.le_of_eq hd.symm, .inl ⟨?_, by rw [nodeL]; exact hd⟩⟩
          show (4 : UInt8) :: r = 4 :: (encB 8 (turnF (turnB m)) ++ (numM 8 0 (r, f, k + 1)).2.1)
          rw [turnF_turnB h3]
          exact congrArg (fun z => (4 : UInt8) :: z) h4
        · rw [behind_5] at hf ⊢
          obtain ⟨h1, t, h2, h3⟩ := chainM_one (r.length + 1) [] r f (k + 1) (Nat.lt_succ_self _) hf
          have hd := (dn_chain (r.length + 1) [] (r, f, k + 1)).2
          rw [List.nil_append] at h2
          refine ⟨h1, isV_leaf (show (0 : Nat) < 18446744073709551616 by decide), Nat.le_of_eq hd.symm, .inl ⟨?_, by rw [nodeL]; exact hd⟩⟩
          dsimp only
          rw [h2]
          show (5 : UInt8) :: r = 5 :: (chainL t ++ (chainM (r.length + 1) [] (r, f, k + 1)).2.1)
          exact congrArg (fun z => (5 : UInt8) :: z) h3
        · rw [behind_6] at hf ⊢
          dsimp only at hf ⊢
          obtain ⟨h1, M, h2, h3, h5, h4⟩ := parts_one (valM_one n) (fun s => (valM_up n s).1) (roomM (r, f, k + 1)) (r.length + 1) [] r f (k + 1) (Nat.lt_succ_self _) hf
          rw [List.nil_append] at h2 h4
          rw [h2]
          have hn : nodesV (n + 1) (mkV (5, 0, 0, []) M []) = sumOf (nodesV n) M + 1 := by rw [nodes_mk]; rfl
          refine ⟨h1, ⟨_, M, [], rfl, (by decide), h3, fun y hy => (by cases hy)⟩, ?_⟩
          rw [hn]
          refine ⟨by omega, ?_⟩
          have fw : FewV (n + 1) (mkV (5, 0, 0, []) M []) → M.length ≤ 200 ∧ ∀ y ∈ M, FewV n y := fun h => ⟨h.1.1, fun y hy => h.2 y (by rw [parts_mk]; exact List.mem_append_left _ hy)⟩
          rcases h4 with ⟨a1, a2⟩ | a | ⟨x, hx, hw⟩ | a
          · refine .inl ⟨?_, by rw [a2]; omega⟩
            show (6 : UInt8) :: r = 6 :: (listL (encV n) M ++ _)
            exact congrArg (fun z => (6 : UInt8) :: z) a1
          · exact .inr (.inl (by omega))
          · exact .inr (.inr fun h => hw ((fw h).2 x hx))
          · by_cases hk : 2000 < k + 1
            · exact .inr (.inl (by omega))
            · have hr : roomM (r, f, k + 1) = 201 := if_neg hk
              rw [hr] at a
              exact .inr (.inr fun h => by have := (fw h).1; omega)
        · rw [behind_7] at hf ⊢
          dsimp only at hf ⊢
          obtain ⟨h1, M, h2, h3, h5, h4⟩ := parts_one (pent_one (valM_one n)) (fun s => (up_ent (valM_up n) s).1) (roomM (r, f, k + 1)) (r.length + 1) [] r f (k + 1) (Nat.lt_succ_self _) hf
          rw [List.nil_append] at h2 h4
          rw [h2]
          have hn : nodesV (n + 1) (mkV (6, 0, 0, []) [] M) = sumOf (fun e => nodesV n (opnE e).2) M + 1 := by
            rw [nodes_mk]
            show 0 + _ + 1 = _
            omega
          refine ⟨h1, ⟨_, [], M, rfl, (by decide), fun y hy => (by cases hy), h3⟩, ?_⟩
          rw [hn]
          refine ⟨by omega, ?_⟩
          have fw : FewV (n + 1) (mkV (6, 0, 0, []) [] M) → M.length ≤ 200 ∧ ∀ y ∈ M, FewV n (opnE y).2 := fun h => ⟨h.1.2, fun y hy => h.2 _ (by rw [parts_mk]; exact List.mem_append_right _ (List.mem_map.2 ⟨y, hy, rfl⟩))⟩
          rcases h4 with ⟨a1, a2⟩ | a | ⟨x, hx, hw⟩ | a
          · refine .inl ⟨?_, by rw [a2]; omega⟩
            show (7 : UInt8) :: r = 7 :: (tabL (encV n) M ++ _)
            rw [tabL_eq]
            exact congrArg (fun z => (7 : UInt8) :: z) a1
          · exact .inr (.inl (by omega))
          · exact .inr (.inr fun h => hw ((fw h).2 x hx))
          · by_cases hk : 2000 < k + 1
            · exact .inr (.inl (by omega))
            · have hr : roomM (r, f, k + 1) = 201 := if_neg hk
              rw [hr] at a
              exact .inr (.inr fun h => by have := (fw h).1; omega)
      · rw [behind_no _ _ hc] at hf
        cases hf
/-- At more levels the bytes are the same. -/
theorem listL_same {e g : V → List UInt8} : ∀ {L : List V}, (∀ x ∈ L, e x = g x) → listL e L = listL g L
  | [], _ => rfl
  | x :: r, h => by
    show 1 :: (e x ++ listL e r) = 1 :: (g x ++ listL g r)
    rw [h x (by simp), listL_same (fun y hy => h y (by simp [hy]))]
theorem encV_more : ∀ {n : Nat} {v : V}, IsV n v → encV (n + 1) v = encV n v
  | 0, _, h => h.elim
  | n + 1, _, ⟨x, L, E, rfl, _, iL, iE⟩ => by
    have eL : listL (encV (n + 1)) L = listL (encV n) L := listL_same (fun y hy => encV_more (iL y hy))
    have eE : tabL (encV (n + 1)) E = tabL (encV n) E := by
      rw [tabL_eq, tabL_eq]
      refine listL_same (fun y hy => ?_)
      obtain ⟨k, z, rfl, hz⟩ := iE y hy
      rw [opnE_ent]
      dsimp only
      rw [encV_more hz]
    show UInt8.ofNat (x.1 + 1).toNat :: bodyL (encV (n + 1)) x L E = UInt8.ofNat (x.1 + 1).toNat :: bodyL (encV n) x L E
    unfold bodyL
    rw [eL, eE]
theorem encV_le {n m : Nat} {v : V} (h : IsV n v) (hm : n ≤ m) : encV m v = encV n v := by
  obtain ⟨d, rfl⟩ := Nat.le.dest hm
  induction d with
  | zero => rfl
  | succ d ih => exact (encV_more (h.le (by omega : n ≤ n + d))).trans (ih (by omega))
theorem encV_any {n m : Nat} {v : V} (h : IsV n v) (g : IsV m v) : encV m v = encV n v := by
  rcases Nat.le_total n m with hl | hl
  · exact encV_le h hl
  · exact (encV_le g hl).symm
theorem GoodV.of : ∀ {m n : Nat} {v : V}, GoodV n v → IsV m v → GoodV m v
  | 0, _, _, _, h => h.elim
  | m + 1, 0, _, g, _ => g.elim
  | m + 1, n + 1, v, ⟨a, b, l, e⟩, h => ⟨a, b, fun y hy => GoodV.of (l y hy) (h.part (List.mem_append_left _ hy)), fun z hz => GoodV.of (e z hz) (h.part (List.mem_append_right _ (List.mem_map.2 ⟨z, hz, rfl⟩)))⟩
theorem maxOf_in (q : V → Nat) : ∀ {l : List V} {x : V}, x ∈ l → q x ≤ maxOf q l
  | y :: r, x, h => by
    show q x ≤ max (q y) (maxOf q r)
    rcases List.mem_cons.1 h with rfl | h
    · omega
    · have := maxOf_in q h
      omega
theorem IsV.shallow : ∀ {n d : Nat} {v : V}, IsV n v → depthV n v ≤ d → IsV d v
  | 0, _, _, h, _ => h.elim
  | n + 1, 0, _, h, hd => by cases hd
  | n + 1, d + 1, v, h, hd => by
    have hd' : maxOf (depthV n) (parts v) + 1 ≤ d + 1 := hd
    have hp : ∀ y ∈ parts v, IsV d y := fun y hy => (h.part hy).shallow (by have := maxOf_in (depthV n) hy; omega)
    obtain ⟨x, L, E, rfl, hx, iL, iE⟩ := h
    rw [parts_mk] at hp
    refine ⟨x, L, E, rfl, hx, fun y hy => hp y (List.mem_append_left _ hy), fun z hz => ?_⟩
    have h2 := hp (opnE z).2 (List.mem_append_right _ (List.mem_map.2 ⟨z, hz, rfl⟩))
    obtain ⟨k, y, rfl, _⟩ := iE z hz
    exact ⟨k, y, rfl, h2⟩
end Go.Proofs.YtdpoiagnjdajbaaDoor.valus
/- What the document reads, beside what the program reads: plain mathematics. -/
set_option linter.unusedVariables false
namespace Go.Proofs.YtdpoiagnjdajbaaDoor.valus

/-- A text at the front, and what stands behind it. -/
def unchL : List UInt8 → Option (List UInt8 × List UInt8)
  | c :: d :: r => if c ≠ 0 then (unchL (d :: r)).map (fun p => (c :: p.1, p.2)) else if d = 0 then some ([], r) else if d ≠ 255 then none else (unchL r).map (fun p => (0 :: p.1, p.2))
  | _ => none
theorem chain_un : ∀ (n : Nat) (acc l : List UInt8) (f : Bool) (k : Nat), l.length < n →
    (unchL l = none → (chainM n acc (l, f, k)).2.2.1 = true) ∧ (∀ t r, unchL l = some (t, r) → chainM n acc (l, f, k) = (acc ++ t, r, f, k))
  | 0, acc, l, f, k, h => by cases h
  | n + 1, acc, [], f, k, h => ⟨fun _ => rfl, fun t r e => by simp [unchL] at e⟩
  | n + 1, acc, [c], f, k, h => by
    refine ⟨fun _ => ?_, fun t r e => by simp [unchL] at e⟩
    have e : chainM (n + 1) acc ([c], f, k) = if c = 0 then (if (insideM ([], f, k)).1 = true then chainM n (acc ++ [0]) (insideM ([], f, k)).2 else (acc, (insideM ([], f, k)).2)) else chainM n (acc ++ [c]) ([], f, k) := rfl
    rw [e]
    by_cases hc : c = 0
    · rw [if_pos hc]
      rfl
    · rw [if_neg hc]
      have h' : ([] : List UInt8).length < n := by simp only [List.length_cons, List.length_nil] at h ⊢; omega
      exact (chain_un n (acc ++ [c]) [] f k h').1 (by simp [unchL])
  | n + 1, acc, c :: d :: r, f, k, h => by
    simp only [List.length_cons] at h
    have e : chainM (n + 1) acc (c :: d :: r, f, k) = if c = 0 then (if (insideM (d :: r, f, k)).1 = true then chainM n (acc ++ [0]) (insideM (d :: r, f, k)).2 else (acc, (insideM (d :: r, f, k)).2)) else chainM n (acc ++ [c]) (d :: r, f, k) := rfl
    have u : unchL (c :: d :: r) = if c ≠ 0 then (unchL (d :: r)).map (fun p => (c :: p.1, p.2)) else if d = 0 then some ([], r) else if d ≠ 255 then none else (unchL r).map (fun p => (0 :: p.1, p.2)) := by rw [unchL]
    rw [e, u]
    by_cases hc : c = 0
    · rw [if_pos hc, if_neg (fun h => h hc)]
      by_cases h1 : d = 255
      · have ei : insideM (d :: r, f, k) = (true, r, f, k) := if_pos h1
        rw [ei, if_pos rfl, if_neg (by rw [h1]; decide), if_neg (fun h => h h1)]
        have ih := chain_un n (acc ++ [0]) r f k (by omega)
        refine ⟨fun hn => ih.1 (by cases hu : unchL r with | none => rfl | some p => rw [hu] at hn; cases hn), fun t r' hs => ?_⟩
        cases hu : unchL r with
        | none => rw [hu] at hs; cases hs
        | some p =>
          rw [hu] at hs
          obtain ⟨a, b⟩ := p
          simp only [Option.map_some, Option.some.injEq, Prod.mk.injEq] at hs
          obtain ⟨rfl, rfl⟩ := hs
          rw [ih.2 a b hu, List.append_assoc]
          rfl
      · by_cases h0 : d = 0
        · have ei : insideM (d :: r, f, k) = (false, r, f, k) := by
            show (if d = 255 then (true, (r, f, k)) else if d = 0 then (false, (r, f, k)) else (false, failM (r, f, k))) = _
            rw [if_neg h1, if_pos h0]
          rw [ei]
          dsimp only
          rw [if_neg Bool.false_ne_true, if_pos h0]
          refine ⟨fun hn => (by cases hn), fun t r' hs => ?_⟩
          simp only [Option.some.injEq, Prod.mk.injEq] at hs
          obtain ⟨rfl, rfl⟩ := hs
          rw [List.append_nil]
        · have ei : insideM (d :: r, f, k) = (false, failM (r, f, k)) := by
            show (if d = 255 then (true, (r, f, k)) else if d = 0 then (false, (r, f, k)) else (false, failM (r, f, k))) = _
            rw [if_neg h1, if_neg h0]
          rw [ei]
          dsimp only
          rw [if_neg Bool.false_ne_true, if_neg h0, if_pos h1]
          exact ⟨fun _ => rfl, fun t r' hs => (by cases hs)⟩
    · rw [if_neg hc, if_pos hc]
      have ih := chain_un n (acc ++ [c]) (d :: r) f k (by simp only [List.length_cons]; omega)
      refine ⟨fun hn => ih.1 (by cases hu : unchL (d :: r) with | none => rfl | some p => rw [hu] at hn; cases hn), fun t r' hs => ?_⟩
      cases hu : unchL (d :: r) with
      | none => rw [hu] at hs; cases hs
      | some p =>
        rw [hu] at hs
        obtain ⟨a, b⟩ := p
        simp only [Option.map_some, Option.some.injEq, Prod.mk.injEq] at hs
        obtain ⟨rfl, rfl⟩ := hs
        rw [ih.2 a b hu, List.append_assoc]
        rfl
theorem numM_far : ∀ (k a : Nat) (l : List UInt8) (f : Bool) (c : Nat), l.length < k → (numM k a (l, f, c)).2.2.1 = true
  | 0, a, l, f, c, h => by cases h
  | k + 1, a, [], f, c, h => fail_num k _ [] c
  | k + 1, a, x :: r, f, c, h => numM_far k _ r f c (by simp only [List.length_cons] at h; omega)
theorem numM_rest : ∀ (k a : Nat) (l : List UInt8) (x : Bool × Nat), k ≤ l.length → (numM k a (l, x)).2 = (l.drop k, x)
  | 0, a, l, x, h => rfl
  | k + 1, a, [], x, h => by cases h
  | k + 1, a, y :: r, x, h => numM_rest k _ r x (by simp only [List.length_cons] at h; omega)
theorem numM_same : ∀ (k a : Nat) (l : List UInt8) (x y : Bool × Nat), (numM k a (l, x)).1 = (numM k a (l, y)).1
  | 0, a, l, x, y => rfl
  | k + 1, a, [], x, y => numM_same k _ [] (true, x.2) (true, y.2)
  | k + 1, a, z :: r, x, y => numM_same k _ r x y
/-- The number of the first eight bytes. -/
def num8 (l : List UInt8) : Nat := (numM 8 0 (l, false, 0)).1

def upL (rd : List UInt8 → Option (V × List UInt8)) : Nat → List V → List UInt8 → Option (List V × List UInt8)
  | 0, _, _ => none
  | _ + 1, _, [] => none
  | k + 1, acc, c :: r => if c = 0 then some (acc, r) else if c = 1 then (match rd r with | none => none | some p => upL rd k (acc ++ [p.1]) p.2) else none
def uE (rd : List UInt8 → Option (V × List UInt8)) (l : List UInt8) : Option (V × List UInt8) :=
  match unchL l with
  | none => none
  | some p => (rd p.2).map (fun q => (ent p.1 q.1, q.2))
def uB (rd : List UInt8 → Option (V × List UInt8)) (c : UInt8) (r : List UInt8) : Option (V × List UInt8) :=
  if c = 1 then some (leaf (0, 0, 0, []), r)
  else if c = 2 then (match r with | [] => none | d :: r' => some (leaf (1, (d.toNat : Int), 0, []), r'))
  else if c = 3 then (if r.length < 8 then none else some (leaf (2, (num8 r : Int) - 9223372036854775808, 0, []), r.drop 8))
  else if c = 4 then (if r.length < 8 then none else some (leaf (3, 0, turnB (num8 r), []), r.drop 8))
  else if c = 5 then (unchL r).map (fun p => (leaf (4, 0, 0, p.1), p.2))
  else if c = 6 then (upL rd (r.length + 1) [] r).map (fun p => (mkV (5, 0, 0, []) p.1 [], p.2))
  else if c = 7 then (upL (uE rd) (r.length + 1) [] r).map (fun p => (mkV (6, 0, 0, []) [] p.1, p.2))
  else none
/-- A value at the front that may hold so many levels, and what stands behind it. -/
def uM : Nat → List UInt8 → Option (V × List UInt8)
  | 0, _ => none
  | _ + 1, [] => none
  | n + 1, c :: r => uB (uM n) c r

/-- What was read instead of y, from the k-th value on: the same, or both are not good, and for the same reason. -/
def Tr (pr : V → V) (k k' : Nat) (x y : V) : Prop :=
  k ≤ k' ∧ (opnE x).1 = (opnE y).1 ∧ ((x = y ∧ ∀ l f g, recV oneV l f (pr x) = .inr g → f + k = g + k') ∨ ∀ l f, f ≤ 2000 - k → ∃ e, recV oneV l f (pr x) = .inl e ∧ recV oneV l f (pr y) = .inl e)
/-- What the one and the other read. -/
def Both (pr : V → V) (rd : St → V × St) (u : List UInt8 → Option (V × List UInt8)) : Prop :=
  ∀ (l : List UInt8) (k : Nat), (u l = none → (rd (l, false, k)).2.2.1 = true) ∧ ∀ y r, u l = some (y, r) → ∃ k', (rd (l, false, k)).2 = (r, false, k') ∧ Tr pr k k' (rd (l, false, k)).1 y ∧ r.length < l.length
theorem fail_parts {rd : St → V × St} (hf : ∀ l k, (rd (l, true, k)).2.2.1 = true) (room : Nat) : ∀ (n : Nat) (acc : List V) (l : List UInt8) (k : Nat), (partsM rd room n acc (l, true, k)).2.2.1 = true
  | 0, acc, l, k => rfl
  | n + 1, acc, l, k => by
    have e0 : partsM rd room (n + 1) acc (l, true, k) = if (hasM (l, true, k)).1 = true then partsM rd room n (if acc.length < room then acc ++ [(rd (hasM (l, true, k)).2).1] else acc) (rd (hasM (l, true, k)).2).2 else (acc, (hasM (l, true, k)).2) := rfl
    rw [e0]
    rcases has_one l true k with ⟨hh, r, rfl, hr⟩ | ⟨hh, hh2⟩
    · rw [if_pos hh, hr]
      have h1 := hf r k
      generalize rd (r, true, k) = q at *
      obtain ⟨t, l1, f1, k1⟩ := q
      dsimp only at h1 ⊢
      rw [h1]
      exact fail_parts hf room n _ l1 k1
    · rw [if_neg (by rw [hh]; simp)]
      rcases hh2 with h2 | ⟨r, rfl, hr⟩
      · exact h2
      · rw [hr]
end Go.Proofs.YtdpoiagnjdajbaaDoor.valus
/- What the document reads, beside what the program reads: values. -/
set_option linter.unusedVariables false
namespace Go.Proofs.YtdpoiagnjdajbaaDoor.valus

theorem recL_cons (q : Nat → V → Int ⊕ Nat) (f : Nat) (x : V) (r : List V) : recL q f (x :: r) = match q f x with | .inl e => .inl e | .inr g => recL q g r := rfl
theorem parts_both {pr : V → V} {rd : St → V × St} {u : List UInt8 → Option (V × List UInt8)} (h : Both pr rd u) (hf : ∀ l k, (rd (l, true, k)).2.2.1 = true) (room : Nat) : ∀ (n : Nat) (acc acc' : List V) (l : List UInt8) (k : Nat), l.length < n →
    (upL u n acc' l = none → (partsM rd room n acc (l, false, k)).2.2.1 = true) ∧
    ∀ Y r, upL u n acc' l = some (Y, r) → ∃ M N k', partsM rd room n acc (l, false, k) = (acc ++ M, r, false, k') ∧ Y = acc' ++ N ∧ (k ≤ k' ∧ M.length ≤ N.length ∧ r.length < l.length) ∧
      ((M = N ∧ ∀ lv f g, recL (recV oneV lv) f (M.map pr) = .inr g → f + k = g + k') ∨ room ≤ (acc ++ M).length ∨ (M.length = N.length ∧ M.map (fun x => (opnE x).1) = N.map (fun x => (opnE x).1) ∧ ∀ lv f, f ≤ 2000 - k → ∃ e, recL (recV oneV lv) f (M.map pr) = .inl e ∧ recL (recV oneV lv) f (N.map pr) = .inl e))
  | 0, acc, acc', l, k, hl => by cases hl
  | n + 1, acc, acc', [], k, hl => ⟨fun _ => rfl, fun Y r e => by cases e⟩
  | n + 1, acc, acc', c :: r, k, hl => by
    simp only [List.length_cons] at hl
    have eu : upL u (n + 1) acc' (c :: r) = if c = 0 then some (acc', r) else if c = 1 then (match u r with | none => none | some p => upL u n (acc' ++ [p.1]) p.2) else none := rfl
    have ep : partsM rd room (n + 1) acc (c :: r, false, k) = if (hasM (c :: r, false, k)).1 = true then partsM rd room n (if acc.length < room then acc ++ [(rd (hasM (c :: r, false, k)).2).1] else acc) (rd (hasM (c :: r, false, k)).2).2 else (acc, (hasM (c :: r, false, k)).2) := rfl
    have eh : hasM (c :: r, false, k) = if c = 1 then (true, (r, false, k)) else if c = 0 then (false, (r, false, k)) else (false, failM (r, false, k)) := rfl
    rw [eu, ep]
    by_cases h0 : c = 0
    · have h1 : c ≠ 1 := by rw [h0]; decide
      rw [if_neg h1, if_pos h0] at eh
      rw [eh, if_pos h0]
      dsimp only
      rw [if_neg Bool.false_ne_true]
      refine ⟨fun e => (by cases e), fun Y r' e => ?_⟩
      simp only [Option.some.injEq, Prod.mk.injEq] at e
      obtain ⟨rfl, rfl⟩ := e
      refine ⟨[], [], k, by rw [List.append_nil], by rw [List.append_nil], ⟨Nat.le_refl _, Nat.le_refl _, by simp⟩, .inl ⟨rfl, fun lv f g e => ?_⟩⟩
      injection e with e
      omega
    · rw [if_neg h0]
      by_cases h1 : c = 1
      · rw [if_pos h1] at eh
        rw [eh, if_pos h1]
        dsimp only
        rw [if_pos rfl]
        have hb := h r k
        cases hu : u r with
        | none =>
          refine ⟨fun _ => ?_, fun Y r' e => by cases e⟩
          have h2 := hb.1 hu
          generalize rd (r, false, k) = q at *
          obtain ⟨t, l1, f1, k1⟩ := q
          dsimp only at h2 ⊢
          rw [h2]
          exact fail_parts hf room n _ l1 k1
        | some p =>
          obtain ⟨y, r1⟩ := p
          obtain ⟨k1, e1, ⟨t1, t2, t3⟩, e3⟩ := hb.2 y r1 hu
          dsimp only
          rw [e1]
          generalize (rd (r, false, k)).1 = x at *
          have ih := parts_both h hf room n (if acc.length < room then acc ++ [x] else acc) (acc' ++ [y]) r1 k1 (by omega)
          refine ⟨ih.1, fun Y r' e => ?_⟩
          obtain ⟨M, N, k', q1, q2, ⟨q3, q4, q5⟩, q6⟩ := ih.2 Y r' e
          by_cases hr : acc.length < room
          · rw [if_pos hr] at q1 q6 ⊢
            refine ⟨x :: M, y :: N, k', by rw [q1, List.append_assoc]; rfl, by rw [q2, List.append_assoc]; rfl, ⟨by omega, by simp only [List.length_cons]; omega, by simp only [List.length_cons]; omega⟩, ?_⟩
            rcases q6 with ⟨m1, m2⟩ | m | ⟨m1, m2, m3⟩
            · subst m1
              rcases t3 with ⟨rfl, t4⟩ | t4
              · refine .inl ⟨rfl, fun lv f g e => ?_⟩
                rw [List.map_cons, recL_cons] at e
                cases hx : recV oneV lv f (pr x) with
                | inl z => rw [hx] at e; cases e
                | inr z =>
                  rw [hx] at e
                  have := t4 lv f z hx
                  have := m2 lv z g e
                  omega
              · refine .inr (.inr ⟨rfl, by simp only [List.map_cons]; rw [t2], fun lv f hf' => ?_⟩)
                obtain ⟨z, z1, z2⟩ := t4 lv f hf'
                exact ⟨z, by rw [List.map_cons, recL_cons, z1], by rw [List.map_cons, recL_cons, z2]⟩
            · refine .inr (.inl ?_)
              simp only [List.length_append, List.length_cons, List.length_nil] at m ⊢
              omega
            · refine .inr (.inr ⟨by simp only [List.length_cons]; omega, by simp only [List.map_cons]; rw [t2, m2], fun lv f hf' => ?_⟩)
              rcases t3 with ⟨rfl, t4⟩ | t4
              · cases hx : recV oneV lv f (pr x) with
                | inl z => exact ⟨z, by rw [List.map_cons, recL_cons, hx], by rw [List.map_cons, recL_cons, hx]⟩
                | inr z =>
                  have := t4 lv f z hx
                  obtain ⟨z', z1, z2⟩ := m3 lv z (by omega)
                  refine ⟨z', ?_, ?_⟩
                  · rw [List.map_cons, recL_cons, hx]
                    exact z1
                  · rw [List.map_cons, recL_cons, hx]
                    exact z2
              · obtain ⟨z, z1, z2⟩ := t4 lv f hf'
                exact ⟨z, by rw [List.map_cons, recL_cons, z1], by rw [List.map_cons, recL_cons, z2]⟩
          · rw [if_neg hr] at q1 q6 ⊢
            exact ⟨M, y :: N, k', q1, by rw [q2, List.append_assoc]; rfl, ⟨by omega, by simp only [List.length_cons]; omega, by simp only [List.length_cons]; omega⟩, .inr (.inl (by simp only [List.length_append]; omega))⟩
      · rw [if_neg h1, if_neg h0] at eh
        rw [eh, if_neg h1]
        dsimp only
        rw [if_neg Bool.false_ne_true]
        exact ⟨fun _ => rfl, fun Y r' e => by cases e⟩
theorem fail_val : ∀ (n : Nat) (l : List UInt8) (k : Nat), (valM n (l, true, k)).2.2.1 = true := fun n l k => by
  cases h : (valM n (l, true, k)).2.2.1 with
  | true => rfl
  | false => cases (valM_one n (l, true, k) h).1
theorem fail_ent (n : Nat) (l : List UInt8) (k : Nat) : (entM (valM n) (l, true, k)).2.2.1 = true := by
  cases h : (entM (valM n) (l, true, k)).2.2.1 with
  | true => rfl
  | false => cases (pent_one (valM_one n) (l, true, k) h).1
theorem ent_both {rd : St → V × St} {u : List UInt8 → Option (V × List UInt8)} (h : Both id rd u) (hf : ∀ l k, (rd (l, true, k)).2.2.1 = true) : Both (fun x => (opnE x).2) (entM rd) (uE u) := fun l k => by
  have h1 := chain_un (l.length + 1) [] l false k (Nat.lt_succ_self _)
  have e0 : entM rd (l, false, k) = (ent (chainM (l.length + 1) [] (l, false, k)).1 (rd (chainM (l.length + 1) [] (l, false, k)).2).1, (rd (chainM (l.length + 1) [] (l, false, k)).2).2) := rfl
  rw [e0]
  unfold uE
  have hd := (dn_chain (l.length + 1) [] (l, false, k)).1
  cases hu : unchL l with
  | none =>
    refine ⟨fun _ => ?_, fun y r e => by cases e⟩
    have h2 := h1.1 hu
    generalize chainM (l.length + 1) [] (l, false, k) = X at *
    obtain ⟨t, l1, f1, k1⟩ := X
    dsimp only at h2 ⊢
    rw [h2]
    exact hf l1 k1
  | some p =>
    obtain ⟨t, r1⟩ := p
    have h2 := h1.2 t r1 hu
    rw [h2] at hd ⊢
    dsimp only at hd ⊢
    have hb := h r1 k
    cases hr : u r1 with
    | none => exact ⟨fun _ => hb.1 hr, fun y r e => by cases e⟩
    | some q =>
      obtain ⟨y, r2⟩ := q
      refine ⟨fun e => (by cases e), fun y' r' e => ?_⟩
      simp only [Option.map_some, Option.some.injEq, Prod.mk.injEq] at e
      obtain ⟨rfl, rfl⟩ := e
      obtain ⟨k1, e1, ⟨t1, t2, t3⟩, e3⟩ := hb.2 y r2 hr
      refine ⟨k1, e1, ⟨t1, rfl, ?_⟩, by omega⟩
      rcases t3 with ⟨t4, t5⟩ | t4
      · exact .inl ⟨by rw [t4]; rfl, t5⟩
      · exact .inr t4
theorem rec_leaf {x : Lab} {k k' : Nat} (hk : k' = k + 1) : ∀ l f g, recV oneV l f (leaf x) = .inr g → f + k = g + k'
  | l, 0, g, e => by cases l <;> cases e
  | 0, f + 1, g, e => by cases e
  | l + 1, f + 1, g, e => by
    have e' : (if oneV (leaf x) = 0 then recL (recV oneV l) f [] else .inl (oneV (leaf x))) = Sum.inr g := e
    split at e'
    · injection e' with e'
      omega
    · cases e'
theorem rec_node {v v' : V} {k : Nat} (ho : oneV v = oneV v') (hp : ∀ lv f, f ≤ 2000 - (k + 1) → ∃ e, recL (recV oneV lv) f (parts v) = .inl e ∧ recL (recV oneV lv) f (parts v') = .inl e) : ∀ l f, f ≤ 2000 - k → ∃ e, recV oneV l f v = .inl e ∧ recV oneV l f v' = .inl e
  | l, 0, _ => ⟨2, by cases l <;> rfl, by cases l <;> rfl⟩
  | 0, f + 1, _ => ⟨5, rfl, rfl⟩
  | l + 1, f + 1, hf => by
    show ∃ e, (if oneV v = 0 then recL (recV oneV l) f (parts v) else .inl (oneV v)) = .inl e ∧ (if oneV v' = 0 then recL (recV oneV l) f (parts v') else .inl (oneV v')) = .inl e
    rw [← ho]
    by_cases h0 : oneV v = 0
    · rw [if_pos h0, if_pos h0]
      exact hp l f (by omega)
    · rw [if_neg h0, if_neg h0]
      exact ⟨_, rfl, rfl⟩
theorem rec_late {v v' : V} {k : Nat} (hk : 2000 ≤ k) : ∀ l f, f ≤ 2000 - k → ∃ e, recV oneV l f v = .inl e ∧ recV oneV l f v' = .inl e := fun l f hf => by
  obtain rfl : f = 0 := by omega
  exact ⟨2, by cases l <;> rfl, by cases l <;> rfl⟩
theorem rec_same {v : V} {k k' : Nat} (hp : ∀ lv f g, recL (recV oneV lv) f (parts v) = .inr g → f + (k + 1) = g + k') : ∀ l f g, recV oneV l f v = .inr g → f + k = g + k'
  | l, 0, g, e => by cases l <;> cases e
  | 0, f + 1, g, e => by cases e
  | l + 1, f + 1, g, e => by
    have e' : (if oneV v = 0 then recL (recV oneV l) f (parts v) else .inl (oneV v)) = Sum.inr g := e
    split at e'
    · have := hp l f g e'
      omega
    · cases e'
theorem one_large {x : Lab} {L L' E E' : List V} (hk : KindOk x.1 x.2.1 x.2.2.1 x.2.2.2 L.length E.length ↔ KindOk x.1 x.2.1 x.2.2.1 x.2.2.2 L'.length E'.length) (h : 200 < L.length ∨ 200 < E.length) (h' : 200 < L'.length ∨ 200 < E'.length) : oneV (mkV x L E) = oneV (mkV x L' E') := by
  unfold oneV
  rw [opn_mk, opn_mk]
  dsimp only
  by_cases c : KindOk x.1 x.2.1 x.2.2.1 x.2.2.2 L.length E.length
  · rw [if_neg (fun h => h c), if_pos (show 4000 < x.2.2.2.length ∨ 200 < L.length ∨ 200 < E.length by omega), if_neg (fun h => h (hk.1 c)), if_pos (show 4000 < x.2.2.2.length ∨ 200 < L'.length ∨ 200 < E'.length by omega)]
  · rw [if_pos c, if_pos (fun h => c (hk.2 h))]
theorem one_keys {x : Lab} {L L' E E' : List V} (hL : L.length = L'.length) (hE : E.map (fun x => (opnE x).1) = E'.map (fun x => (opnE x).1)) : oneV (mkV x L E) = oneV (mkV x L' E') := by
  have hl : E.length = E'.length := by have := congrArg List.length hE; simpa using this
  have hk : keysV E = keysV E' := hE
  unfold oneV
  rw [opn_mk, opn_mk]
  dsimp only
  rw [hL, hl, hk]
theorem val_both : ∀ n : Nat, Both id (valM n) (uM n)
  | 0 => fun l k => ⟨fun _ => rfl, fun y r e => by cases e⟩
  | n + 1 => fun l k => by
    have ih := val_both n
    cases l with
    | nil =>
      refine ⟨fun _ => ?_, fun y r e => by cases e⟩
      have e1 : valM (n + 1) (([] : List UInt8), false, k) = (leaf (((0 : UInt8).toNat : Int) - 1, 0, 0, []), failM (failM ([], false, k + 1))) := behind_no _ _ (c := 0) (by decide)
      rw [e1]
      rfl
    | cons c r =>
      have e0 : valM (n + 1) (c :: r, false, k) = behindM (valM n) c (r, false, k + 1) := rfl
      have e1 : uM (n + 1) (c :: r) = uB (uM n) c r := rfl
      rw [e0, e1]
      have lf : ∀ (x : Lab) (r' : List UInt8), r'.length ≤ r.length → ∃ k', ((leaf x, (r', false, k + 1)) : V × St).2 = (r', false, k') ∧ Tr id k k' (leaf x) (leaf x) ∧ r'.length < (c :: r).length := fun x r' hr => ⟨k + 1, rfl, ⟨by omega, rfl, .inl ⟨rfl, rec_leaf rfl⟩⟩, by simp only [List.length_cons]; omega⟩
      by_cases hc : 1 ≤ c.toNat ∧ c.toNat ≤ 7
      · rcases u8_cases hc.1 hc.2 with rfl | rfl | rfl | rfl | rfl | rfl | rfl
        · rw [behind_1]
          refine ⟨fun e => (by cases e), fun y r' e => ?_⟩
          have e' : some (leaf (0, 0, 0, []), r) = some (y, r') := e
          simp only [Option.some.injEq, Prod.mk.injEq] at e'
          obtain ⟨rfl, rfl⟩ := e'
          exact lf _ _ (Nat.le_refl _)
        · rw [behind_2]
          cases r with
          | nil => exact ⟨fun _ => rfl, fun y r' e => by cases e⟩
          | cons d r =>
            refine ⟨fun e => (by cases e), fun y r' e => ?_⟩
            have e' : some (leaf (1, (d.toNat : Int), 0, []), r) = some (y, r') := e
            simp only [Option.some.injEq, Prod.mk.injEq] at e'
            obtain ⟨rfl, rfl⟩ := e'
            exact lf _ _ (by simp)
        · rw [behind_3]
          have eu : uB (uM n) 3 r = if r.length < 8 then none else some (leaf (2, (num8 r : Int) - 9223372036854775808, 0, []), r.drop 8) := rfl
          rw [eu]
          by_cases h8 : r.length < 8
          · rw [if_pos h8]
            exact ⟨fun _ => numM_far 8 0 r false (k + 1) h8, fun y r' e => by cases e⟩
          · rw [if_neg h8]
            refine ⟨fun e => (by cases e), fun y r' e => ?_⟩
            simp only [Option.some.injEq, Prod.mk.injEq] at e
            obtain ⟨rfl, rfl⟩ := e
            rw [numM_rest 8 0 r (false, k + 1) (by omega), numM_same 8 0 r (false, k + 1) (false, 0)]
            exact lf _ _ (by simp)
        · rw [behind_4]
          have eu : uB (uM n) 4 r = if r.length < 8 then none else some (leaf (3, 0, turnB (num8 r), []), r.drop 8) := rfl
          rw [eu]
          by_cases h8 : r.length < 8
          · rw [if_pos h8]
            exact ⟨fun _ => numM_far 8 0 r false (k + 1) h8, fun y r' e => by cases e⟩
          · rw [if_neg h8]
            refine ⟨fun e => (by cases e), fun y r' e => ?_⟩
            simp only [Option.some.injEq, Prod.mk.injEq] at e
            obtain ⟨rfl, rfl⟩ := e
            rw [numM_rest 8 0 r (false, k + 1) (by omega), numM_same 8 0 r (false, k + 1) (false, 0)]
            exact lf _ _ (by simp)
        · rw [behind_5]
          have eu : uB (uM n) 5 r = (unchL r).map (fun p => (leaf (4, 0, 0, p.1), p.2)) := rfl
          rw [eu]
          have h1 := chain_un (r.length + 1) [] r false (k + 1) (Nat.lt_succ_self _)
          have hd := (dn_chain (r.length + 1) [] (r, false, k + 1)).1
          cases hu : unchL r with
          | none => exact ⟨fun _ => h1.1 hu, fun y r' e => by cases e⟩
          | some p =>
            obtain ⟨t, r1⟩ := p
            refine ⟨fun e => (by cases e), fun y r' e => ?_⟩
            simp only [Option.map_some, Option.some.injEq, Prod.mk.injEq] at e
            obtain ⟨rfl, rfl⟩ := e
            have h2 := h1.2 t r1 hu
            rw [List.nil_append] at h2
            dsimp only
            rw [h2] at hd ⊢
            exact lf _ _ hd
        · rw [behind_6]
          have eu : uB (uM n) 6 r = (upL (uM n) (r.length + 1) [] r).map (fun p => (mkV (5, 0, 0, []) p.1 [], p.2)) := rfl
          rw [eu]
          have h1 := parts_both ih (fail_val n) (roomM (r, false, k + 1)) (r.length + 1) [] [] r (k + 1) (Nat.lt_succ_self _)
          dsimp only
          cases hu : upL (uM n) (r.length + 1) [] r with
          | none => exact ⟨fun _ => h1.1 hu, fun y r' e => by cases e⟩
          | some p =>
            obtain ⟨N, r1⟩ := p
            refine ⟨fun e => (by cases e), fun y r' e => ?_⟩
            simp only [Option.map_some, Option.some.injEq, Prod.mk.injEq] at e
            obtain ⟨rfl, rfl⟩ := e
            obtain ⟨M, N', k', q1, q2, ⟨q3, q4, q5⟩, q6⟩ := h1.2 N r1 hu
            rw [List.nil_append] at q1 q2 q6
            subst q2
            rw [q1]
            rw [List.map_id, List.map_id] at q6
            refine ⟨k', rfl, ⟨by omega, rfl, ?_⟩, by simp only [List.length_cons]; omega⟩
            dsimp only [id]
            have pp : ∀ X : List V, parts (mkV (5, 0, 0, []) X []) = X := fun X => by rw [parts_mk]; exact List.append_nil X
            rcases q6 with ⟨m1, m2⟩ | m | ⟨m1, m2, m3⟩
            · exact .inl ⟨by rw [m1], rec_same (by rw [pp]; exact m2)⟩
            · by_cases hk : 2000 < k + 1
              · exact .inr (rec_late (by omega))
              · have hr : roomM (r, false, k + 1) = 201 := if_neg hk
                rw [hr] at m
                refine .inr fun l f hf => ?_
                have ho : oneV (mkV (5, 0, 0, []) M []) = oneV (mkV (5, 0, 0, []) N []) := one_large (by constructor <;> (rintro ⟨a1, a2, a3, a4, a5, a6, a7, a8⟩; exact ⟨a1, a2, a3, a4, a5, .inr rfl, .inl rfl, a8⟩)) (.inl (by omega)) (.inl (by omega))
                have hne : oneV (mkV (5, 0, 0, []) M []) ≠ 0 := by
                  unfold oneV
                  rw [opn_mk]
                  dsimp only
                  split
                  · decide
                  · rw [if_pos (by omega)]
                    decide
                match l, f with
                | l, 0 => exact ⟨2, by cases l <;> rfl, by cases l <;> rfl⟩
                | 0, f + 1 => exact ⟨5, rfl, rfl⟩
                | l + 1, f + 1 =>
                  refine ⟨oneV (mkV (5, 0, 0, []) M []), ?_, ?_⟩
                  · show (if oneV (mkV (5, 0, 0, []) M []) = 0 then _ else _) = _
                    rw [if_neg hne]
                  · show (if oneV (mkV (5, 0, 0, []) N []) = 0 then _ else Sum.inl (oneV (mkV (5, 0, 0, []) N []))) = _
                    rw [← ho, if_neg hne]
            · exact .inr (rec_node (one_keys m1 rfl) (by rw [pp, pp]; exact m3))
        · rw [behind_7]
          have eu : uB (uM n) 7 r = (upL (uE (uM n)) (r.length + 1) [] r).map (fun p => (mkV (6, 0, 0, []) [] p.1, p.2)) := rfl
          rw [eu]
          have h1 := parts_both (ent_both ih (fail_val n)) (fail_ent n) (roomM (r, false, k + 1)) (r.length + 1) [] [] r (k + 1) (Nat.lt_succ_self _)
          dsimp only
          cases hu : upL (uE (uM n)) (r.length + 1) [] r with
          | none => exact ⟨fun _ => h1.1 hu, fun y r' e => by cases e⟩
          | some p =>
            obtain ⟨N, r1⟩ := p
            refine ⟨fun e => (by cases e), fun y r' e => ?_⟩
            simp only [Option.map_some, Option.some.injEq, Prod.mk.injEq] at e
            obtain ⟨rfl, rfl⟩ := e
            obtain ⟨M, N', k', q1, q2, ⟨q3, q4, q5⟩, q6⟩ := h1.2 N r1 hu
            rw [List.nil_append] at q1 q2 q6
            subst q2
            rw [q1]
            refine ⟨k', rfl, ⟨by omega, rfl, ?_⟩, by simp only [List.length_cons]; omega⟩
            dsimp only [id]
            have pp : ∀ X : List V, parts (mkV (6, 0, 0, []) [] X) = X.map (fun e => (opnE e).2) := fun X => rfl
            rcases q6 with ⟨m1, m2⟩ | m | ⟨m1, m2, m3⟩
            · exact .inl ⟨by rw [m1], rec_same (by rw [pp]; exact m2)⟩
            · by_cases hk : 2000 < k + 1
              · exact .inr (rec_late (by omega))
              · have hr : roomM (r, false, k + 1) = 201 := if_neg hk
                rw [hr] at m
                refine .inr fun l f hf => ?_
                have ho : oneV (mkV (6, 0, 0, []) [] M) = oneV (mkV (6, 0, 0, []) [] N) := one_large (by constructor <;> (rintro ⟨a1, a2, a3, a4, a5, a6, a7, a8⟩; exact ⟨a1, a2, a3, a4, a5, .inl rfl, .inr rfl, a8⟩)) (.inr (by omega)) (.inr (by omega))
                have hne : oneV (mkV (6, 0, 0, []) [] M) ≠ 0 := by
                  unfold oneV
                  rw [opn_mk]
                  dsimp only
                  split
                  · decide
                  · rw [if_pos (by omega)]
                    decide
                match l, f with
                | l, 0 => exact ⟨2, by cases l <;> rfl, by cases l <;> rfl⟩
                | 0, f + 1 => exact ⟨5, rfl, rfl⟩
                | l + 1, f + 1 =>
                  refine ⟨oneV (mkV (6, 0, 0, []) [] M), ?_, ?_⟩
                  · show (if oneV (mkV (6, 0, 0, []) [] M) = 0 then _ else _) = _
                    rw [if_neg hne]
                  · show (if oneV (mkV (6, 0, 0, []) [] N) = 0 then _ else Sum.inl (oneV (mkV (6, 0, 0, []) [] N))) = _
                    rw [← ho, if_neg hne]
            · exact .inr (rec_node (one_keys rfl m2) (by rw [pp, pp]; exact m3))
      · rw [behind_no _ _ hc]
        refine ⟨fun _ => rfl, fun y r' e => ?_⟩
        have h1 : c ≠ 1 := fun e => hc (by rw [e]; decide)
        have h2 : c ≠ 2 := fun e => hc (by rw [e]; decide)
        have h3 : c ≠ 3 := fun e => hc (by rw [e]; decide)
        have h4 : c ≠ 4 := fun e => hc (by rw [e]; decide)
        have h5 : c ≠ 5 := fun e => hc (by rw [e]; decide)
        have h6 : c ≠ 6 := fun e => hc (by rw [e]; decide)
        have h7 : c ≠ 7 := fun e => hc (by rw [e]; decide)
        unfold uB at e
        rw [if_neg h1, if_neg h2, if_neg h3, if_neg h4, if_neg h5, if_neg h6, if_neg h7] at e
        cases e
/-- What the document makes of a row of bytes. -/
def unpD (l : List UInt8) : V ⊕ Int := match uM 1001 l with | some (y, []) => (if faultV oneV y = 0 then .inl y else .inr (faultV oneV y)) | _ => .inr 4
theorem unp_one (l : List UInt8) : unpD l = if (valM 1001 (l, false, 0)).2.2.1 = false ∧ (valM 1001 (l, false, 0)).2.1 = [] then (if faultV oneV (valM 1001 (l, false, 0)).1 = 0 then .inl (valM 1001 (l, false, 0)).1 else .inr (faultV oneV (valM 1001 (l, false, 0)).1)) else .inr 4 := by
  have h := val_both 1001 l 0
  unfold unpD
  cases hu : uM 1001 l with
  | none =>
    rw [if_neg (fun hx => by rw [h.1 hu] at hx; cases hx.1)]
  | some p =>
    obtain ⟨y, r⟩ := p
    obtain ⟨k', e1, ⟨t1, t2, t3⟩, e3⟩ := h.2 y r hu
    rw [e1]
    cases r with
    | cons c r => rw [if_neg (fun hx => by cases hx.2)]
    | nil =>
      rw [if_pos ⟨rfl, rfl⟩]
      dsimp only
      generalize (valM 1001 (l, false, 0)).1 = x at *
      rcases t3 with ⟨rfl, _⟩ | t4
      · rfl
      · obtain ⟨e, a1, a2⟩ := t4 20 2000 (by omega)
        have b1 : faultV oneV x = e := by
          have a1' : recV oneV 20 2000 x = .inl e := a1
          rw [faultV_rec, a1']
          rfl
        have b2 : faultV oneV y = e := by
          have a2' : recV oneV 20 2000 y = .inl e := a2
          rw [faultV_rec, a2']
          rfl
        have ne : e ≠ 0 := fun h0 => by
          rw [h0] at b1
          obtain ⟨g, hg⟩ := fault_zero.1 b1
          have a1' : recV oneV 20 2000 x = .inl e := a1
          rw [a1'] at hg
          cases hg
        rw [b1, b2, if_neg ne, if_neg ne]
end Go.Proofs.YtdpoiagnjdajbaaDoor.valus
/- The closure that reads a list's value. -/
set_option linter.unusedVariables false
namespace Go.Proofs.YtdpoiagnjdajbaaDoor.valus
open Go.RowKit Go.Shelf

/-- The two boxes of a closure: the reader, and how many lists it stands within. -/
def Two (R b2 b3 : Nat) (i : Int) (w : World) : Prop := b2 ≠ R ∧ b3 ≠ R ∧ Blk w b2 #[.pointer (some ⟨R, 0, none⟩)] 73 ∧ Blk w b3 #[.int .i64 i] 3
theorem Two.only {R b2 b3 : Nat} {i : Int} (w w' : World) (h : Two R b2 b3 i w) (ho : Only R w w') : Two R b2 b3 i w' := by
  obtain ⟨h1, h2, h3, h4⟩ := h
  exact ⟨h1, h2, (ho.block b2 h3.lt (fun e => h1 (Option.some.inj e))).trans h3, (ho.block b3 h4.lt (fun e => h2 (Option.some.inj e))).trans h4⟩
theorem RdAt.keep {a b : World} {R : Nat} {s : St} (h : RdAt a R s) (hk : ∀ q, q ≤ R → b.heap[q]? = a.heap[q]?) : RdAt b R s := by
  obtain ⟨p, c, h1, h2, h3, h4⟩ := h
  exact ⟨p, c, (hk R (Nat.le_refl R)).trans h1, h2, h3, h4.kept (fun q hq => hk q (Nat.le_of_lt hq))⟩
theorem put6_other' (w : World) (b q : Nat) (hq : q ≠ b) (u0 u1 u2 u3 u4 u5 : Value) : (put6 w b u0 u1 u2 u3 u4 u5).heap[q]? = w.heap[q]? := by
  unfold put6
  rw [Below.heap_setCell _ _ _ _ hq, Below.heap_setCell _ _ _ _ hq, Below.heap_setCell _ _ _ _ hq, Below.heap_setCell _ _ _ _ hq, Below.heap_setCell _ _ _ _ hq, Below.heap_setCell _ _ _ _ hq]
theorem put6_os (w : World) (b : Nat) (u0 u1 u2 u3 u4 u5 : Value) : (put6 w b u0 u1 u2 u3 u4 u5).os = w.os ∧ (put6 w b u0 u1 u2 u3 u4 u5).tape = w.tape ∧ (put6 w b u0 u1 u2 u3 u4 u5).output = w.output := by
  have h := below_put6 (Below.refl 0 w) (b := b) (Nat.zero_le b) u0 u1 u2 u3 u4 u5
  exact ⟨h.os, h.tape, h.output⟩
theorem results_c1 {w : World} {B : Nat} {u0 u1 u2 u3 u4 u5 : Value} (tmps : Array Value) (h : Blk w B #[u0, u1, u2, u3, u4, u5] 26) (ht : tmps[2]? = some (.pointer (some ⟨B, 0, none⟩)) := by rfl) : (results Tryd.f43 tmps).run Tryd.prog w = .ok (.agg #[u0, u1, u2, u3, u4, u5]) w := by
  obtain ⟨c0, c1, c2, c3, c4, c5⟩ := h.cells6
  simp [results, Tryd.f43, ht, go_sem, c0, c1, c2, c3, c4, c5]
set_option maxHeartbeats 4000000 in
theorem valueC1_any (B f R b2 b3 : Nat) (i : Nat) (hi : i ≤ 1000) (rd : St → V × St) (hrd : ReadV B f R 22 #[.pointer (some ⟨R, 0, none⟩), .int .i64 ((i : Int) + 1)] rd (fun _ => True)) :
    ReadV B f R 43 #[.pointer (some ⟨b2, 0, none⟩), .pointer (some ⟨b3, 0, none⟩)] rd (Two R b2 b3 i) := by
  intro w s h hB hT
  have bA : Below w.heap.size w (w.alloc (.cells #[.int .i64 0, .int .i64 0, .int .u64 0, .string ⟨#[]⟩, .slice none 0 0, .slice none 0 0] 26)) := (Below.refl _ w).alloc (Nat.le_refl _) _
  have hA := h.later bA
  have hT2 := hT.only _ _ (only_of_below bA)
  have c2 := hT2.2.2.1.cell 0 _ rfl
  have c3 := hT2.2.2.2.cell 0 _ rfl
  have HV := hide (hrd _ s hA hB trivial)
  go_enter Tryd.func43, Tryd.ntmps43
  go_wp2_with fail
  go_at_call 22
  refine (unhide HV).mono ?_
  rintro e w2 ⟨⟨k, m, b, z, pL, nL, cL, pE, nE, cE, rfl, hl⟩, r2, o2⟩
  have sz : (w.alloc (.cells #[.int .i64 0, .int .i64 0, .int .u64 0, .string ⟨#[]⟩, .slice none 0 0, .slice none 0 0] 26)).heap.size = w.heap.size + 1 := by simp
  have hRl := h.lt
  have hrb : Blk w2 w.heap.size #[.int .i64 0, .int .i64 0, .int .u64 0, .string ⟨#[]⟩, .slice none 0 0, .slice none 0 0] 26 := (o2.block w.heap.size (by omega) (fun e => by have := Option.some.inj e; omega)).trans (blk_alloc w _ _)
  have HL := hide hl
  have HO := hide o2
  have HR := hide r2
  have HB := hide hrb
  clear hl o2 r2
  have q0 := hrb.cell 0 _ rfl
  have q1 := hrb.cell 1 _ rfl
  have q2 := hrb.cell 2 _ rfl
  have q3 := hrb.cell 3 _ rfl
  have q4 := hrb.cell 4 _ rfl
  have q5 := hrb.cell 5 _ rfl
  have z0 := Blk.froz hrb 0
  have z1 := Blk.froz hrb 1
  have z2 := Blk.froz hrb 2
  have z3 := Blk.froz hrb 3
  have z4 := Blk.froz hrb 4
  have z5 := Blk.froz hrb 5
  clear hrb
  go_wp2
  have hX := put6_blk HB.out (.int .i64 k) (.int .i64 m) (.int .u64 (b : Int)) (.string z) (.slice pL nL cL) (.slice pE nE cE)
  have hs := put6_size w2 w.heap.size (.int .i64 k) (.int .i64 m) (.int .u64 (b : Int)) (.string z) (.slice pL nL cL) (.slice pE nE cE)
  have ho := fun q hq => put6_other' w2 w.heap.size q hq (.int .i64 k) (.int .i64 m) (.int .u64 (b : Int)) (.string z) (.slice pL nL cL) (.slice pE nE cE)
  have e1 := put6_os w2 w.heap.size (.int .i64 k) (.int .i64 m) (.int .u64 (b : Int)) (.string z) (.slice pL nL cL) (.slice pE nE cE)
  generalize hXX : put6 w2 w.heap.size (.int .i64 k) (.int .i64 m) (.int .u64 (b : Int)) (.string z) (.slice pL nL cL) (.slice pE nE cE) = X at hX hs ho e1
  simp only [put6] at hXX
  rw [hXX]
  clear hXX q0 q1 q2 q3 q4 q5 z0 z1 z2 z3 z4 z5
  refine bodyPost_ret (results_c1 _ hX) rfl ⟨⟨k, m, b, z, pL, nL, cL, pE, nE, cE, rfl, ?_⟩, ?_, ?_⟩
  · refine HL.out.kept (fun q hq => ⟨by omega, ?_⟩) (Nat.le_of_eq hs.symm) (fun q hq _ => ho q (by omega))
    rw [hs]
    exact hq.2
  · exact HR.out.keep (fun q hq => ho q (by omega))
  · have oo := (only_of_below (R := R) bA).trans HO.out
    exact ⟨e1.1.trans oo.os, e1.2.1.trans oo.tape, e1.2.2.trans oo.output, Nat.le_trans oo.size (Nat.le_of_eq hs.symm), fun q hq hne => (ho q (by omega)).trans (oo.block q hq hne)⟩
end Go.Proofs.YtdpoiagnjdajbaaDoor.valus
/- The closure that reads a table's entry. -/
set_option linter.unusedVariables false
namespace Go.Proofs.YtdpoiagnjdajbaaDoor.valus
open Go.RowKit Go.Shelf

theorem chainM_size : ∀ (n : Nat) (acc : List UInt8) (s : St), (chainM n acc s).1.length ≤ acc.length + n
  | 0, acc, s => Nat.le_refl _
  | n + 1, acc, s => by
    unfold chainM
    split
    · split
      · have := chainM_size n (acc ++ [0]) (insideM (byteM s).2).2
        simp at this ⊢
        omega
      · dsimp only
        omega
    · have := chainM_size n (acc ++ [(byteM s).1]) (byteM s).2
      simp at this ⊢
      omega
abbrev putE (w : World) (b : Nat) (u0 u1 u2 u3 u4 u5 u6 : Value) : World := ((((((w.setCell ⟨b, 0, none⟩ u0).setCell ⟨b, 1, none⟩ u1).setCell ⟨b, 2, none⟩ u2).setCell ⟨b, 3, none⟩ u3).setCell ⟨b, 4, none⟩ u4).setCell ⟨b, 5, none⟩ u5).setCell ⟨b, 6, none⟩ u6
theorem putE_blk {w : World} {b : Nat} {x0 x1 x2 x3 x4 x5 x6 : Value} {t : Nat} (h : Blk w b #[x0, x1, x2, x3, x4, x5, x6] t) (u0 u1 u2 u3 u4 u5 u6 : Value) : Blk (putE w b u0 u1 u2 u3 u4 u5 u6) b #[u0, u1, u2, u3, u4, u5, u6] t := by
  have := ((((((h.set 0 u0).set 1 u1).set 2 u2).set 3 u3).set 4 u4).set 5 u5).set 6 u6
  simpa using this
theorem putE_other (w : World) (b q : Nat) (hq : q ≠ b) (u0 u1 u2 u3 u4 u5 u6 : Value) : (putE w b u0 u1 u2 u3 u4 u5 u6).heap[q]? = w.heap[q]? :=
  (Below.heap_setCell _ _ _ _ hq).trans (put6_other' w b q hq u0 u1 u2 u3 u4 u5)
theorem putE_size (w : World) (b : Nat) (u0 u1 u2 u3 u4 u5 u6 : Value) : (putE w b u0 u1 u2 u3 u4 u5 u6).heap.size = w.heap.size := by simp [putE, World.setCell]
theorem putE_os (w : World) (b : Nat) (u0 u1 u2 u3 u4 u5 u6 : Value) : (putE w b u0 u1 u2 u3 u4 u5 u6).os = w.os ∧ (putE w b u0 u1 u2 u3 u4 u5 u6).tape = w.tape ∧ (putE w b u0 u1 u2 u3 u4 u5 u6).output = w.output := by
  have h := (below_put6 (Below.refl 0 w) (b := b) (Nat.zero_le b) u0 u1 u2 u3 u4 u5).setCell (p := ⟨b, 6, none⟩) (Nat.zero_le b) u6
  exact ⟨h.os, h.tape, h.output⟩
theorem results_c2 {w : World} {B : Nat} {u0 u1 u2 u3 u4 u5 u6 : Value} (tmps : Array Value) (h : Blk w B #[u0, u1, u2, u3, u4, u5, u6] 54) (ht : tmps[2]? = some (.pointer (some ⟨B, 0, none⟩)) := by rfl) : (results Tryd.f45 tmps).run Tryd.prog w = .ok (.agg #[u0, u1, u2, u3, u4, u5, u6]) w := by
  have c0 := h.cell 0 _ rfl
  have c1 := h.cell 1 _ rfl
  have c2 := h.cell 2 _ rfl
  have c3 := h.cell 3 _ rfl
  have c4 := h.cell 4 _ rfl
  have c5 := h.cell 5 _ rfl
  have c6 := h.cell 6 _ rfl
  simp [results, Tryd.f45, ht, go_sem, c0, c1, c2, c3, c4, c5, c6]
set_option maxHeartbeats 4000000 in
theorem valueC2_any (B f R b2 b3 : Nat) (hB8 : B ≤ 100000000) (i : Nat) (hi : i ≤ 1000) (rd : St → V × St) (hrd : ReadV B f R 22 #[.pointer (some ⟨R, 0, none⟩), .int .i64 ((i : Int) + 1)] rd (fun _ => True)) :
    ReadE B f R 45 #[.pointer (some ⟨b2, 0, none⟩), .pointer (some ⟨b3, 0, none⟩)] (entM rd) (Two R b2 b3 i) := by
  intro w s h hB hT
  have bA : Below w.heap.size w (w.alloc (.cells #[.string ⟨#[]⟩, .int .i64 0, .int .i64 0, .int .u64 0, .string ⟨#[]⟩, .slice none 0 0, .slice none 0 0] 54)) := (Below.refl _ w).alloc (Nat.le_refl _) _
  have hA := h.later bA
  have hT2 := hT.only _ _ (only_of_below bA)
  have c2 := hT2.2.2.1.cell 0 _ rfl
  have HT2 := hide hT2
  clear hT2
  have hRl := h.lt
  have sz : (w.alloc (.cells #[.string ⟨#[]⟩, .int .i64 0, .int .i64 0, .int .u64 0, .string ⟨#[]⟩, .slice none 0 0, .slice none 0 0] 54)).heap.size = w.heap.size + 1 := by simp
  have HC := hide (chainR_any _ R s hA (by omega))
  have hdn := dn_chain (s.1.length + 1) [] s
  unfold Dn at hdn
  have hsz := chainM_size (s.1.length + 1) [] s
  have HE : Hid (entM rd s = (ent (chainM (s.1.length + 1) [] s).1 (rd (chainM (s.1.length + 1) [] s).2).1, (rd (chainM (s.1.length + 1) [] s).2).2)) := hide rfl
  generalize (chainM (s.1.length + 1) [] s).1 = l1 at *
  generalize (chainM (s.1.length + 1) [] s).2 = s1 at *
  have hlE : Hid (l1.length ≤ 100000001) := hide (by simp at hsz; omega)
  clear hsz
  obtain ⟨key, hkey⟩ : ∃ key : ByteArray, key = ⟨l1.toArray⟩ := ⟨_, rfl⟩
  rw [← hkey] at HC
  have HK := hide hkey
  clear hkey
  go_enter Tryd.func45, Tryd.ntmps45
  go_wp2_with fail
  go_at_call 41
  refine (unhide HC).mono ?_
  rintro e w1 ⟨rfl, r1, o1⟩
  have hT3 := HT2.out.only _ _ o1
  have d2 := hT3.2.2.1.cell 0 _ rfl
  have d3 := hT3.2.2.2.cell 0 _ rfl
  have HV := hide (hrd w1 s1 r1 (by omega) trivial)
  clear hT3 c2
  have HO1 := hide o1
  clear o1 r1
  go_wp2_with fail
  go_at_call 22
  refine (unhide HV).mono ?_
  rintro e w2 ⟨⟨k, m, b, z, pL, nL, cL, pE, nE, cE, rfl, hl⟩, r2, o2⟩
  have o12 := HO1.out.trans o2
  have s1z := HO1.out.size
  have hrb : Blk w2 w.heap.size #[.string ⟨#[]⟩, .int .i64 0, .int .i64 0, .int .u64 0, .string ⟨#[]⟩, .slice none 0 0, .slice none 0 0] 54 := (o12.block w.heap.size (by omega) (fun e => by have := Option.some.inj e; omega)).trans (blk_alloc w _ _)
  have HL := hide hl
  have HO := hide o12
  have HR := hide r2
  have HB := hide hrb
  clear hl o2 o12 r2 d2 d3
  have q0 := hrb.cell 0 _ rfl
  have z0 := Blk.froz hrb 0
  have q1 := hrb.cell 1 _ rfl
  have z1 := Blk.froz hrb 1
  have q2 := hrb.cell 2 _ rfl
  have z2 := Blk.froz hrb 2
  have q3 := hrb.cell 3 _ rfl
  have z3 := Blk.froz hrb 3
  have q4 := hrb.cell 4 _ rfl
  have z4 := Blk.froz hrb 4
  have q5 := hrb.cell 5 _ rfl
  have z5 := Blk.froz hrb 5
  have q6 := hrb.cell 6 _ rfl
  have z6 := Blk.froz hrb 6
  clear hrb
  go_wp2
  have hX := putE_blk HB.out (.string key) (.int .i64 k) (.int .i64 m) (.int .u64 (b : Int)) (.string z) (.slice pL nL cL) (.slice pE nE cE)
  have hs := putE_size w2 w.heap.size (.string key) (.int .i64 k) (.int .i64 m) (.int .u64 (b : Int)) (.string z) (.slice pL nL cL) (.slice pE nE cE)
  have ho := fun q hq => putE_other w2 w.heap.size q hq (.string key) (.int .i64 k) (.int .i64 m) (.int .u64 (b : Int)) (.string z) (.slice pL nL cL) (.slice pE nE cE)
  have e1 := putE_os w2 w.heap.size (.string key) (.int .i64 k) (.int .i64 m) (.int .u64 (b : Int)) (.string z) (.slice pL nL cL) (.slice pE nE cE)
  generalize hXX : putE w2 w.heap.size (.string key) (.int .i64 k) (.int .i64 m) (.int .u64 (b : Int)) (.string z) (.slice pL nL cL) (.slice pE nE cE) = X at hX hs ho e1
  simp only [putE] at hXX
  rw [hXX]
  clear hXX q0 q1 q2 q3 q4 q5 q6 z0 z1 z2 z3 z4 z5 z6
  rw [HE.out]
  refine bodyPost_ret (results_c2 _ hX) rfl ⟨⟨key, k, m, b, z, pL, nL, cL, pE, nE, cE, rfl, ?_⟩, ?_, ?_⟩
  · refine ⟨key, (rd s1).1, _, by rw [HK.out], rfl, ?_, ?_⟩
    · have h1 := hlE.out
      have h2 : key.size = l1.length := by rw [HK.out]; simp [ByteArray.size]
      rw [h2]
      exact Nat.le_trans h1 (by decide)
    · refine HL.out.kept (fun q hq => ⟨by omega, ?_⟩) (Nat.le_of_eq hs.symm) (fun q hq _ => ho q (by omega))
      rw [hs]
      exact hq.2
  · exact HR.out.keep (fun q hq => ho q (by omega))
  · have oo := (only_of_below (R := R) bA).trans HO.out
    exact ⟨e1.1.trans oo.os, e1.2.1.trans oo.tape, e1.2.2.trans oo.output, Nat.le_trans oo.size (Nat.le_of_eq hs.symm), fun q hq hne => (ho q (by omega)).trans (oo.block q hq hne)⟩
end Go.Proofs.YtdpoiagnjdajbaaDoor.valus
/- The reader's value, too deep. -/
set_option linter.unusedVariables false
namespace Go.Proofs.YtdpoiagnjdajbaaDoor.valus
open Go.RowKit Go.Shelf

theorem results_rv {w : World} {B : Nat} {u0 u1 u2 u3 u4 u5 : Value} (tmps : Array Value) (h : Blk w B #[u0, u1, u2, u3, u4, u5] 26) (ht : tmps[4]? = some (.pointer (some ⟨B, 0, none⟩)) := by rfl) : (results Tryd.f22 tmps).run Tryd.prog w = .ok (.agg #[u0, u1, u2, u3, u4, u5]) w := by
  obtain ⟨c0, c1, c2, c3, c4, c5⟩ := h.cells6
  simp [results, Tryd.f22, ht, go_sem, c0, c1, c2, c3, c4, c5]
/-- A value with no parts. -/
theorem vlies_leaf (ok : Nat → Prop) (f : Nat) (w : World) (k n : Int) (b : Nat) (z : ByteArray) (hk : -9223372036854775808 ≤ k ∧ k ≤ 9223372036854775807) (hn : -9223372036854775808 ≤ n ∧ n ≤ 9223372036854775807) (hb : b < 18446744073709551616) (hz : z.size ≤ maxLen) :
    LiesV ok (f + 1) w [.int .i64 k, .int .i64 n, .int .u64 (b : Int), .string z, .slice none 0 0, .slice none 0 0] (leaf (k, n, b, z.data.toList)) :=
  ⟨k, n, b, z, [], [], none, none, 0, 0, rfl, rfl, ⟨hk, hn, hb, hz⟩, ⟨Nat.le_refl _, Nat.zero_le _, Nat.le_refl _, Nat.zero_le _⟩, fun h => absurd h (by simp), fun h => absurd h (by simp)⟩
/-- The world in which value goes on: its two boxes and its result's block. -/
abbrev begun (w : World) (R : Nat) (i : Int) : World := ((w.alloc (.cells #[.pointer (some ⟨R, 0, none⟩)] 73)).alloc (.cells #[.int .i64 i] 3)).alloc (.cells #[.int .i64 0, .int .i64 0, .int .u64 0, .string ⟨#[]⟩, .slice none 0 0, .slice none 0 0] 26)
theorem begun_below (w : World) (R : Nat) (i : Int) : Below w.heap.size w (begun w R i) := (((Below.refl _ w).alloc (Nat.le_refl _) _).alloc (by simp) _).alloc (by simp; omega) _
theorem begun_size (w : World) (R : Nat) (i : Int) : (begun w R i).heap.size = w.heap.size + 3 := by simp
theorem begun_two {w : World} {R : Nat} (hR : R < w.heap.size) (i : Int) : Two R w.heap.size (w.heap.size + 1) i (begun w R i) := by
  have h1 := ((blk_alloc w #[.pointer (some ⟨R, 0, none⟩)] 73).alloc (.cells #[.int .i64 i] 3)).alloc (.cells #[.int .i64 0, .int .i64 0, .int .u64 0, .string ⟨#[]⟩, .slice none 0 0, .slice none 0 0] 26)
  have h2 := (blk_alloc (w.alloc (.cells #[.pointer (some ⟨R, 0, none⟩)] 73)) #[.int .i64 i] 3).alloc (.cells #[.int .i64 0, .int .i64 0, .int .u64 0, .string ⟨#[]⟩, .slice none 0 0, .slice none 0 0] 26)
  rw [World.size_alloc] at h2
  exact ⟨by omega, by omega, h1, h2⟩
theorem begun_res (w : World) (R : Nat) (i : Int) : Blk (begun w R i) (w.heap.size + 2) #[.int .i64 0, .int .i64 0, .int .u64 0, .string ⟨#[]⟩, .slice none 0 0, .slice none 0 0] 26 := by
  have h := blk_alloc ((w.alloc (.cells #[.pointer (some ⟨R, 0, none⟩)] 73)).alloc (.cells #[.int .i64 i] 3)) #[.int .i64 0, .int .i64 0, .int .u64 0, .string ⟨#[]⟩, .slice none 0 0, .slice none 0 0] 26
  rw [World.size_alloc, World.size_alloc] at h
  exact h
set_option maxHeartbeats 4000000 in
theorem value0_any (B f R : Nat) : ReadV B (f + 1) R 22 #[.pointer (some ⟨R, 0, none⟩), .int .i64 1001] (valM 0) (fun _ => True) := by
  intro w s h hB _
  have bA := begun_below w R 1001
  have hA := h.later bA
  have hRl := h.lt
  have hT := begun_two hRl 1001
  have hrb0 := begun_res w R 1001
  have sz := begun_size w R 1001
  have c2 := hT.2.2.1.cell 0 _ rfl
  have c3 := hT.2.2.2.cell 0 _ rfl
  have HF := hide (fail_any _ R s hA)
  clear hT
  go_enter Tryd.func22, Tryd.ntmps22
  go_wp2_with fail
  go_at_call 37
  refine (unhide HF).mono ?_
  rintro e w2 ⟨⟨v, rfl⟩, r2, o2⟩
  have hrb : Blk w2 (w.heap.size + 2) #[.int .i64 0, .int .i64 0, .int .u64 0, .string ⟨#[]⟩, .slice none 0 0, .slice none 0 0] 26 := (o2.block (w.heap.size + 2) (by omega) (fun e => by have := Option.some.inj e; omega)).trans hrb0
  have HO := hide o2
  have HR := hide r2
  have HB := hide hrb
  clear o2 r2 hrb0
  have q0 := hrb.cell 0 _ rfl
  have q1 := hrb.cell 1 _ rfl
  have q2 := hrb.cell 2 _ rfl
  have q3 := hrb.cell 3 _ rfl
  have q4 := hrb.cell 4 _ rfl
  have q5 := hrb.cell 5 _ rfl
  have z0 := Blk.froz hrb 0
  have z1 := Blk.froz hrb 1
  have z2 := Blk.froz hrb 2
  have z3 := Blk.froz hrb 3
  have z4 := Blk.froz hrb 4
  have z5 := Blk.froz hrb 5
  clear hrb
  go_wp2
  have hX := put6_blk HB.out (.int .i64 0) (.int .i64 0) (.int .u64 0) (.string ⟨#[]⟩) (.slice none 0 0) (.slice none 0 0)
  have hs := put6_size w2 (w.heap.size + 2) (.int .i64 0) (.int .i64 0) (.int .u64 0) (.string ⟨#[]⟩) (.slice none 0 0) (.slice none 0 0)
  have ho := fun q hq => put6_other' w2 (w.heap.size + 2) q hq (.int .i64 0) (.int .i64 0) (.int .u64 0) (.string ⟨#[]⟩) (.slice none 0 0) (.slice none 0 0)
  have e1 := put6_os w2 (w.heap.size + 2) (.int .i64 0) (.int .i64 0) (.int .u64 0) (.string ⟨#[]⟩) (.slice none 0 0) (.slice none 0 0)
  generalize hXX : put6 w2 (w.heap.size + 2) (.int .i64 0) (.int .i64 0) (.int .u64 0) (.string ⟨#[]⟩) (.slice none 0 0) (.slice none 0 0) = X at hX hs ho e1
  simp only [put6] at hXX
  rw [hXX]
  clear hXX q0 q1 q2 q3 q4 q5 z0 z1 z2 z3 z4 z5
  refine bodyPost_ret (results_rv _ hX) rfl ⟨⟨0, 0, 0, ⟨#[]⟩, none, 0, 0, none, 0, 0, rfl, ?_⟩, ?_, ?_⟩
  · exact vlies_leaf _ _ _ 0 0 0 ⟨#[]⟩ (by decide) (by decide) (by decide) (Nat.zero_le _)
  · exact HR.out.keep (fun q hq => ho q (by omega))
  · have oo := (only_of_below (R := R) bA).trans HO.out
    exact ⟨e1.1.trans oo.os, e1.2.1.trans oo.tape, e1.2.2.trans oo.output, Nat.le_trans oo.size (Nat.le_of_eq hs.symm), fun q hq hne => (ho q (by omega)).trans (oo.block q hq hne)⟩
end Go.Proofs.YtdpoiagnjdajbaaDoor.valus
/- A value laid where the answer is kept. -/
set_option linter.unusedVariables false
namespace Go.Proofs.YtdpoiagnjdajbaaDoor.valus
open Go.RowKit Go.Shelf

set_option maxRecDepth 100000 in
theorem run_load6 (a : Act) (w : World) (K : Act → World → Prop) (Q : Exit → Act → World → Prop) (o : Oper) (x b : Nat) (v0 v1 v2 v3 v4 v5 : Value) (hx : a.tmps[x]?.getD undef = .pointer (some ⟨b, 0, none⟩)) (bk : Blk w b #[v0, v1, v2, v3, v4, v5] 26) (ho : o.op = .load 26 (.tmp x)) (h : K (a.put o.dst (.agg #[v0, v1, v2, v3, v4, v5])) w) : o.wp Tryd.prog a w K Q := by
  obtain ⟨c0, c1, c2, c3, c4, c5⟩ := bk.cells6
  clear bk
  unfold Oper.wp execOp
  rw [ho]
  go_simp
  exact h
set_option maxRecDepth 100000 in
theorem run_store6 (a : Act) (w : World) (K : Act → World → Prop) (Q : Exit → Act → World → Prop) (o : Oper) (x y b : Nat) (u0 u1 u2 u3 u4 u5 : Value) (k n f : Int) (z : ByteArray) (pL : Option Addr) (nL cL : Nat) (pE : Option Addr) (nE cE : Nat) (hx : a.tmps[x]?.getD undef = .pointer (some ⟨b, 0, none⟩)) (hy : a.tmps[y]?.getD undef = .agg #[.int .i64 k, .int .i64 n, .int .u64 f, .string z, .slice pL nL cL, .slice pE nE cE]) (bk : Blk w b #[u0, u1, u2, u3, u4, u5] 26) (ho : o.op = .store 26 (.tmp x) (.tmp y))
    (h : K (a.put o.dst undef) (put6 w b (.int .i64 k) (.int .i64 n) (.int .u64 f) (.string z) (.slice pL nL cL) (.slice pE nE cE))) : o.wp Tryd.prog a w K Q := by
  obtain ⟨c0, c1, c2, c3, c4, c5⟩ := bk.cells6
  have z0 := Blk.froz bk 0
  have z1 := Blk.froz bk 1
  have z2 := Blk.froz bk 2
  have z3 := Blk.froz bk 3
  have z4 := Blk.froz bk 4
  have z5 := Blk.froz bk 5
  clear bk
  unfold Oper.wp execOp
  rw [ho]
  unfold put6 at h
  go_simp
  exact h
theorem wpList_run6 {P : Program} {ops : Array Oper} {Q : Exit → Act → World → Prop} {a : Act} {w : World} {rest : List Oper} {o : Oper} (hg : o.guard = none) (h : o.wp P a w (wpList P ops Q rest) Q) : wpList P ops Q (o :: rest) a w := by
  unfold wpList
  have e : Region.wanted o (yielded ops a.tmps) = true := by simp [Region.wanted, hg]
  simp only [e, if_true]
  exact .inl h
theorem evalv_tmp (a : Act) (x : Nat) : a.eval (.tmp x) = a.tmps[x]?.getD undef := by simp [Act.eval]
theorem evalv_put_ne {a : Act} {d k : Nat} {v : Value} (h : k ≠ d) : (a.put (some d) v).eval (.tmp k) = a.eval (.tmp k) := by
  simp [Act.put, Act.eval, Ne.symm h]
theorem evalv_put_eq {a : Act} {d : Nat} {v : Value} (h : d < a.tmps.size) : (a.put (some d) v).eval (.tmp d) = v := by
  simp [Act.put, Act.eval, h]
set_option maxRecDepth 100000 in
theorem copy6 {a : Act} {w : World} {Q : Exit → Act → World → Prop} (p1 p2 : String) (x y d b bR : Nat) (u0 u1 u2 u3 u4 u5 : Value) (k n f : Int) (z : ByteArray) (pL : Option Addr) (nL cL : Nat) (pE : Option Addr) (nE cE : Nat) (hd : d < a.tmps.size) (hy : y ≠ d)
    (hx : a.tmps[x]?.getD undef = .pointer (some ⟨b, 0, none⟩)) (hz : a.tmps[y]?.getD undef = .pointer (some ⟨bR, 0, none⟩)) (kb : Blk w b #[.int .i64 k, .int .i64 n, .int .u64 f, .string z, .slice pL nL cL, .slice pE nE cE] 26) (kR : Blk w bR #[u0, u1, u2, u3, u4, u5] 26)
    (h : Q .normal (a.put (some d) (.agg #[.int .i64 k, .int .i64 n, .int .u64 f, .string z, .slice pL nL cL, .slice pE nE cE])) (put6 w bR (.int .i64 k) (.int .i64 n) (.int .u64 f) (.string z) (.slice pL nL cL) (.slice pE nE cE))) (id : Nat) (tt t0 : TypeId) (e1 e2 : Array Edge) :
    Code.wp Tryd.prog (Code.region id #[{ dst := some d, op := Op.load 26 (Operand.tmp x), type := tt, pos := p1, after := e1, guard := none }, { dst := none, op := Op.store 26 (Operand.tmp y) (Operand.tmp d), type := t0, pos := p2, after := e2, guard := none }] false) Q a w := by
  refine wp_region_list (wpList_run6 rfl (run_load6 a w _ Q _ x b _ _ _ _ _ _ hx kb rfl (wpList_run6 rfl (run_store6 _ w _ Q _ y d bR u0 u1 u2 u3 u4 u5 k n f z pL nL cL pE nE cE ?_ ?_ kR rfl ?_))))
  · rw [← evalv_tmp, evalv_put_ne hy, evalv_tmp]
    exact hz
  · rw [← evalv_tmp, evalv_put_eq hd]
  · exact h
/-- What a reader's value promises. -/
abbrev RvPost (f R : Nat) (w : World) (res : V × St) (e : Ending) (w' : World) : Prop :=
  (∃ (k n : Int) (b : Nat) (z : ByteArray) (pL : Option Addr) (nL cL : Nat) (pE : Option Addr) (nE cE : Nat), e = .returned (.agg #[.int .i64 k, .int .i64 n, .int .u64 (b : Int), .string z, .slice pL nL cL, .slice pE nE cE]) ∧ LiesV (fun b => w.heap.size ≤ b ∧ b < w'.heap.size) f w' [.int .i64 k, .int .i64 n, .int .u64 (b : Int), .string z, .slice pL nL cL, .slice pE nE cE] res.1) ∧ RdAt w' R res.2 ∧ Only R w w'
theorem rv_fin {w X : World} {R f : Nat} {res : V × St} {k n : Int} {b : Nat} {z : ByteArray} {pL : Option Addr} {nL cL : Nat} {pE : Option Addr} {nE cE : Nat} (hR : R < w.heap.size)
    (hl : LiesV (fun q => w.heap.size + 3 ≤ q ∧ q < X.heap.size) f X [.int .i64 k, .int .i64 n, .int .u64 (b : Int), .string z, .slice pL nL cL, .slice pE nE cE] res.1) (hr : RdAt X R res.2) (ho : Only R w X) :
    RvPost f R w res (.returned (.agg #[.int .i64 k, .int .i64 n, .int .u64 (b : Int), .string z, .slice pL nL cL, .slice pE nE cE])) (put6 X (w.heap.size + 1 + 1) (.int .i64 k) (.int .i64 n) (.int .u64 (b : Int)) (.string z) (.slice pL nL cL) (.slice pE nE cE)) := by
  have hs := put6_size X (w.heap.size + 1 + 1) (.int .i64 k) (.int .i64 n) (.int .u64 (b : Int)) (.string z) (.slice pL nL cL) (.slice pE nE cE)
  have hq := fun q hq => put6_other' X (w.heap.size + 1 + 1) q hq (.int .i64 k) (.int .i64 n) (.int .u64 (b : Int)) (.string z) (.slice pL nL cL) (.slice pE nE cE)
  have e1 := put6_os X (w.heap.size + 1 + 1) (.int .i64 k) (.int .i64 n) (.int .u64 (b : Int)) (.string z) (.slice pL nL cL) (.slice pE nE cE)
  refine ⟨⟨k, n, b, z, pL, nL, cL, pE, nE, cE, rfl, ?_⟩, ?_, ?_⟩
  · refine hl.kept (fun q hq => ⟨by omega, ?_⟩) (Nat.le_of_eq hs.symm) (fun q hq' _ => hq q (by omega))
    rw [hs]
    exact hq.2
  · exact hr.keep (fun q hq' => hq q (by omega))
  · exact ⟨e1.1.trans ho.os, e1.2.1.trans ho.tape, e1.2.2.trans ho.output, Nat.le_trans ho.size (Nat.le_of_eq hs.symm), fun q hq' hne => (hq q (by omega)).trans (ho.block q hq' hne)⟩
theorem whole_back {m : Nat} (hm : m < 18446744073709551616) : wrap64 ((m ^^^ 9223372036854775808 : Nat) : Int) = (m : Int) - 9223372036854775808 := by
  rcases Nat.lt_or_ge m 9223372036854775808 with h | h
  · rw [xor_low h]
    simp only [wrap64]
    omega
  · rw [xor_high h hm]
    simp only [wrap64]
    omega
/-- v's own block turns. -/
theorem rv_set {w X : World} {R D j : Nat} {s : St} {u : Value} (hR : R < w.heap.size) (hD : w.heap.size + 3 ≤ D) (hr : RdAt X R s) (ho : Only R w X) : RdAt (X.setCell ⟨D, j, none⟩ u) R s ∧ Only R w (X.setCell ⟨D, j, none⟩ u) ∧ (X.setCell ⟨D, j, none⟩ u).heap.size = X.heap.size :=
  ⟨hr.keep (fun q hq => Below.heap_setCell _ _ _ _ (by show q ≠ D; omega)), ho.under rfl ((Below.refl _ X).setCell (p := ⟨D, j, none⟩) (by show w.heap.size ≤ D; omega) u), by simp [World.setCell]⟩
end Go.Proofs.YtdpoiagnjdajbaaDoor.valus
/- The program's reader: numbers. -/
set_option linter.unusedVariables false
namespace Go.Proofs.YtdpoiagnjdajbaaDoor.valus
open Go.RowKit Go.Shelf

theorem or_byte {m c : Nat} (hm : m < 72057594037927936) (hc : c < 256) : Go.bits .or .u64 ((m : Int) * 256) (c : Int) = ((m * 256 + c : Nat) : Int) := by
  have h := (bits_nat .u64 64 (by decide) wraps64 (m * 256) c (by omega) (by omega)).2
  have e : ((m * 256 : Nat) : Int) = (m : Int) * 256 := by omega
  rw [e] at h
  rw [h]
  congr 1
  have := Nat.two_pow_add_eq_or_of_lt (i := 8) (b := c) (by omega) m
  have e2 : 2 ^ 8 * m = m * 256 := by omega
  rw [e2] at this
  exact this.symm
set_option maxHeartbeats 4000000 in
theorem numberR_any (w : World) (R : Nat) (s : St) (h : RdAt w R s) : Calls Tryd.prog 39 #[.pointer (some ⟨R, 0, none⟩)] w fun e w' => e = .returned (.int .u64 ((numM 8 0 s).1 : Int)) ∧ RdAt w' R (numM 8 0 s).2 ∧ Only R w w' := by
  go_enter Tryd.func39, Tryd.ntmps39
  go_wp2
  go_loopw [3, 4] (fun x i wr => ∃ k : Nat, k ≤ 8 ∧ i = .int .i64 k ∧ x = .int .u64 ((numM k 0 s).1 : Int) ∧ Hid (RdAt wr R (numM k 0 s).2) ∧ Hid (Only R w wr)) (fun _ i _ => 8 - (intOf i).toNat)
  case atStart => exact ⟨0, by omega, rfl, rfl, hide h, hide (Only.refl R w)⟩
  case round =>
    obtain ⟨k, hk, rfl, rfl, hr, ho⟩ := hrel
    by_cases hlt : k < 8
    · have hml := numM_lt k 0 s
      have hm : (numM k 0 s).1 < 72057594037927936 := by
        refine Nat.lt_of_lt_of_le hml ?_
        rw [Nat.zero_add, Nat.one_mul]
        exact Nat.le_trans (Nat.pow_le_pow_right (by omega) (by omega : k ≤ 7)) (by decide)
      have hB := byte_any wr R _ hr.out
      have hc := (byteM (numM k 0 s).2).1.toNat_lt
      have hor := or_byte hm hc
      have hsn := numM_snoc k 0 s
      have e1 : (numM (k + 1) 0 s).1 = (numM k 0 s).1 * 256 + (byteM (numM k 0 s).2).1.toNat := by rw [hsn]
      have e2 : (numM (k + 1) 0 s).2 = (byteM (numM k 0 s).2).2 := by rw [hsn]
      rw [← e2] at hB
      rw [← e1] at hor
      obtain ⟨nx, hnx⟩ : ∃ nx, nx = numM (k + 1) 0 s := ⟨_, rfl⟩
      rw [← hnx] at hor e1 hB
      have HN := hide hnx.symm
      clear hnx
      generalize (byteM (numM k 0 s).2).1.toNat = cb at *
      generalize (numM k 0 s).1 = m at *
      have HB := hide hB
      have HE := hide e1
      clear hB hsn e1 e2 hml
      go_wp2_with (go_at_call 38; refine (unhide HB).mono ?_; rintro e w1 ⟨rfl, hr1, ho1⟩; have HR1 := hide hr1; have HO1 := hide (ho.out.trans ho1); clear hr1 ho1)
      go_roundw
      case rel => exact ⟨k + 1, by omega, by congr 1, by rw [HN.out], by rw [HN.out]; exact HR1, HO1⟩
      case measure => simp only [intOf]; omega
    · obtain rfl : k = 8 := by omega
      go_wp2
      go_ret
      exact ⟨rfl, hr.out, ho.out⟩
end Go.Proofs.YtdpoiagnjdajbaaDoor.valus
/- The reader's value, kind by kind. -/
set_option linter.unusedVariables false
namespace Go.Proofs.YtdpoiagnjdajbaaDoor.valus
open Go.RowKit Go.Shelf
set_option maxHeartbeats 4000000 in
set_option maxRecDepth 100000 in
theorem rv1_any (B f R i : Nat) (hB8 : B ≤ 100000000) (hi : i ≤ 1000) (w : World) (s : St) (h : RdAt w R s) (hB : s.1.length + s.2.2 < B) (hc : (byteM (beg s)).1 = 1) (rd : St → V × St) :
    Calls Tryd.prog 22 #[.pointer (some ⟨R, 0, none⟩), .int .i64 (i : Int)] w (RvPost (f + 1) R w (behindM rd 1 (byteM (beg s)).2)) := by
  have bA := begun_below w R i
  have hA := h.later bA
  have hRl := h.lt
  have hT := begun_two hRl i
  have hrb0 := begun_res w R i
  have sz := begun_size w R i
  have c2 := hT.2.2.1.cell 0 _ rfl
  have c3 := hT.2.2.2.cell 0 _ rfl
  have hi' : ¬ (i : Int) > 1000 := by omega
  obtain ⟨pR, cR, hb1, hb2, hb3, hb4⟩ := hA
  have g2 := hb1.cell 2 _ rfl
  have f2 := Blk.froz hb1 2
  have hcn : ((s.2.2 : Int) + 1) = ((beg s).2.2 : Int) := rfl
  have hBG : RdAt ((begun w R i).setCell ⟨R, 2, none⟩ (.int .i64 ((s.2.2 : Int) + 1))) R (beg s) := ⟨pR, cR, hb1.set 2 (.int .i64 ((s.2.2 : Int) + 1)), hb2, hb3, hb4.kept (fun q hq => Below.heap_setCell _ _ _ _ (by show q ≠ R; omega))⟩
  have oS := only_set R (begun w R i) 2 (.int .i64 ((s.2.2 : Int) + 1))
  have hTS := hT.only _ _ oS
  have d2 := hTS.2.2.1.cell 0 _ rfl
  have HBY := hide (byte_any _ R (beg s) hBG)
  rw [hc] at HBY
  have HTS := hide hTS
  have HoS := hide oS
  have hcb : (s.2.2 : Int) + 1 ≤ 9223372036854775807 := by omega
  have hlen : (byteM (beg s)).2.1.length ≤ s.1.length := byteM_len (beg s)
  have hcnt : (byteM (beg s)).2.2.2 = s.2.2 + 1 := byteM_count (beg s)
  clear hT hTS hb1 hb2 hb3 hb4 oS hBG hcn
  have cc : ((1 : UInt8).toNat : Int) = 1 := rfl
  generalize (byteM (beg s)).2 = s2 at *
  go_enter Tryd.func22, Tryd.ntmps22
  go_upto_region 6 with (go_at_call 38; refine (unhide HBY).mono ?_; rintro e w2 ⟨rfl, r2, o2⟩; rw [cc])
  have oT := HoS.out.trans o2
  have hT2 := HTS.out.only _ _ o2
  have s2z := oT.size
  have hrb : Blk w2 (w.heap.size + 2) #[.int .i64 0, .int .i64 0, .int .u64 0, .string ⟨#[]⟩, .slice none 0 0, .slice none 0 0] 26 := (oT.block (w.heap.size + 2) (by omega) (fun e => by have := Option.some.inj e; omega)).trans hrb0
  have bD : Below w2.heap.size w2 (w2.alloc (.cells #[.int .i64 0, .int .i64 0, .int .u64 0, .string ⟨#[]⟩, .slice none 0 0, .slice none 0 0] 26)) := (Below.refl _ w2).alloc (Nat.le_refl _) _
  have hD := blk_alloc w2 #[.int .i64 0, .int .i64 0, .int .u64 0, .string ⟨#[]⟩, .slice none 0 0, .slice none 0 0] 26
  have hD3 : w.heap.size + 3 ≤ w2.heap.size := by omega
  have hrbP : Blk (w2.alloc (.cells #[.int .i64 0, .int .i64 0, .int .u64 0, .string ⟨#[]⟩, .slice none 0 0, .slice none 0 0] 26)) (w.heap.size + 2) #[.int .i64 0, .int .i64 0, .int .u64 0, .string ⟨#[]⟩, .slice none 0 0, .slice none 0 0] 26 := (bD.block (w.heap.size + 2) hrb.lt).trans hrb
  have rP := r2.later bD
  have tP := hT2.only _ _ (only_of_below bD)
  have oP := ((only_of_below (R := R) bA).trans oT).trans (only_of_below bD)
  clear hrb r2 hT2 oT bD bA s2z sz hrb0 o2 HoS HTS HBY c2 c3 g2 f2 d2 h
  generalize w2.alloc (.cells #[.int .i64 0, .int .i64 0, .int .u64 0, .string ⟨#[]⟩, .slice none 0 0, .slice none 0 0] 26) = P at *
  generalize w2.heap.size = D at *
  have hDP := hD.lt
  have p2 := tP.2.2.1.cell 0 _ rfl
  have p3 := tP.2.2.2.cell 0 _ rfl
  have q0 := hD.cell 0 _ rfl
  go_upto_region 21 with fail
  refine copy6 _ _ 5 4 65 D (w.heap.size + 1 + 1) _ _ _ _ _ _ (0) (0) (0) ⟨#[]⟩ none 0 0 none 0 0 (Nat.lt_of_lt_of_eq (by decide : 65 < 66) rfl) (by decide) rfl rfl hD hrbP ?_ 21 _ _ _ _
  have hY := put6_blk hrbP (.int .i64 (0)) (.int .i64 (0)) (.int .u64 ((0 : Nat) : Int)) (.string ⟨#[]⟩) (.slice none 0 0) (.slice none 0 0)
  have hF := rv_fin (X := P) (f := f + 1) (res := behindM rd 1 s2) hRl (by rw [behind_1]; exact vlies_leaf _ _ _ 0 0 0 ⟨#[]⟩ (by decide) (by decide) (by decide) (Nat.zero_le _)) (by rw [behind_1]; exact rP) oP
  have HF := hide hF
  clear hF p2 p3 q0
  generalize put6 P (w.heap.size + 1 + 1) (.int .i64 (0)) (.int .i64 (0)) (.int .u64 ((0 : Nat) : Int)) (.string ⟨#[]⟩) (.slice none 0 0) (.slice none 0 0) = Y at *
  go_wp2
  exact bodyPost_ret (results_rv _ hY) rfl HF.out
set_option maxHeartbeats 4000000 in
set_option maxRecDepth 100000 in
theorem rv2_any (B f R i : Nat) (hB8 : B ≤ 100000000) (hi : i ≤ 1000) (w : World) (s : St) (h : RdAt w R s) (hB : s.1.length + s.2.2 < B) (hc : (byteM (beg s)).1 = 2) (rd : St → V × St) :
    Calls Tryd.prog 22 #[.pointer (some ⟨R, 0, none⟩), .int .i64 (i : Int)] w (RvPost (f + 1) R w (behindM rd 2 (byteM (beg s)).2)) := by
  have bA := begun_below w R i
  have hA := h.later bA
  have hRl := h.lt
  have hT := begun_two hRl i
  have hrb0 := begun_res w R i
  have sz := begun_size w R i
  have c2 := hT.2.2.1.cell 0 _ rfl
  have c3 := hT.2.2.2.cell 0 _ rfl
  have hi' : ¬ (i : Int) > 1000 := by omega
  obtain ⟨pR, cR, hb1, hb2, hb3, hb4⟩ := hA
  have g2 := hb1.cell 2 _ rfl
  have f2 := Blk.froz hb1 2
  have hcn : ((s.2.2 : Int) + 1) = ((beg s).2.2 : Int) := rfl
  have hBG : RdAt ((begun w R i).setCell ⟨R, 2, none⟩ (.int .i64 ((s.2.2 : Int) + 1))) R (beg s) := ⟨pR, cR, hb1.set 2 (.int .i64 ((s.2.2 : Int) + 1)), hb2, hb3, hb4.kept (fun q hq => Below.heap_setCell _ _ _ _ (by show q ≠ R; omega))⟩
  have oS := only_set R (begun w R i) 2 (.int .i64 ((s.2.2 : Int) + 1))
  have hTS := hT.only _ _ oS
  have d2 := hTS.2.2.1.cell 0 _ rfl
  have HBY := hide (byte_any _ R (beg s) hBG)
  rw [hc] at HBY
  have HTS := hide hTS
  have HoS := hide oS
  have hcb : (s.2.2 : Int) + 1 ≤ 9223372036854775807 := by omega
  have hlen : (byteM (beg s)).2.1.length ≤ s.1.length := byteM_len (beg s)
  have hcnt : (byteM (beg s)).2.2.2 = s.2.2 + 1 := byteM_count (beg s)
  clear hT hTS hb1 hb2 hb3 hb4 oS hBG hcn
  have cc : ((2 : UInt8).toNat : Int) = 2 := rfl
  generalize (byteM (beg s)).2 = s2 at *
  go_enter Tryd.func22, Tryd.ntmps22
  go_upto_region 6 with (go_at_call 38; refine (unhide HBY).mono ?_; rintro e w2 ⟨rfl, r2, o2⟩; rw [cc])
  have oT := HoS.out.trans o2
  have hT2 := HTS.out.only _ _ o2
  have s2z := oT.size
  have hrb : Blk w2 (w.heap.size + 2) #[.int .i64 0, .int .i64 0, .int .u64 0, .string ⟨#[]⟩, .slice none 0 0, .slice none 0 0] 26 := (oT.block (w.heap.size + 2) (by omega) (fun e => by have := Option.some.inj e; omega)).trans hrb0
  have bD : Below w2.heap.size w2 (w2.alloc (.cells #[.int .i64 1, .int .i64 0, .int .u64 0, .string ⟨#[]⟩, .slice none 0 0, .slice none 0 0] 26)) := (Below.refl _ w2).alloc (Nat.le_refl _) _
  have hD := blk_alloc w2 #[.int .i64 1, .int .i64 0, .int .u64 0, .string ⟨#[]⟩, .slice none 0 0, .slice none 0 0] 26
  have hD3 : w.heap.size + 3 ≤ w2.heap.size := by omega
  have hrbP : Blk (w2.alloc (.cells #[.int .i64 1, .int .i64 0, .int .u64 0, .string ⟨#[]⟩, .slice none 0 0, .slice none 0 0] 26)) (w.heap.size + 2) #[.int .i64 0, .int .i64 0, .int .u64 0, .string ⟨#[]⟩, .slice none 0 0, .slice none 0 0] 26 := (bD.block (w.heap.size + 2) hrb.lt).trans hrb
  have rP := r2.later bD
  have tP := hT2.only _ _ (only_of_below bD)
  have oP := ((only_of_below (R := R) bA).trans oT).trans (only_of_below bD)
  clear hrb r2 hT2 oT bD bA s2z sz hrb0 o2 HoS HTS HBY c2 c3 g2 f2 d2 h
  generalize w2.alloc (.cells #[.int .i64 1, .int .i64 0, .int .u64 0, .string ⟨#[]⟩, .slice none 0 0, .slice none 0 0] 26) = P at *
  generalize w2.heap.size = D at *
  have hDP := hD.lt
  have p2 := tP.2.2.1.cell 0 _ rfl
  have p3 := tP.2.2.2.cell 0 _ rfl
  have q0 := hD.cell 0 _ rfl
  have HB2 := hide (byte_any P R s2 rP)
  have yb := (byteM s2).1.toNat_lt
  go_upto_region 21 with fail
  go_at_call 38
  refine (unhide HB2).mono ?_
  rintro e w3 ⟨rfl, r3, o3⟩
  have hD4 : Blk w3 D _ _ := (o3.block D hDP (fun e => by have := Option.some.inj e; omega)).trans hD
  have hrb4 : Blk w3 _ _ _ := (o3.block (w.heap.size + 2) hrbP.lt (fun e => by have := Option.some.inj e; omega)).trans hrbP
  have q1 := hD4.cell 1 _ rfl
  have z1 := Blk.froz hD4 1
  go_upto_region 21 with fail
  have hD5 : Blk (w3.setCell ⟨D, 1, none⟩ (.int .i64 ((byteM s2).1.toNat : Int))) D #[.int .i64 1, .int .i64 (((byteM s2).1.toNat : Int)), .int .u64 (((0 : Nat) : Int)), .string ⟨#[]⟩, .slice none 0 0, .slice none 0 0] 26 := hD4.set 1 (.int .i64 ((byteM s2).1.toNat : Int))
  have hrb5 := hrb4.set_other ⟨D, 1, none⟩ (.int .i64 ((byteM s2).1.toNat : Int)) (by show w.heap.size + 2 ≠ D; omega)
  obtain ⟨r5, o5, s5⟩ := rv_set (j := 1) (u := .int .i64 ((byteM s2).1.toNat : Int)) hRl hD3 r3 (oP.trans o3)
  refine copy6 _ _ 5 4 65 D (w.heap.size + 1 + 1) _ _ _ _ _ _ (1) (((byteM s2).1.toNat : Int)) (((0 : Nat) : Int)) ⟨#[]⟩ none 0 0 none 0 0 (Nat.lt_of_lt_of_eq (by decide : 65 < 66) rfl) (by decide) rfl rfl hD5 hrb5 ?_ 21 _ _ _ _
  have hY := put6_blk hrb5 (.int .i64 (1)) (.int .i64 (((byteM s2).1.toNat : Int))) (.int .u64 (((0 : Nat) : Int))) (.string ⟨#[]⟩) (.slice none 0 0) (.slice none 0 0)
  have hF := rv_fin (X := (w3.setCell ⟨D, 1, none⟩ (.int .i64 ((byteM s2).1.toNat : Int)))) (f := f + 1) (res := behindM rd 2 s2) hRl (by rw [behind_2]; exact vlies_leaf _ _ _ 1 _ 0 ⟨#[]⟩ (by decide) (by have := (byteM s2).1.toNat_lt; omega) (by decide) (Nat.zero_le _)) (by rw [behind_2]; exact r5) o5
  have HF := hide hF
  clear hF p2 p3 q0
  generalize put6 (w3.setCell ⟨D, 1, none⟩ (.int .i64 ((byteM s2).1.toNat : Int))) (w.heap.size + 1 + 1) (.int .i64 (1)) (.int .i64 (((byteM s2).1.toNat : Int))) (.int .u64 (((0 : Nat) : Int))) (.string ⟨#[]⟩) (.slice none 0 0) (.slice none 0 0) = Y at *
  go_wp2
  exact bodyPost_ret (results_rv _ hY) rfl HF.out
set_option maxHeartbeats 4000000 in
set_option maxRecDepth 100000 in
theorem rv4_any (B f R i : Nat) (hB8 : B ≤ 100000000) (hi : i ≤ 1000) (w : World) (s : St) (h : RdAt w R s) (hB : s.1.length + s.2.2 < B) (hc : (byteM (beg s)).1 = 4) (rd : St → V × St) :
    Calls Tryd.prog 22 #[.pointer (some ⟨R, 0, none⟩), .int .i64 (i : Int)] w (RvPost (f + 1) R w (behindM rd 4 (byteM (beg s)).2)) := by
  have bA := begun_below w R i
  have hA := h.later bA
  have hRl := h.lt
  have hT := begun_two hRl i
  have hrb0 := begun_res w R i
  have sz := begun_size w R i
  have c2 := hT.2.2.1.cell 0 _ rfl
  have c3 := hT.2.2.2.cell 0 _ rfl
  have hi' : ¬ (i : Int) > 1000 := by omega
  obtain ⟨pR, cR, hb1, hb2, hb3, hb4⟩ := hA
  have g2 := hb1.cell 2 _ rfl
  have f2 := Blk.froz hb1 2
  have hcn : ((s.2.2 : Int) + 1) = ((beg s).2.2 : Int) := rfl
  have hBG : RdAt ((begun w R i).setCell ⟨R, 2, none⟩ (.int .i64 ((s.2.2 : Int) + 1))) R (beg s) := ⟨pR, cR, hb1.set 2 (.int .i64 ((s.2.2 : Int) + 1)), hb2, hb3, hb4.kept (fun q hq => Below.heap_setCell _ _ _ _ (by show q ≠ R; omega))⟩
  have oS := only_set R (begun w R i) 2 (.int .i64 ((s.2.2 : Int) + 1))
  have hTS := hT.only _ _ oS
  have d2 := hTS.2.2.1.cell 0 _ rfl
  have HBY := hide (byte_any _ R (beg s) hBG)
  rw [hc] at HBY
  have HTS := hide hTS
  have HoS := hide oS
  have hcb : (s.2.2 : Int) + 1 ≤ 9223372036854775807 := by omega
  have hlen : (byteM (beg s)).2.1.length ≤ s.1.length := byteM_len (beg s)
  have hcnt : (byteM (beg s)).2.2.2 = s.2.2 + 1 := byteM_count (beg s)
  clear hT hTS hb1 hb2 hb3 hb4 oS hBG hcn
  have cc : ((4 : UInt8).toNat : Int) = 4 := rfl
  generalize (byteM (beg s)).2 = s2 at *
  go_enter Tryd.func22, Tryd.ntmps22
  go_upto_region 6 with (go_at_call 38; refine (unhide HBY).mono ?_; rintro e w2 ⟨rfl, r2, o2⟩; rw [cc])
  have oT := HoS.out.trans o2
  have hT2 := HTS.out.only _ _ o2
  have s2z := oT.size
  have hrb : Blk w2 (w.heap.size + 2) #[.int .i64 0, .int .i64 0, .int .u64 0, .string ⟨#[]⟩, .slice none 0 0, .slice none 0 0] 26 := (oT.block (w.heap.size + 2) (by omega) (fun e => by have := Option.some.inj e; omega)).trans hrb0
  have bD : Below w2.heap.size w2 (w2.alloc (.cells #[.int .i64 3, .int .i64 0, .int .u64 0, .string ⟨#[]⟩, .slice none 0 0, .slice none 0 0] 26)) := (Below.refl _ w2).alloc (Nat.le_refl _) _
  have hD := blk_alloc w2 #[.int .i64 3, .int .i64 0, .int .u64 0, .string ⟨#[]⟩, .slice none 0 0, .slice none 0 0] 26
  have hD3 : w.heap.size + 3 ≤ w2.heap.size := by omega
  have hrbP : Blk (w2.alloc (.cells #[.int .i64 3, .int .i64 0, .int .u64 0, .string ⟨#[]⟩, .slice none 0 0, .slice none 0 0] 26)) (w.heap.size + 2) #[.int .i64 0, .int .i64 0, .int .u64 0, .string ⟨#[]⟩, .slice none 0 0, .slice none 0 0] 26 := (bD.block (w.heap.size + 2) hrb.lt).trans hrb
  have rP := r2.later bD
  have tP := hT2.only _ _ (only_of_below bD)
  have oP := ((only_of_below (R := R) bA).trans oT).trans (only_of_below bD)
  clear hrb r2 hT2 oT bD bA s2z sz hrb0 o2 HoS HTS HBY c2 c3 g2 f2 d2 h
  generalize w2.alloc (.cells #[.int .i64 3, .int .i64 0, .int .u64 0, .string ⟨#[]⟩, .slice none 0 0, .slice none 0 0] 26) = P at *
  generalize w2.heap.size = D at *
  have hDP := hD.lt
  have p2 := tP.2.2.1.cell 0 _ rfl
  have p3 := tP.2.2.2.cell 0 _ rfl
  have q0 := hD.cell 0 _ rfl
  have HB2 := hide (numberR_any P R s2 rP)
  have hm : (numM 8 0 s2).1 < 18446744073709551616 := by
    have := numM_lt 8 0 s2
    rw [pow8] at this
    omega
  have HTB : Hid (∀ W, Calls Tryd.prog 40 #[.int .u64 ((numM 8 0 s2).1 : Int)] W fun e w' => e = .returned (.int .u64 (turnB (numM 8 0 s2).1 : Int)) ∧ w' = W) := hide fun W => turnBack_any W _ hm
  go_upto_region 21 with fail
  go_at_call 39
  refine (unhide HB2).mono ?_
  rintro e w3 ⟨rfl, r3, o3⟩
  have hD4 : Blk w3 D _ _ := (o3.block D hDP (fun e => by have := Option.some.inj e; omega)).trans hD
  have hrb4 : Blk w3 _ _ _ := (o3.block (w.heap.size + 2) hrbP.lt (fun e => by have := Option.some.inj e; omega)).trans hrbP
  have q1 := hD4.cell 2 _ rfl
  have z1 := Blk.froz hD4 2
  go_wp2_with fail
  go_at_call 40
  refine (unhide HTB w3).mono ?_
  rintro e w4 ⟨rfl, h4⟩
  rw [h4]
  clear h4
  go_upto_region 21 with fail
  have hD5 : Blk (w3.setCell ⟨D, 2, none⟩ (.int .u64 (turnB (numM 8 0 s2).1 : Int))) D #[.int .i64 3, .int .i64 (0), .int .u64 ((turnB (numM 8 0 s2).1 : Int)), .string ⟨#[]⟩, .slice none 0 0, .slice none 0 0] 26 := hD4.set 2 (.int .u64 (turnB (numM 8 0 s2).1 : Int))
  have hrb5 := hrb4.set_other ⟨D, 2, none⟩ (.int .u64 (turnB (numM 8 0 s2).1 : Int)) (by show w.heap.size + 2 ≠ D; omega)
  obtain ⟨r5, o5, s5⟩ := rv_set (j := 2) (u := .int .u64 (turnB (numM 8 0 s2).1 : Int)) hRl hD3 r3 (oP.trans o3)
  refine copy6 _ _ 5 4 65 D (w.heap.size + 1 + 1) _ _ _ _ _ _ (3) (0) ((turnB (numM 8 0 s2).1 : Int)) ⟨#[]⟩ none 0 0 none 0 0 (Nat.lt_of_lt_of_eq (by decide : 65 < 66) rfl) (by decide) rfl rfl hD5 hrb5 ?_ 21 _ _ _ _
  have hY := put6_blk hrb5 (.int .i64 (3)) (.int .i64 (0)) (.int .u64 ((turnB (numM 8 0 s2).1 : Int))) (.string ⟨#[]⟩) (.slice none 0 0) (.slice none 0 0)
  have hF := rv_fin (X := (w3.setCell ⟨D, 2, none⟩ (.int .u64 (turnB (numM 8 0 s2).1 : Int)))) (f := f + 1) (res := behindM rd 4 s2) hRl (by rw [behind_4]; exact vlies_leaf _ _ _ 3 0 _ ⟨#[]⟩ (by decide) (by decide) (turnB_lt hm) (Nat.zero_le _)) (by rw [behind_4]; exact r5) o5
  have HF := hide hF
  clear hF p2 p3 q0
  generalize put6 (w3.setCell ⟨D, 2, none⟩ (.int .u64 (turnB (numM 8 0 s2).1 : Int))) (w.heap.size + 1 + 1) (.int .i64 (3)) (.int .i64 (0)) (.int .u64 ((turnB (numM 8 0 s2).1 : Int))) (.string ⟨#[]⟩) (.slice none 0 0) (.slice none 0 0) = Y at *
  go_wp2
  exact bodyPost_ret (results_rv _ hY) rfl HF.out
set_option maxHeartbeats 4000000 in
set_option maxRecDepth 100000 in
theorem rv3_any (B f R i : Nat) (hB8 : B ≤ 100000000) (hi : i ≤ 1000) (w : World) (s : St) (h : RdAt w R s) (hB : s.1.length + s.2.2 < B) (hc : (byteM (beg s)).1 = 3) (rd : St → V × St) :
    Calls Tryd.prog 22 #[.pointer (some ⟨R, 0, none⟩), .int .i64 (i : Int)] w (RvPost (f + 1) R w (behindM rd 3 (byteM (beg s)).2)) := by
  have bA := begun_below w R i
  have hA := h.later bA
  have hRl := h.lt
  have hT := begun_two hRl i
  have hrb0 := begun_res w R i
  have sz := begun_size w R i
  have c2 := hT.2.2.1.cell 0 _ rfl
  have c3 := hT.2.2.2.cell 0 _ rfl
  have hi' : ¬ (i : Int) > 1000 := by omega
  obtain ⟨pR, cR, hb1, hb2, hb3, hb4⟩ := hA
  have g2 := hb1.cell 2 _ rfl
  have f2 := Blk.froz hb1 2
  have hcn : ((s.2.2 : Int) + 1) = ((beg s).2.2 : Int) := rfl
  have hBG : RdAt ((begun w R i).setCell ⟨R, 2, none⟩ (.int .i64 ((s.2.2 : Int) + 1))) R (beg s) := ⟨pR, cR, hb1.set 2 (.int .i64 ((s.2.2 : Int) + 1)), hb2, hb3, hb4.kept (fun q hq => Below.heap_setCell _ _ _ _ (by show q ≠ R; omega))⟩
  have oS := only_set R (begun w R i) 2 (.int .i64 ((s.2.2 : Int) + 1))
  have hTS := hT.only _ _ oS
  have d2 := hTS.2.2.1.cell 0 _ rfl
  have HBY := hide (byte_any _ R (beg s) hBG)
  rw [hc] at HBY
  have HTS := hide hTS
  have HoS := hide oS
  have hcb : (s.2.2 : Int) + 1 ≤ 9223372036854775807 := by omega
  have hlen : (byteM (beg s)).2.1.length ≤ s.1.length := byteM_len (beg s)
  have hcnt : (byteM (beg s)).2.2.2 = s.2.2 + 1 := byteM_count (beg s)
  clear hT hTS hb1 hb2 hb3 hb4 oS hBG hcn
  have cc : ((3 : UInt8).toNat : Int) = 3 := rfl
  generalize (byteM (beg s)).2 = s2 at *
  go_enter Tryd.func22, Tryd.ntmps22
  go_upto_region 6 with (go_at_call 38; refine (unhide HBY).mono ?_; rintro e w2 ⟨rfl, r2, o2⟩; rw [cc])
  have oT := HoS.out.trans o2
  have hT2 := HTS.out.only _ _ o2
  have s2z := oT.size
  have hrb : Blk w2 (w.heap.size + 2) #[.int .i64 0, .int .i64 0, .int .u64 0, .string ⟨#[]⟩, .slice none 0 0, .slice none 0 0] 26 := (oT.block (w.heap.size + 2) (by omega) (fun e => by have := Option.some.inj e; omega)).trans hrb0
  have bD : Below w2.heap.size w2 (w2.alloc (.cells #[.int .i64 2, .int .i64 0, .int .u64 0, .string ⟨#[]⟩, .slice none 0 0, .slice none 0 0] 26)) := (Below.refl _ w2).alloc (Nat.le_refl _) _
  have hD := blk_alloc w2 #[.int .i64 2, .int .i64 0, .int .u64 0, .string ⟨#[]⟩, .slice none 0 0, .slice none 0 0] 26
  have hD3 : w.heap.size + 3 ≤ w2.heap.size := by omega
  have hrbP : Blk (w2.alloc (.cells #[.int .i64 2, .int .i64 0, .int .u64 0, .string ⟨#[]⟩, .slice none 0 0, .slice none 0 0] 26)) (w.heap.size + 2) #[.int .i64 0, .int .i64 0, .int .u64 0, .string ⟨#[]⟩, .slice none 0 0, .slice none 0 0] 26 := (bD.block (w.heap.size + 2) hrb.lt).trans hrb
  have rP := r2.later bD
  have tP := hT2.only _ _ (only_of_below bD)
  have oP := ((only_of_below (R := R) bA).trans oT).trans (only_of_below bD)
  clear hrb r2 hT2 oT bD bA s2z sz hrb0 o2 HoS HTS HBY c2 c3 g2 f2 d2 h
  generalize w2.alloc (.cells #[.int .i64 2, .int .i64 0, .int .u64 0, .string ⟨#[]⟩, .slice none 0 0, .slice none 0 0] 26) = P at *
  generalize w2.heap.size = D at *
  have hDP := hD.lt
  have p2 := tP.2.2.1.cell 0 _ rfl
  have p3 := tP.2.2.2.cell 0 _ rfl
  have q0 := hD.cell 0 _ rfl
  have HB2 := hide (numberR_any P R s2 rP)
  have hm : (numM 8 0 s2).1 < 18446744073709551616 := by
    have := numM_lt 8 0 s2
    rw [pow8] at this
    omega
  have HTB : Hid (∀ W, Calls Tryd.prog 34 #[.int .u64 ((numM 8 0 s2).1 : Int)] W fun e w' => e = .returned (.int .u64 (((numM 8 0 s2).1 ^^^ 9223372036854775808 : Nat) : Int)) ∧ w' = W) := hide fun W => turnWhole_any W _ hm
  obtain ⟨nn, hnn⟩ : ∃ nn : Int, nn = ((numM 8 0 s2).1 : Int) - 9223372036854775808 := ⟨_, rfl⟩
  have HN : Hid (nn = ((numM 8 0 s2).1 : Int) - 9223372036854775808 ∧ -9223372036854775808 ≤ nn ∧ nn ≤ 9223372036854775807) := hide ⟨hnn, by omega, by omega⟩
  clear hnn
  go_upto_region 21 with fail
  go_at_call 39
  refine (unhide HB2).mono ?_
  rintro e w3 ⟨rfl, r3, o3⟩
  have hD4 : Blk w3 D _ _ := (o3.block D hDP (fun e => by have := Option.some.inj e; omega)).trans hD
  have hrb4 : Blk w3 _ _ _ := (o3.block (w.heap.size + 2) hrbP.lt (fun e => by have := Option.some.inj e; omega)).trans hrbP
  have q1 := hD4.cell 1 _ rfl
  have z1 := Blk.froz hD4 1
  go_wp2_with fail
  go_at_call 34
  refine (unhide HTB w3).mono ?_
  rintro e w4 ⟨rfl, h4⟩
  rw [h4]
  clear h4
  go_upto_region 21 with fail
  have hw : wrap64 (((numM 8 0 s2).1 ^^^ 9223372036854775808 : Nat) : Int) = nn := (whole_back hm).trans HN.out.1.symm
  rw [hw]
  have hD5 : Blk (w3.setCell ⟨D, 1, none⟩ (.int .i64 nn)) D #[.int .i64 2, .int .i64 (nn), .int .u64 (((0 : Nat) : Int)), .string ⟨#[]⟩, .slice none 0 0, .slice none 0 0] 26 := hD4.set 1 (.int .i64 nn)
  have hrb5 := hrb4.set_other ⟨D, 1, none⟩ (.int .i64 nn) (by show w.heap.size + 2 ≠ D; omega)
  obtain ⟨r5, o5, s5⟩ := rv_set (j := 1) (u := .int .i64 nn) hRl hD3 r3 (oP.trans o3)
  refine copy6 _ _ 5 4 65 D (w.heap.size + 1 + 1) _ _ _ _ _ _ (2) (nn) (((0 : Nat) : Int)) ⟨#[]⟩ none 0 0 none 0 0 (Nat.lt_of_lt_of_eq (by decide : 65 < 66) rfl) (by decide) rfl rfl hD5 hrb5 ?_ 21 _ _ _ _
  have hY := put6_blk hrb5 (.int .i64 (2)) (.int .i64 (nn)) (.int .u64 (((0 : Nat) : Int))) (.string ⟨#[]⟩) (.slice none 0 0) (.slice none 0 0)
  have hF := rv_fin (X := (w3.setCell ⟨D, 1, none⟩ (.int .i64 nn))) (f := f + 1) (res := behindM rd 3 s2) hRl (by rw [behind_3, ← HN.out.1]; exact vlies_leaf _ _ _ 2 nn 0 ⟨#[]⟩ (by decide) HN.out.2 (by decide) (Nat.zero_le _)) (by rw [behind_3]; exact r5) o5
  have HF := hide hF
  clear hF p2 p3 q0
  generalize put6 (w3.setCell ⟨D, 1, none⟩ (.int .i64 nn)) (w.heap.size + 1 + 1) (.int .i64 (2)) (.int .i64 (nn)) (.int .u64 (((0 : Nat) : Int))) (.string ⟨#[]⟩) (.slice none 0 0) (.slice none 0 0) = Y at *
  go_wp2
  exact bodyPost_ret (results_rv _ hY) rfl HF.out
end Go.Proofs.YtdpoiagnjdajbaaDoor.valus
/- The reader's value, kind by kind. -/
set_option linter.unusedVariables false
namespace Go.Proofs.YtdpoiagnjdajbaaDoor.valus
open Go.RowKit Go.Shelf
set_option maxHeartbeats 4000000 in
set_option maxRecDepth 100000 in
theorem rv6_any (B f R i : Nat) (hB8 : B ≤ 100000000) (hi : i ≤ 1000) (w : World) (s : St) (h : RdAt w R s) (hB : s.1.length + s.2.2 < B) (hc : (byteM (beg s)).1 = 6) (rd : St → V × St) (hup : Up rd) (hrd : ReadV B f R 22 #[.pointer (some ⟨R, 0, none⟩), .int .i64 ((i : Int) + 1)] rd (fun _ => True)) :
    Calls Tryd.prog 22 #[.pointer (some ⟨R, 0, none⟩), .int .i64 (i : Int)] w (RvPost (f + 1) R w (behindM rd 6 (byteM (beg s)).2)) := by
  have bA := begun_below w R i
  have hA := h.later bA
  have hRl := h.lt
  have hT := begun_two hRl i
  have hrb0 := begun_res w R i
  have sz := begun_size w R i
  have c2 := hT.2.2.1.cell 0 _ rfl
  have c3 := hT.2.2.2.cell 0 _ rfl
  have hi' : ¬ (i : Int) > 1000 := by omega
  obtain ⟨pR, cR, hb1, hb2, hb3, hb4⟩ := hA
  have g2 := hb1.cell 2 _ rfl
  have f2 := Blk.froz hb1 2
  have hcn : ((s.2.2 : Int) + 1) = ((beg s).2.2 : Int) := rfl
  have hBG : RdAt ((begun w R i).setCell ⟨R, 2, none⟩ (.int .i64 ((s.2.2 : Int) + 1))) R (beg s) := ⟨pR, cR, hb1.set 2 (.int .i64 ((s.2.2 : Int) + 1)), hb2, hb3, hb4.kept (fun q hq => Below.heap_setCell _ _ _ _ (by show q ≠ R; omega))⟩
  have oS := only_set R (begun w R i) 2 (.int .i64 ((s.2.2 : Int) + 1))
  have hTS := hT.only _ _ oS
  have d2 := hTS.2.2.1.cell 0 _ rfl
  have HBY := hide (byte_any _ R (beg s) hBG)
  rw [hc] at HBY
  have HTS := hide hTS
  have HoS := hide oS
  have hcb : (s.2.2 : Int) + 1 ≤ 9223372036854775807 := by omega
  have hlen : (byteM (beg s)).2.1.length ≤ s.1.length := byteM_len (beg s)
  have hcnt : (byteM (beg s)).2.2.2 = s.2.2 + 1 := byteM_count (beg s)
  clear hT hTS hb1 hb2 hb3 hb4 oS hBG hcn
  have cc : ((6 : UInt8).toNat : Int) = 6 := rfl
  generalize (byteM (beg s)).2 = s2 at *
  go_enter Tryd.func22, Tryd.ntmps22
  go_upto_region 6 with (go_at_call 38; refine (unhide HBY).mono ?_; rintro e w2 ⟨rfl, r2, o2⟩; rw [cc])
  have oT := HoS.out.trans o2
  have hT2 := HTS.out.only _ _ o2
  have s2z := oT.size
  have hrb : Blk w2 (w.heap.size + 2) #[.int .i64 0, .int .i64 0, .int .u64 0, .string ⟨#[]⟩, .slice none 0 0, .slice none 0 0] 26 := (oT.block (w.heap.size + 2) (by omega) (fun e => by have := Option.some.inj e; omega)).trans hrb0
  have bD : Below w2.heap.size w2 (w2.alloc (.cells #[.int .i64 5, .int .i64 0, .int .u64 0, .string ⟨#[]⟩, .slice none 0 0, .slice none 0 0] 26)) := (Below.refl _ w2).alloc (Nat.le_refl _) _
  have hD := blk_alloc w2 #[.int .i64 5, .int .i64 0, .int .u64 0, .string ⟨#[]⟩, .slice none 0 0, .slice none 0 0] 26
  have hD3 : w.heap.size + 3 ≤ w2.heap.size := by omega
  have hrbP : Blk (w2.alloc (.cells #[.int .i64 5, .int .i64 0, .int .u64 0, .string ⟨#[]⟩, .slice none 0 0, .slice none 0 0] 26)) (w.heap.size + 2) #[.int .i64 0, .int .i64 0, .int .u64 0, .string ⟨#[]⟩, .slice none 0 0, .slice none 0 0] 26 := (bD.block (w.heap.size + 2) hrb.lt).trans hrb
  have rP := r2.later bD
  have tP := hT2.only _ _ (only_of_below bD)
  have oP := ((only_of_below (R := R) bA).trans oT).trans (only_of_below bD)
  clear hrb r2 hT2 oT bD bA s2z sz hrb0 o2 HoS HTS HBY c2 c3 g2 f2 d2 h
  generalize w2.alloc (.cells #[.int .i64 5, .int .i64 0, .int .u64 0, .string ⟨#[]⟩, .slice none 0 0, .slice none 0 0] 26) = P at *
  generalize w2.heap.size = D at *
  have hDP := hD.lt
  have p2 := tP.2.2.1.cell 0 _ rfl
  have p3 := tP.2.2.2.cell 0 _ rfl
  have q0 := hD.cell 0 _ rfl
  have HB2 := hide (partsV_any B f R w.heap.size (w.heap.size + 1) rd (Two R w.heap.size (w.heap.size + 1) i) (fun a b hab ho => hab.only _ _ ho) (valueC1_any B f R _ _ i hi rd hrd) (fun s => (hup s).1) (fun s => (hup s).2) P s2 rP (by omega) tP)
  obtain ⟨F3, hF3⟩ : ∃ F3, F3 = (partsM rd (roomM s2) (s2.1.length + 1) [] s2).1 := ⟨_, rfl⟩
  rw [← hF3] at HB2
  have HF3 := hide hF3.symm
  clear hF3
  go_upto_region 21 with fail
  go_at_call 42
  refine (unhide HB2).mono ?_
  rintro e w3 ⟨v3, rfl, hO, r3, o3⟩
  obtain ⟨pp, cp, rfl, hc1, hc2, hrow⟩ := hO.row (QV_kept f)
  clear hO
  have hD4 : Blk w3 D _ _ := (o3.block D hDP (fun e => by have := Option.some.inj e; omega)).trans hD
  have hrb4 : Blk w3 _ _ _ := (o3.block (w.heap.size + 2) hrbP.lt (fun e => by have := Option.some.inj e; omega)).trans hrbP
  have q1 := hD4.cell 4 _ rfl
  have z1 := Blk.froz hD4 4
  have HW := hide hrow
  clear hrow
  go_upto_region 21 with fail
  have hD5 : Blk (w3.setCell ⟨D, 4, none⟩ (.slice pp F3.length cp)) D #[.int .i64 5, .int .i64 0, .int .u64 ((0 : Nat) : Int), .string ⟨#[]⟩, .slice pp F3.length cp, .slice none 0 0] 26 := hD4.set 4 (.slice pp F3.length cp)
  have hrb5 := hrb4.set_other ⟨D, 4, none⟩ (.slice pp F3.length cp) (by show w.heap.size + 2 ≠ D; omega)
  obtain ⟨r5, o5, s5⟩ := rv_set (j := 4) (u := .slice pp F3.length cp) hRl hD3 r3 (oP.trans o3)
  have hlies : LiesV (fun q => w.heap.size + 3 ≤ q ∧ q < (w3.setCell ⟨D, 4, none⟩ (.slice pp F3.length cp)).heap.size) (f + 1) (w3.setCell ⟨D, 4, none⟩ (.slice pp F3.length cp)) [.int .i64 5, .int .i64 0, .int .u64 ((0 : Nat) : Int), .string ⟨#[]⟩, .slice pp F3.length cp, .slice none 0 0] (behindM rd 6 s2).1 := by
    rw [behind_6]
    dsimp only
    rw [HF3.out]
    refine LiesV.kept (ok := fun b => P.heap.size ≤ b ∧ b < w3.heap.size) (w := w3) (fun q hq => ⟨by omega, by rw [s5]; exact hq.2⟩) (Nat.le_of_eq s5.symm) (fun q hq _ => Below.heap_setCell _ _ _ _ (by show q ≠ D; omega)) ?_
    exact ⟨5, 0, 0, ⟨#[]⟩, F3, [], pp, none, cp, 0, rfl, rfl, ⟨by decide, by decide, by decide, Nat.zero_le _⟩, ⟨hc1, hc2, Nat.le_refl _, Nat.zero_le _⟩, HW.out, fun h => absurd h (by simp)⟩
  refine copy6 _ _ 5 4 65 D (w.heap.size + 1 + 1) _ _ _ _ _ _ (5) (0) (((0 : Nat) : Int)) ⟨#[]⟩ pp F3.length cp none 0 0 (Nat.lt_of_lt_of_eq (by decide : 65 < 66) rfl) (by decide) rfl rfl hD5 hrb5 ?_ 21 _ _ _ _
  have hY := put6_blk hrb5 (.int .i64 (5)) (.int .i64 (0)) (.int .u64 (((0 : Nat) : Int))) (.string ⟨#[]⟩) (.slice pp F3.length cp) (.slice none 0 0)
  have hF := rv_fin (X := (w3.setCell ⟨D, 4, none⟩ (.slice pp F3.length cp))) (f := f + 1) (res := behindM rd 6 s2) hRl hlies (by rw [behind_6]; exact r5) o5
  have HF := hide hF
  clear hF p2 p3 q0
  generalize put6 (w3.setCell ⟨D, 4, none⟩ (.slice pp F3.length cp)) (w.heap.size + 1 + 1) (.int .i64 (5)) (.int .i64 (0)) (.int .u64 (((0 : Nat) : Int))) (.string ⟨#[]⟩) (.slice pp F3.length cp) (.slice none 0 0) = Y at *
  go_wp2
  exact bodyPost_ret (results_rv _ hY) rfl HF.out
set_option maxHeartbeats 4000000 in
set_option maxRecDepth 100000 in
theorem rv7_any (B f R i : Nat) (hB8 : B ≤ 100000000) (hi : i ≤ 1000) (w : World) (s : St) (h : RdAt w R s) (hB : s.1.length + s.2.2 < B) (hc : (byteM (beg s)).1 = 7) (rd : St → V × St) (hup : Up rd) (hrd : ReadV B f R 22 #[.pointer (some ⟨R, 0, none⟩), .int .i64 ((i : Int) + 1)] rd (fun _ => True)) :
    Calls Tryd.prog 22 #[.pointer (some ⟨R, 0, none⟩), .int .i64 (i : Int)] w (RvPost (f + 1) R w (behindM rd 7 (byteM (beg s)).2)) := by
  have bA := begun_below w R i
  have hA := h.later bA
  have hRl := h.lt
  have hT := begun_two hRl i
  have hrb0 := begun_res w R i
  have sz := begun_size w R i
  have c2 := hT.2.2.1.cell 0 _ rfl
  have c3 := hT.2.2.2.cell 0 _ rfl
  have hi' : ¬ (i : Int) > 1000 := by omega
  obtain ⟨pR, cR, hb1, hb2, hb3, hb4⟩ := hA
  have g2 := hb1.cell 2 _ rfl
  have f2 := Blk.froz hb1 2
  have hcn : ((s.2.2 : Int) + 1) = ((beg s).2.2 : Int) := rfl
  have hBG : RdAt ((begun w R i).setCell ⟨R, 2, none⟩ (.int .i64 ((s.2.2 : Int) + 1))) R (beg s) := ⟨pR, cR, hb1.set 2 (.int .i64 ((s.2.2 : Int) + 1)), hb2, hb3, hb4.kept (fun q hq => Below.heap_setCell _ _ _ _ (by show q ≠ R; omega))⟩
  have oS := only_set R (begun w R i) 2 (.int .i64 ((s.2.2 : Int) + 1))
  have hTS := hT.only _ _ oS
  have d2 := hTS.2.2.1.cell 0 _ rfl
  have HBY := hide (byte_any _ R (beg s) hBG)
  rw [hc] at HBY
  have HTS := hide hTS
  have HoS := hide oS
  have hcb : (s.2.2 : Int) + 1 ≤ 9223372036854775807 := by omega
  have hlen : (byteM (beg s)).2.1.length ≤ s.1.length := byteM_len (beg s)
  have hcnt : (byteM (beg s)).2.2.2 = s.2.2 + 1 := byteM_count (beg s)
  clear hT hTS hb1 hb2 hb3 hb4 oS hBG hcn
  have cc : ((7 : UInt8).toNat : Int) = 7 := rfl
  generalize (byteM (beg s)).2 = s2 at *
  go_enter Tryd.func22, Tryd.ntmps22
  go_upto_region 6 with (go_at_call 38; refine (unhide HBY).mono ?_; rintro e w2 ⟨rfl, r2, o2⟩; rw [cc])
  have oT := HoS.out.trans o2
  have hT2 := HTS.out.only _ _ o2
  have s2z := oT.size
  have hrb : Blk w2 (w.heap.size + 2) #[.int .i64 0, .int .i64 0, .int .u64 0, .string ⟨#[]⟩, .slice none 0 0, .slice none 0 0] 26 := (oT.block (w.heap.size + 2) (by omega) (fun e => by have := Option.some.inj e; omega)).trans hrb0
  have bD : Below w2.heap.size w2 (w2.alloc (.cells #[.int .i64 6, .int .i64 0, .int .u64 0, .string ⟨#[]⟩, .slice none 0 0, .slice none 0 0] 26)) := (Below.refl _ w2).alloc (Nat.le_refl _) _
  have hD := blk_alloc w2 #[.int .i64 6, .int .i64 0, .int .u64 0, .string ⟨#[]⟩, .slice none 0 0, .slice none 0 0] 26
  have hD3 : w.heap.size + 3 ≤ w2.heap.size := by omega
  have hrbP : Blk (w2.alloc (.cells #[.int .i64 6, .int .i64 0, .int .u64 0, .string ⟨#[]⟩, .slice none 0 0, .slice none 0 0] 26)) (w.heap.size + 2) #[.int .i64 0, .int .i64 0, .int .u64 0, .string ⟨#[]⟩, .slice none 0 0, .slice none 0 0] 26 := (bD.block (w.heap.size + 2) hrb.lt).trans hrb
  have rP := r2.later bD
  have tP := hT2.only _ _ (only_of_below bD)
  have oP := ((only_of_below (R := R) bA).trans oT).trans (only_of_below bD)
  clear hrb r2 hT2 oT bD bA s2z sz hrb0 o2 HoS HTS HBY c2 c3 g2 f2 d2 h
  generalize w2.alloc (.cells #[.int .i64 6, .int .i64 0, .int .u64 0, .string ⟨#[]⟩, .slice none 0 0, .slice none 0 0] 26) = P at *
  generalize w2.heap.size = D at *
  have hDP := hD.lt
  have p2 := tP.2.2.1.cell 0 _ rfl
  have p3 := tP.2.2.2.cell 0 _ rfl
  have q0 := hD.cell 0 _ rfl
  have HB2 := hide (partsE_any B f R w.heap.size (w.heap.size + 1) (entM rd) (Two R w.heap.size (w.heap.size + 1) i) (fun a b hab ho => hab.only _ _ ho) (valueC2_any B f R _ _ hB8 i hi rd hrd) (fun s => ((up_ent hup) s).1) (fun s => ((up_ent hup) s).2) P s2 rP (by omega) tP)
  obtain ⟨F3, hF3⟩ : ∃ F3, F3 = (partsM (entM rd) (roomM s2) (s2.1.length + 1) [] s2).1 := ⟨_, rfl⟩
  rw [← hF3] at HB2
  have HF3 := hide hF3.symm
  clear hF3
  go_upto_region 21 with fail
  go_at_call 44
  refine (unhide HB2).mono ?_
  rintro e w3 ⟨v3, rfl, hO, r3, o3⟩
  obtain ⟨pp, cp, rfl, hc1, hc2, hrow⟩ := hO.row (QE_kept f)
  clear hO
  have hD4 : Blk w3 D _ _ := (o3.block D hDP (fun e => by have := Option.some.inj e; omega)).trans hD
  have hrb4 : Blk w3 _ _ _ := (o3.block (w.heap.size + 2) hrbP.lt (fun e => by have := Option.some.inj e; omega)).trans hrbP
  have q1 := hD4.cell 5 _ rfl
  have z1 := Blk.froz hD4 5
  have HW := hide hrow
  clear hrow
  go_upto_region 21 with fail
  have hD5 : Blk (w3.setCell ⟨D, 5, none⟩ (.slice pp F3.length cp)) D #[.int .i64 6, .int .i64 0, .int .u64 ((0 : Nat) : Int), .string ⟨#[]⟩, .slice none 0 0, .slice pp F3.length cp] 26 := hD4.set 5 (.slice pp F3.length cp)
  have hrb5 := hrb4.set_other ⟨D, 5, none⟩ (.slice pp F3.length cp) (by show w.heap.size + 2 ≠ D; omega)
  obtain ⟨r5, o5, s5⟩ := rv_set (j := 5) (u := .slice pp F3.length cp) hRl hD3 r3 (oP.trans o3)
  have hlies : LiesV (fun q => w.heap.size + 3 ≤ q ∧ q < (w3.setCell ⟨D, 5, none⟩ (.slice pp F3.length cp)).heap.size) (f + 1) (w3.setCell ⟨D, 5, none⟩ (.slice pp F3.length cp)) [.int .i64 6, .int .i64 0, .int .u64 ((0 : Nat) : Int), .string ⟨#[]⟩, .slice none 0 0, .slice pp F3.length cp] (behindM rd 7 s2).1 := by
    rw [behind_7]
    dsimp only
    rw [HF3.out]
    refine LiesV.kept (ok := fun b => P.heap.size ≤ b ∧ b < w3.heap.size) (w := w3) (fun q hq => ⟨by omega, by rw [s5]; exact hq.2⟩) (Nat.le_of_eq s5.symm) (fun q hq _ => Below.heap_setCell _ _ _ _ (by show q ≠ D; omega)) ?_
    refine ⟨6, 0, 0, ⟨#[]⟩, [], F3, none, pp, 0, cp, rfl, rfl, ⟨by decide, by decide, by decide, Nat.zero_le _⟩, ⟨Nat.le_refl _, Nat.zero_le _, hc1, hc2⟩, fun h => absurd h (by simp), fun hn => ?_⟩
    obtain ⟨g, o, e1, e2, e3, e4⟩ := HW.out hn
    refine ⟨g, o, e1, e2, e3, fun j hj => ?_⟩
    obtain ⟨us, u1, u2, y, y1, key, y', xs, q1, q2, q3, q4⟩ := e4 j hj
    exact ⟨us, u1, u2, key, y', xs, by rw [y1, q1], q2, q3, q4⟩
  refine copy6 _ _ 5 4 65 D (w.heap.size + 1 + 1) _ _ _ _ _ _ (6) (0) (((0 : Nat) : Int)) ⟨#[]⟩ none 0 0 pp F3.length cp (Nat.lt_of_lt_of_eq (by decide : 65 < 66) rfl) (by decide) rfl rfl hD5 hrb5 ?_ 21 _ _ _ _
  have hY := put6_blk hrb5 (.int .i64 (6)) (.int .i64 (0)) (.int .u64 (((0 : Nat) : Int))) (.string ⟨#[]⟩) (.slice none 0 0) (.slice pp F3.length cp)
  have hF := rv_fin (X := (w3.setCell ⟨D, 5, none⟩ (.slice pp F3.length cp))) (f := f + 1) (res := behindM rd 7 s2) hRl hlies (by rw [behind_7]; exact r5) o5
  have HF := hide hF
  clear hF p2 p3 q0
  generalize put6 (w3.setCell ⟨D, 5, none⟩ (.slice pp F3.length cp)) (w.heap.size + 1 + 1) (.int .i64 (6)) (.int .i64 (0)) (.int .u64 (((0 : Nat) : Int))) (.string ⟨#[]⟩) (.slice none 0 0) (.slice pp F3.length cp) = Y at *
  go_wp2
  exact bodyPost_ret (results_rv _ hY) rfl HF.out
end Go.Proofs.YtdpoiagnjdajbaaDoor.valus
/- The reader's value, kind by kind. -/
set_option linter.unusedVariables false
namespace Go.Proofs.YtdpoiagnjdajbaaDoor.valus
open Go.RowKit Go.Shelf
set_option maxHeartbeats 4000000 in
set_option maxRecDepth 100000 in
theorem rv5_any (B f R i : Nat) (hB8 : B ≤ 100000000) (hi : i ≤ 1000) (w : World) (s : St) (h : RdAt w R s) (hB : s.1.length + s.2.2 < B) (hc : (byteM (beg s)).1 = 5) (rd : St → V × St) :
    Calls Tryd.prog 22 #[.pointer (some ⟨R, 0, none⟩), .int .i64 (i : Int)] w (RvPost (f + 1) R w (behindM rd 5 (byteM (beg s)).2)) := by
  have bA := begun_below w R i
  have hA := h.later bA
  have hRl := h.lt
  have hT := begun_two hRl i
  have hrb0 := begun_res w R i
  have sz := begun_size w R i
  have c2 := hT.2.2.1.cell 0 _ rfl
  have c3 := hT.2.2.2.cell 0 _ rfl
  have hi' : ¬ (i : Int) > 1000 := by omega
  obtain ⟨pR, cR, hb1, hb2, hb3, hb4⟩ := hA
  have g2 := hb1.cell 2 _ rfl
  have f2 := Blk.froz hb1 2
  have hcn : ((s.2.2 : Int) + 1) = ((beg s).2.2 : Int) := rfl
  have hBG : RdAt ((begun w R i).setCell ⟨R, 2, none⟩ (.int .i64 ((s.2.2 : Int) + 1))) R (beg s) := ⟨pR, cR, hb1.set 2 (.int .i64 ((s.2.2 : Int) + 1)), hb2, hb3, hb4.kept (fun q hq => Below.heap_setCell _ _ _ _ (by show q ≠ R; omega))⟩
  have oS := only_set R (begun w R i) 2 (.int .i64 ((s.2.2 : Int) + 1))
  have hTS := hT.only _ _ oS
  have d2 := hTS.2.2.1.cell 0 _ rfl
  have HBY := hide (byte_any _ R (beg s) hBG)
  rw [hc] at HBY
  have HTS := hide hTS
  have HoS := hide oS
  have hcb : (s.2.2 : Int) + 1 ≤ 9223372036854775807 := by omega
  have hlen : (byteM (beg s)).2.1.length ≤ s.1.length := byteM_len (beg s)
  have hcnt : (byteM (beg s)).2.2.2 = s.2.2 + 1 := byteM_count (beg s)
  clear hT hTS hb1 hb2 hb3 hb4 oS hBG hcn
  have cc : ((5 : UInt8).toNat : Int) = 5 := rfl
  generalize (byteM (beg s)).2 = s2 at *
  go_enter Tryd.func22, Tryd.ntmps22
  go_upto_region 6 with (go_at_call 38; refine (unhide HBY).mono ?_; rintro e w2 ⟨rfl, r2, o2⟩; rw [cc])
  have oT := HoS.out.trans o2
  have hT2 := HTS.out.only _ _ o2
  have s2z := oT.size
  have hrb : Blk w2 (w.heap.size + 2) #[.int .i64 0, .int .i64 0, .int .u64 0, .string ⟨#[]⟩, .slice none 0 0, .slice none 0 0] 26 := (oT.block (w.heap.size + 2) (by omega) (fun e => by have := Option.some.inj e; omega)).trans hrb0
  have bD : Below w2.heap.size w2 (w2.alloc (.cells #[.int .i64 4, .int .i64 0, .int .u64 0, .string ⟨#[]⟩, .slice none 0 0, .slice none 0 0] 26)) := (Below.refl _ w2).alloc (Nat.le_refl _) _
  have hD := blk_alloc w2 #[.int .i64 4, .int .i64 0, .int .u64 0, .string ⟨#[]⟩, .slice none 0 0, .slice none 0 0] 26
  have hD3 : w.heap.size + 3 ≤ w2.heap.size := by omega
  have hrbP : Blk (w2.alloc (.cells #[.int .i64 4, .int .i64 0, .int .u64 0, .string ⟨#[]⟩, .slice none 0 0, .slice none 0 0] 26)) (w.heap.size + 2) #[.int .i64 0, .int .i64 0, .int .u64 0, .string ⟨#[]⟩, .slice none 0 0, .slice none 0 0] 26 := (bD.block (w.heap.size + 2) hrb.lt).trans hrb
  have rP := r2.later bD
  have tP := hT2.only _ _ (only_of_below bD)
  have oP := ((only_of_below (R := R) bA).trans oT).trans (only_of_below bD)
  clear hrb r2 hT2 oT bD bA s2z sz hrb0 o2 HoS HTS HBY c2 c3 g2 f2 d2 h
  generalize w2.alloc (.cells #[.int .i64 4, .int .i64 0, .int .u64 0, .string ⟨#[]⟩, .slice none 0 0, .slice none 0 0] 26) = P at *
  generalize w2.heap.size = D at *
  have hDP := hD.lt
  have p2 := tP.2.2.1.cell 0 _ rfl
  have p3 := tP.2.2.2.cell 0 _ rfl
  have q0 := hD.cell 0 _ rfl
  have HB2 := hide (chainR_any P R s2 rP (by omega))
  obtain ⟨zz, hzz⟩ : ∃ zz : ByteArray, zz = ⟨(chainM (s2.1.length + 1) [] s2).1.toArray⟩ := ⟨_, rfl⟩
  rw [← hzz] at HB2
  have HZ : Hid (zz.data.toList = (chainM (s2.1.length + 1) [] s2).1 ∧ zz.size ≤ maxLen) := hide (by
    rw [hzz]
    refine ⟨by simp, ?_⟩
    have h1 := chainM_size (s2.1.length + 1) [] s2
    have h2 : (⟨(chainM (s2.1.length + 1) [] s2).1.toArray⟩ : ByteArray).size = (chainM (s2.1.length + 1) [] s2).1.length := by simp [ByteArray.size]
    rw [h2]
    simp only [List.length_nil] at h1
    unfold maxLen
    omega)
  clear hzz
  go_upto_region 21 with fail
  go_at_call 41
  refine (unhide HB2).mono ?_
  rintro e w3 ⟨rfl, r3, o3⟩
  have hD4 : Blk w3 D _ _ := (o3.block D hDP (fun e => by have := Option.some.inj e; omega)).trans hD
  have hrb4 : Blk w3 _ _ _ := (o3.block (w.heap.size + 2) hrbP.lt (fun e => by have := Option.some.inj e; omega)).trans hrbP
  have q1 := hD4.cell 3 _ rfl
  have z1 := Blk.froz hD4 3
  go_upto_region 21 with fail
  have hD5 : Blk (w3.setCell ⟨D, 3, none⟩ (.string zz)) D #[.int .i64 4, .int .i64 (0), .int .u64 (((0 : Nat) : Int)), .string zz, .slice none 0 0, .slice none 0 0] 26 := hD4.set 3 (.string zz)
  have hrb5 := hrb4.set_other ⟨D, 3, none⟩ (.string zz) (by show w.heap.size + 2 ≠ D; omega)
  obtain ⟨r5, o5, s5⟩ := rv_set (j := 3) (u := .string zz) hRl hD3 r3 (oP.trans o3)
  refine copy6 _ _ 5 4 65 D (w.heap.size + 1 + 1) _ _ _ _ _ _ (4) (0) (((0 : Nat) : Int)) zz none 0 0 none 0 0 (Nat.lt_of_lt_of_eq (by decide : 65 < 66) rfl) (by decide) rfl rfl hD5 hrb5 ?_ 21 _ _ _ _
  have hY := put6_blk hrb5 (.int .i64 (4)) (.int .i64 (0)) (.int .u64 (((0 : Nat) : Int))) (.string zz) (.slice none 0 0) (.slice none 0 0)
  have hF := rv_fin (X := (w3.setCell ⟨D, 3, none⟩ (.string zz))) (f := f + 1) (res := behindM rd 5 s2) hRl (by rw [behind_5, ← HZ.out.1]; exact vlies_leaf _ _ _ 4 0 0 zz (by decide) (by decide) (by decide) HZ.out.2) (by rw [behind_5]; exact r5) o5
  have HF := hide hF
  clear hF p2 p3 q0
  generalize put6 (w3.setCell ⟨D, 3, none⟩ (.string zz)) (w.heap.size + 1 + 1) (.int .i64 (4)) (.int .i64 (0)) (.int .u64 (((0 : Nat) : Int))) (.string zz) (.slice none 0 0) (.slice none 0 0) = Y at *
  go_wp2
  exact bodyPost_ret (results_rv _ hY) rfl HF.out
set_option maxHeartbeats 4000000 in
set_option maxRecDepth 100000 in
theorem rvno_any (B f R i : Nat) (hB8 : B ≤ 100000000) (hi : i ≤ 1000) (w : World) (s : St) (h : RdAt w R s) (hB : s.1.length + s.2.2 < B) (c : UInt8) (k0 : Int) (hk : (c.toNat : Int) - 1 = k0) (hno : ¬ (1 ≤ c.toNat ∧ c.toNat ≤ 7)) (hc : (byteM (beg s)).1 = c) (rd : St → V × St) :
    Calls Tryd.prog 22 #[.pointer (some ⟨R, 0, none⟩), .int .i64 (i : Int)] w (RvPost (f + 1) R w (behindM rd c (byteM (beg s)).2)) := by
  have bA := begun_below w R i
  have hA := h.later bA
  have hRl := h.lt
  have hT := begun_two hRl i
  have hrb0 := begun_res w R i
  have sz := begun_size w R i
  have c2 := hT.2.2.1.cell 0 _ rfl
  have c3 := hT.2.2.2.cell 0 _ rfl
  have hi' : ¬ (i : Int) > 1000 := by omega
  obtain ⟨pR, cR, hb1, hb2, hb3, hb4⟩ := hA
  have g2 := hb1.cell 2 _ rfl
  have f2 := Blk.froz hb1 2
  have hcn : ((s.2.2 : Int) + 1) = ((beg s).2.2 : Int) := rfl
  have hBG : RdAt ((begun w R i).setCell ⟨R, 2, none⟩ (.int .i64 ((s.2.2 : Int) + 1))) R (beg s) := ⟨pR, cR, hb1.set 2 (.int .i64 ((s.2.2 : Int) + 1)), hb2, hb3, hb4.kept (fun q hq => Below.heap_setCell _ _ _ _ (by show q ≠ R; omega))⟩
  have oS := only_set R (begun w R i) 2 (.int .i64 ((s.2.2 : Int) + 1))
  have hTS := hT.only _ _ oS
  have d2 := hTS.2.2.1.cell 0 _ rfl
  have HBY := hide (byte_any _ R (beg s) hBG)
  rw [hc] at HBY
  have HTS := hide hTS
  have HoS := hide oS
  have hcb : (s.2.2 : Int) + 1 ≤ 9223372036854775807 := by omega
  have hlen : (byteM (beg s)).2.1.length ≤ s.1.length := byteM_len (beg s)
  have hcnt : (byteM (beg s)).2.2.2 = s.2.2 + 1 := byteM_count (beg s)
  clear hT hTS hb1 hb2 hb3 hb4 oS hBG hcn
  have y1 : (0 : Int) ≤ (c.toNat : Int) := by omega
  have y2 : (c.toNat : Int) ≤ 255 := by have := c.toNat_lt; omega
  have hk0 : Hid ((c.toNat : Int) - 1 = k0) := hide hk
  have n0 : ¬ (c.toNat : Int) - 1 = 0 := by omega
  have kn0 : ¬ k0 = 0 := by omega
  have kn1 : ¬ k0 = 1 := by omega
  have kn2 : ¬ k0 = 2 := by omega
  have kn3 : ¬ k0 = 3 := by omega
  have kn4 : ¬ k0 = 4 := by omega
  have kn5 : ¬ k0 = 5 := by omega
  have kn6 : ¬ k0 = 6 := by omega
  have kb1 : -1 ≤ k0 := by omega
  have kb2 : k0 ≤ 254 := by omega
  have HNO := hide hno
  have HK := hide hk
  clear n0 hno hk
  generalize (byteM (beg s)).2 = s2 at *
  go_enter Tryd.func22, Tryd.ntmps22
  go_upto_region 6 with (go_at_call 38; refine (unhide HBY).mono ?_; rintro e w2 ⟨rfl, r2, o2⟩; skip)
  rw [hk0.out]
  have oT := HoS.out.trans o2
  have hT2 := HTS.out.only _ _ o2
  have s2z := oT.size
  have hrb : Blk w2 (w.heap.size + 2) #[.int .i64 0, .int .i64 0, .int .u64 0, .string ⟨#[]⟩, .slice none 0 0, .slice none 0 0] 26 := (oT.block (w.heap.size + 2) (by omega) (fun e => by have := Option.some.inj e; omega)).trans hrb0
  have bD : Below w2.heap.size w2 (w2.alloc (.cells #[.int .i64 k0, .int .i64 0, .int .u64 0, .string ⟨#[]⟩, .slice none 0 0, .slice none 0 0] 26)) := (Below.refl _ w2).alloc (Nat.le_refl _) _
  have hD := blk_alloc w2 #[.int .i64 k0, .int .i64 0, .int .u64 0, .string ⟨#[]⟩, .slice none 0 0, .slice none 0 0] 26
  have hD3 : w.heap.size + 3 ≤ w2.heap.size := by omega
  have hrbP : Blk (w2.alloc (.cells #[.int .i64 k0, .int .i64 0, .int .u64 0, .string ⟨#[]⟩, .slice none 0 0, .slice none 0 0] 26)) (w.heap.size + 2) #[.int .i64 0, .int .i64 0, .int .u64 0, .string ⟨#[]⟩, .slice none 0 0, .slice none 0 0] 26 := (bD.block (w.heap.size + 2) hrb.lt).trans hrb
  have rP := r2.later bD
  have tP := hT2.only _ _ (only_of_below bD)
  have oP := ((only_of_below (R := R) bA).trans oT).trans (only_of_below bD)
  clear hrb r2 hT2 oT bD bA s2z sz hrb0 o2 HoS HTS HBY c2 c3 g2 f2 d2 h
  generalize w2.alloc (.cells #[.int .i64 k0, .int .i64 0, .int .u64 0, .string ⟨#[]⟩, .slice none 0 0, .slice none 0 0] 26) = P at *
  generalize w2.heap.size = D at *
  have hDP := hD.lt
  have p2 := tP.2.2.1.cell 0 _ rfl
  have p3 := tP.2.2.2.cell 0 _ rfl
  have q0 := hD.cell 0 _ rfl
  have HB2 := hide (fail_any P R s2 rP)
  have KB := hide (And.intro kb1 kb2)
  have AR := hide (And.intro hDP (And.intro hD3 hRl))
  clear y1 y2 kb1 kb2 hk0 hDP hD3 hlen hcnt hcb hi' hRl hB hi hB8
  simp only [List.getElem_toArray, List.getElem_cons_zero] at q0
  go_upto_region 21 with fail
  go_at_call 37
  refine (unhide HB2).mono ?_
  rintro e w3 ⟨⟨v3, rfl⟩, r3, o3⟩
  obtain ⟨hDP, hD3, hRl⟩ := AR.out
  have hD4 : Blk w3 D _ _ := (o3.block D hDP (fun e => by have := Option.some.inj e; omega)).trans hD
  have hrb4 : Blk w3 _ _ _ := (o3.block (w.heap.size + 2) hrbP.lt (fun e => by have := Option.some.inj e; omega)).trans hrbP
  have q1 := hD4.cell 1 _ rfl
  have z1 := Blk.froz hD4 1
  go_upto_region 21 with fail
  refine copy6 _ _ 5 4 65 D (w.heap.size + 1 + 1) _ _ _ _ _ _ (k0) (0) (((0 : Nat) : Int)) ⟨#[]⟩ none 0 0 none 0 0 (Nat.lt_of_lt_of_eq (by decide : 65 < 66) rfl) (by decide) rfl rfl hD4 hrb4 ?_ 21 _ _ _ _
  have hY := put6_blk hrb4 (.int .i64 (k0)) (.int .i64 (0)) (.int .u64 (((0 : Nat) : Int))) (.string ⟨#[]⟩) (.slice none 0 0) (.slice none 0 0)
  have hF := rv_fin (X := w3) (f := f + 1) (res := behindM rd c s2) hRl (by rw [behind_no _ _ HNO.out, HK.out]; exact vlies_leaf _ _ _ k0 0 0 ⟨#[]⟩ (by have := KB.out; omega) (by decide) (by decide) (Nat.zero_le _)) (by rw [behind_no _ _ HNO.out]; exact r3) (oP.trans o3)
  have HF := hide hF
  clear hF p2 p3 q0
  generalize put6 w3 (w.heap.size + 1 + 1) (.int .i64 (k0)) (.int .i64 (0)) (.int .u64 (((0 : Nat) : Int))) (.string ⟨#[]⟩) (.slice none 0 0) (.slice none 0 0) = Y at *
  go_wp2
  exact bodyPost_ret (results_rv _ hY) rfl HF.out
end Go.Proofs.YtdpoiagnjdajbaaDoor.valus
/- The reader's value. -/
set_option linter.unusedVariables false
namespace Go.Proofs.YtdpoiagnjdajbaaDoor.valus
open Go.RowKit Go.Shelf

theorem pvalue_all (B R : Nat) (hB8 : B ≤ 100000000) : ∀ (n i : Nat), i + n = 1001 → ReadV B (n + 1) R 22 #[.pointer (some ⟨R, 0, none⟩), .int .i64 (i : Int)] (valM n) (fun _ => True)
  | 0, i, hi => by
    obtain rfl : i = 1001 := by omega
    exact value0_any B 0 R
  | n + 1, i, hi => fun w s h hB _ => by
    have hi' : i ≤ 1000 := by omega
    have ih := pvalue_all B R hB8 n (i + 1) (by omega)
    have e : valM (n + 1) s = behindM (valM n) (byteM (beg s)).1 (byteM (beg s)).2 := rfl
    rw [e]
    by_cases hc : 1 ≤ (byteM (beg s)).1.toNat ∧ (byteM (beg s)).1.toNat ≤ 7
    · rcases u8_cases hc.1 hc.2 with h1 | h1 | h1 | h1 | h1 | h1 | h1
      · rw [h1]
        exact rv1_any B (n + 1) R i hB8 hi' w s h hB h1 (valM n)
      · rw [h1]
        exact rv2_any B (n + 1) R i hB8 hi' w s h hB h1 (valM n)
      · rw [h1]
        exact rv3_any B (n + 1) R i hB8 hi' w s h hB h1 (valM n)
      · rw [h1]
        exact rv4_any B (n + 1) R i hB8 hi' w s h hB h1 (valM n)
      · rw [h1]
        exact rv5_any B (n + 1) R i hB8 hi' w s h hB h1 (valM n)
      · rw [h1]
        exact rv6_any B (n + 1) R i hB8 hi' w s h hB h1 (valM n) (valM_up n) ih
      · rw [h1]
        exact rv7_any B (n + 1) R i hB8 hi' w s h hB h1 (valM n) (valM_up n) ih
    · exact rvno_any B (n + 1) R i hB8 hi' w s h hB _ _ rfl hc rfl (valM n)
end Go.Proofs.YtdpoiagnjdajbaaDoor.valus
/- The regions of appendValue's rounds: in whatever order. -/
set_option linter.unusedVariables false
namespace Go.Proofs.YtdpoiagnjdajbaaDoor.valus
open Go.RowKit Go.Shelf
attribute [local go_sem] Oper.semAt_some

/-- What append does inside a region of no round. -/
theorem opWide_append' {n : Nat} {P : Program} {ops : Array Oper} {o : Oper} {a : Act} {w w' : World} {K : Act → World → Prop} {Q : Exit → Act → World → Prop} (s x : Operand) (t : TypeId)
    (ho : o.op = .call { callee := .builtin .append, args := #[s, x], argTypes := #[t, t] }) (hg : o.guard = none) {v u v' : Value} (hs : a.eval s = v) (hx : a.eval x = u)
    (hr : (Builtin.append_ #[t, t] o.type #[v, u]).run P w = .ok v' w') (hK : K (a.put o.dst v') w') :
    if Region.wanted o (yielded ops a.tmps) = true then Oper.wpIn Fence.wide n P o a w K Q else (∀ f, o.about P w a.eval = some f → Fence.wide.fn f) ∧ K (a.put o.dst undef) w := by
  rw [if_pos (by simp [Region.wanted, hg])]
  unfold Oper.wpIn
  refine ⟨fun _ _ => trivial, ?_⟩
  rw [Oper.semAt_plain _ _ _ (by rw [ho]; intro c hc'; cases hc')]
  simp [execOp, ho, resolve, invoke, builtin, hs, hx, hr, Result.andThen]
  exact hK

set_option maxRecDepth 100000 in
set_option maxHeartbeats 4000000 in
theorem loop5R {Q : Exit → Act → World → Prop} {ops : Array Oper} {D : List Deferred} {t1 t2 t3 t4 t5 t7 t8 t9 t10 t11 t12 t13 t14 t15 t16 t17 t18 t19 t20 t21 t22 t23 t24 t25 t26 t27 t28 t29 t30 t31 t32 t33 t34 t35 t36 t37 t38 t39 t40 t41 t42 t43 t44 t45 t46 t47 t48 t49 t50 t51 t52 t53 t54 t55 t56 t57 t58 t59 t60 t61 t62 t63 t64 t65 t66 t67 t68 t69 t70 t71 t72 t73 t74 t75 t76 t77 t78 t79 t80 t81 t82 t83 t84 t85 t86 t87 t88 v v1 : Value} {W W2 : World} {Bx : Nat} {k n : Int} {b : Nat} {s : ByteArray} {pL : Option Addr} {nL cL : Nat} {pE : Option Addr} {nE cE : Nat} {q0 q1 q2 q3 q4 q5 : String} {f0 f1 f2 f3 f4 f5 : _} (H : World → Value → Prop)
    (h0 : ops[0]? = some { dst := some 56, op := .move (.tmp 0), type := 27, pos := q0, after := f0, guard := none })
    (h1 : ops[1]? = some { dst := some 57, op := .buildSlice 27 1 #[(0, .const (.int .u8 1))], type := 27, pos := q1, after := f1, guard := none })
    (h2 : ops[2]? = some { dst := some 58, op := .call { callee := .builtin .append, args := #[.tmp 56, .tmp 57], argTypes := #[27, 27] }, type := 27, pos := q2, after := f2, guard := none })
    (h3 : ops[3]? = some { dst := some 59, op := .load 26 (.tmp 6), type := 26, pos := q3, after := f3, guard := none })
    (h4 : ops[4]? = some { dst := some 60, op := .call { callee := .value (.func 21), args := #[.tmp 58, .tmp 59], argTypes := #[27, 26] }, type := 27, pos := q4, after := f4, guard := none })
    (h5 : ops[5]? = some { dst := some 0, op := .assign (.tmp 60), type := 27, pos := q5, after := f5, guard := none })
    (r012345 : Region.ready .any ops #[true, true, true, true, true, true] = [])
    (r01234 : Region.ready .any ops #[true, true, true, true, true, false] = [5])
    (r0123 : Region.ready .any ops #[true, true, true, true, false, false] = [4])
    (r012 : Region.ready .any ops #[true, true, true, false, false, false] = [3])
    (r013 : Region.ready .any ops #[true, true, false, true, false, false] = [2])
    (r01 : Region.ready .any ops #[true, true, false, false, false, false] = [2, 3])
    (r03 : Region.ready .any ops #[true, false, false, true, false, false] = [1])
    (r13 : Region.ready .any ops #[false, true, false, true, false, false] = [0])
    (r0 : Region.ready .any ops #[true, false, false, false, false, false] = [1, 3])
    (r1 : Region.ready .any ops #[false, true, false, false, false, false] = [0, 3])
    (r3 : Region.ready .any ops #[false, false, false, true, false, false] = [0, 1])
    (r : Region.ready .any ops #[false, false, false, false, false, false] = [0, 1, 3])
    (ca0 : W.cell? ⟨Bx, 0, none⟩ = some (.int .i64 k))
    (ca1 : W.cell? ⟨Bx, 1, none⟩ = some (.int .i64 n))
    (ca2 : W.cell? ⟨Bx, 2, none⟩ = some (.int .u64 (b : Int)))
    (ca3 : W.cell? ⟨Bx, 3, none⟩ = some (.string s))
    (ca4 : W.cell? ⟨Bx, 4, none⟩ = some (.slice pL nL cL))
    (ca5 : W.cell? ⟨Bx, 5, none⟩ = some (.slice pE nE cE))
    (cb0 : (W.alloc (.cells #[.int .u8 1] 5)).cell? ⟨Bx, 0, none⟩ = some (.int .i64 k))
    (cb1 : (W.alloc (.cells #[.int .u8 1] 5)).cell? ⟨Bx, 1, none⟩ = some (.int .i64 n))
    (cb2 : (W.alloc (.cells #[.int .u8 1] 5)).cell? ⟨Bx, 2, none⟩ = some (.int .u64 (b : Int)))
    (cb3 : (W.alloc (.cells #[.int .u8 1] 5)).cell? ⟨Bx, 3, none⟩ = some (.string s))
    (cb4 : (W.alloc (.cells #[.int .u8 1] 5)).cell? ⟨Bx, 4, none⟩ = some (.slice pL nL cL))
    (cb5 : (W.alloc (.cells #[.int .u8 1] 5)).cell? ⟨Bx, 5, none⟩ = some (.slice pE nE cE))
    (cc0 : W2.cell? ⟨Bx, 0, none⟩ = some (.int .i64 k))
    (cc1 : W2.cell? ⟨Bx, 1, none⟩ = some (.int .i64 n))
    (cc2 : W2.cell? ⟨Bx, 2, none⟩ = some (.int .u64 (b : Int)))
    (cc3 : W2.cell? ⟨Bx, 3, none⟩ = some (.string s))
    (cc4 : W2.cell? ⟨Bx, 4, none⟩ = some (.slice pL nL cL))
    (cc5 : W2.cell? ⟨Bx, 5, none⟩ = some (.slice pE nE cE))
    (hr : (Builtin.append_ #[27, 27] 27 #[v, .slice (some ⟨W.heap.size, 0, none⟩) 1 1]).run Tryd.prog (W.alloc (.cells #[.int .u8 1] 5)) = .ok v1 W2)
    (hC : CallsIn Fence.wide 8 Tryd.prog 21 #[v1, (.agg #[.int .i64 k, .int .i64 n, .int .u64 (b : Int), .string s, .slice pL nL cL, .slice pE nE cE])] W2 fun e w2 => ∃ v', e = .returned v' ∧ H w2 v')
    (hQ : ∀ w2 v', H w2 v' → Q .normal { tmps := #[v', t1, t2, t3, t4, t5, (.pointer (some ⟨Bx, 0, none⟩)), t7, t8, t9, t10, t11, t12, t13, t14, t15, t16, t17, t18, t19, t20, t21, t22, t23, t24, t25, t26, t27, t28, t29, t30, t31, t32, t33, t34, t35, t36, t37, t38, t39, t40, t41, t42, t43, t44, t45, t46, t47, t48, t49, t50, t51, t52, t53, t54, t55, v, (.slice (some ⟨W.heap.size, 0, none⟩) 1 1), v1, (.agg #[.int .i64 k, .int .i64 n, .int .u64 (b : Int), .string s, .slice pL nL cL, .slice pE nE cE]), v', t61, t62, t63, t64, t65, t66, t67, t68, t69, t70, t71, t72, t73, t74, t75, t76, t77, t78, t79, t80, t81, t82, t83, t84, t85, t86, t87, t88], defers := D } w2) :
    wpAnyIn Fence.wide 9 Tryd.prog .any ops Q 6 #[false, false, false, false, false, false] { tmps := #[v, t1, t2, t3, t4, t5, (.pointer (some ⟨Bx, 0, none⟩)), t7, t8, t9, t10, t11, t12, t13, t14, t15, t16, t17, t18, t19, t20, t21, t22, t23, t24, t25, t26, t27, t28, t29, t30, t31, t32, t33, t34, t35, t36, t37, t38, t39, t40, t41, t42, t43, t44, t45, t46, t47, t48, t49, t50, t51, t52, t53, t54, t55, t56, t57, t58, t59, t60, t61, t62, t63, t64, t65, t66, t67, t68, t69, t70, t71, t72, t73, t74, t75, t76, t77, t78, t79, t80, t81, t82, t83, t84, t85, t86, t87, t88], defers := D } W := by
  have s0123 : wpAnyIn Fence.wide 9 Tryd.prog .any ops Q 2 #[true, true, true, true, false, false] { tmps := #[v, t1, t2, t3, t4, t5, (.pointer (some ⟨Bx, 0, none⟩)), t7, t8, t9, t10, t11, t12, t13, t14, t15, t16, t17, t18, t19, t20, t21, t22, t23, t24, t25, t26, t27, t28, t29, t30, t31, t32, t33, t34, t35, t36, t37, t38, t39, t40, t41, t42, t43, t44, t45, t46, t47, t48, t49, t50, t51, t52, t53, t54, t55, v, (.slice (some ⟨W.heap.size, 0, none⟩) 1 1), v1, (.agg #[.int .i64 k, .int .i64 n, .int .u64 (b : Int), .string s, .slice pL nL cL, .slice pE nE cE]), t60, t61, t62, t63, t64, t65, t66, t67, t68, t69, t70, t71, t72, t73, t74, t75, t76, t77, t78, t79, t80, t81, t82, t83, t84, t85, t86, t87, t88], defers := D } W2 := by
    refine wpAnyIn_ready r0123 (by simp) (AllReadyIn.cons h4 (fun K hK => ?_) AllReadyIn.nil)
    go_simp
    refine ⟨trivial, hC.mono ?_⟩
    rintro e w2 ⟨v', rfl, hH⟩
    refine hK _ _ (wpAnyIn_ready r01234 (by simp) (AllReadyIn.cons h5 (fun K hK => ?_) AllReadyIn.nil))
    go_simp
    exact hK _ _ (wpAnyIn_done r012345 (hQ w2 v' hH) _)
  have s012 : wpAnyIn Fence.wide 9 Tryd.prog .any ops Q 3 #[true, true, true, false, false, false] { tmps := #[v, t1, t2, t3, t4, t5, (.pointer (some ⟨Bx, 0, none⟩)), t7, t8, t9, t10, t11, t12, t13, t14, t15, t16, t17, t18, t19, t20, t21, t22, t23, t24, t25, t26, t27, t28, t29, t30, t31, t32, t33, t34, t35, t36, t37, t38, t39, t40, t41, t42, t43, t44, t45, t46, t47, t48, t49, t50, t51, t52, t53, t54, t55, v, (.slice (some ⟨W.heap.size, 0, none⟩) 1 1), v1, t59, t60, t61, t62, t63, t64, t65, t66, t67, t68, t69, t70, t71, t72, t73, t74, t75, t76, t77, t78, t79, t80, t81, t82, t83, t84, t85, t86, t87, t88], defers := D } W2 := by
    refine wpAnyIn_ready r012 (by simp) ?_
    refine AllReadyIn.cons h3 (fun K hK => ?_) ?_
    · go_simp
      exact hK _ _ s0123
    exact AllReadyIn.nil
  have s013 : wpAnyIn Fence.wide 9 Tryd.prog .any ops Q 3 #[true, true, false, true, false, false] { tmps := #[v, t1, t2, t3, t4, t5, (.pointer (some ⟨Bx, 0, none⟩)), t7, t8, t9, t10, t11, t12, t13, t14, t15, t16, t17, t18, t19, t20, t21, t22, t23, t24, t25, t26, t27, t28, t29, t30, t31, t32, t33, t34, t35, t36, t37, t38, t39, t40, t41, t42, t43, t44, t45, t46, t47, t48, t49, t50, t51, t52, t53, t54, t55, v, (.slice (some ⟨W.heap.size, 0, none⟩) 1 1), t58, (.agg #[.int .i64 k, .int .i64 n, .int .u64 (b : Int), .string s, .slice pL nL cL, .slice pE nE cE]), t60, t61, t62, t63, t64, t65, t66, t67, t68, t69, t70, t71, t72, t73, t74, t75, t76, t77, t78, t79, t80, t81, t82, t83, t84, t85, t86, t87, t88], defers := D } (W.alloc (.cells #[.int .u8 1] 5)) := by
    refine wpAnyIn_ready r013 (by simp) ?_
    refine AllReadyIn.cons h2 (fun K hK => ?_) ?_
    · exact opWide_append' _ _ _ rfl rfl rfl rfl hr (hK _ _ s0123)
    exact AllReadyIn.nil
  have s01 : wpAnyIn Fence.wide 9 Tryd.prog .any ops Q 4 #[true, true, false, false, false, false] { tmps := #[v, t1, t2, t3, t4, t5, (.pointer (some ⟨Bx, 0, none⟩)), t7, t8, t9, t10, t11, t12, t13, t14, t15, t16, t17, t18, t19, t20, t21, t22, t23, t24, t25, t26, t27, t28, t29, t30, t31, t32, t33, t34, t35, t36, t37, t38, t39, t40, t41, t42, t43, t44, t45, t46, t47, t48, t49, t50, t51, t52, t53, t54, t55, v, (.slice (some ⟨W.heap.size, 0, none⟩) 1 1), t58, t59, t60, t61, t62, t63, t64, t65, t66, t67, t68, t69, t70, t71, t72, t73, t74, t75, t76, t77, t78, t79, t80, t81, t82, t83, t84, t85, t86, t87, t88], defers := D } (W.alloc (.cells #[.int .u8 1] 5)) := by
    refine wpAnyIn_ready r01 (by simp) ?_
    refine AllReadyIn.cons h2 (fun K hK => ?_) ?_
    · exact opWide_append' _ _ _ rfl rfl rfl rfl hr (hK _ _ s012)
    refine AllReadyIn.cons h3 (fun K hK => ?_) ?_
    · go_simp
      exact hK _ _ s013
    exact AllReadyIn.nil
  have s03 : wpAnyIn Fence.wide 9 Tryd.prog .any ops Q 4 #[true, false, false, true, false, false] { tmps := #[v, t1, t2, t3, t4, t5, (.pointer (some ⟨Bx, 0, none⟩)), t7, t8, t9, t10, t11, t12, t13, t14, t15, t16, t17, t18, t19, t20, t21, t22, t23, t24, t25, t26, t27, t28, t29, t30, t31, t32, t33, t34, t35, t36, t37, t38, t39, t40, t41, t42, t43, t44, t45, t46, t47, t48, t49, t50, t51, t52, t53, t54, t55, v, t57, t58, (.agg #[.int .i64 k, .int .i64 n, .int .u64 (b : Int), .string s, .slice pL nL cL, .slice pE nE cE]), t60, t61, t62, t63, t64, t65, t66, t67, t68, t69, t70, t71, t72, t73, t74, t75, t76, t77, t78, t79, t80, t81, t82, t83, t84, t85, t86, t87, t88], defers := D } W := by
    refine wpAnyIn_ready r03 (by simp) ?_
    refine AllReadyIn.cons h1 (fun K hK => ?_) ?_
    · go_simp
      exact hK _ _ s013
    exact AllReadyIn.nil
  have s13 : wpAnyIn Fence.wide 9 Tryd.prog .any ops Q 4 #[false, true, false, true, false, false] { tmps := #[v, t1, t2, t3, t4, t5, (.pointer (some ⟨Bx, 0, none⟩)), t7, t8, t9, t10, t11, t12, t13, t14, t15, t16, t17, t18, t19, t20, t21, t22, t23, t24, t25, t26, t27, t28, t29, t30, t31, t32, t33, t34, t35, t36, t37, t38, t39, t40, t41, t42, t43, t44, t45, t46, t47, t48, t49, t50, t51, t52, t53, t54, t55, t56, (.slice (some ⟨W.heap.size, 0, none⟩) 1 1), t58, (.agg #[.int .i64 k, .int .i64 n, .int .u64 (b : Int), .string s, .slice pL nL cL, .slice pE nE cE]), t60, t61, t62, t63, t64, t65, t66, t67, t68, t69, t70, t71, t72, t73, t74, t75, t76, t77, t78, t79, t80, t81, t82, t83, t84, t85, t86, t87, t88], defers := D } (W.alloc (.cells #[.int .u8 1] 5)) := by
    refine wpAnyIn_ready r13 (by simp) ?_
    refine AllReadyIn.cons h0 (fun K hK => ?_) ?_
    · go_simp
      exact hK _ _ s013
    exact AllReadyIn.nil
  have s0 : wpAnyIn Fence.wide 9 Tryd.prog .any ops Q 5 #[true, false, false, false, false, false] { tmps := #[v, t1, t2, t3, t4, t5, (.pointer (some ⟨Bx, 0, none⟩)), t7, t8, t9, t10, t11, t12, t13, t14, t15, t16, t17, t18, t19, t20, t21, t22, t23, t24, t25, t26, t27, t28, t29, t30, t31, t32, t33, t34, t35, t36, t37, t38, t39, t40, t41, t42, t43, t44, t45, t46, t47, t48, t49, t50, t51, t52, t53, t54, t55, v, t57, t58, t59, t60, t61, t62, t63, t64, t65, t66, t67, t68, t69, t70, t71, t72, t73, t74, t75, t76, t77, t78, t79, t80, t81, t82, t83, t84, t85, t86, t87, t88], defers := D } W := by
    refine wpAnyIn_ready r0 (by simp) ?_
    refine AllReadyIn.cons h1 (fun K hK => ?_) ?_
    · go_simp
      exact hK _ _ s01
    refine AllReadyIn.cons h3 (fun K hK => ?_) ?_
    · go_simp
      exact hK _ _ s03
    exact AllReadyIn.nil
  have s1 : wpAnyIn Fence.wide 9 Tryd.prog .any ops Q 5 #[false, true, false, false, false, false] { tmps := #[v, t1, t2, t3, t4, t5, (.pointer (some ⟨Bx, 0, none⟩)), t7, t8, t9, t10, t11, t12, t13, t14, t15, t16, t17, t18, t19, t20, t21, t22, t23, t24, t25, t26, t27, t28, t29, t30, t31, t32, t33, t34, t35, t36, t37, t38, t39, t40, t41, t42, t43, t44, t45, t46, t47, t48, t49, t50, t51, t52, t53, t54, t55, t56, (.slice (some ⟨W.heap.size, 0, none⟩) 1 1), t58, t59, t60, t61, t62, t63, t64, t65, t66, t67, t68, t69, t70, t71, t72, t73, t74, t75, t76, t77, t78, t79, t80, t81, t82, t83, t84, t85, t86, t87, t88], defers := D } (W.alloc (.cells #[.int .u8 1] 5)) := by
    refine wpAnyIn_ready r1 (by simp) ?_
    refine AllReadyIn.cons h0 (fun K hK => ?_) ?_
    · go_simp
      exact hK _ _ s01
    refine AllReadyIn.cons h3 (fun K hK => ?_) ?_
    · go_simp
      exact hK _ _ s13
    exact AllReadyIn.nil
  have s3 : wpAnyIn Fence.wide 9 Tryd.prog .any ops Q 5 #[false, false, false, true, false, false] { tmps := #[v, t1, t2, t3, t4, t5, (.pointer (some ⟨Bx, 0, none⟩)), t7, t8, t9, t10, t11, t12, t13, t14, t15, t16, t17, t18, t19, t20, t21, t22, t23, t24, t25, t26, t27, t28, t29, t30, t31, t32, t33, t34, t35, t36, t37, t38, t39, t40, t41, t42, t43, t44, t45, t46, t47, t48, t49, t50, t51, t52, t53, t54, t55, t56, t57, t58, (.agg #[.int .i64 k, .int .i64 n, .int .u64 (b : Int), .string s, .slice pL nL cL, .slice pE nE cE]), t60, t61, t62, t63, t64, t65, t66, t67, t68, t69, t70, t71, t72, t73, t74, t75, t76, t77, t78, t79, t80, t81, t82, t83, t84, t85, t86, t87, t88], defers := D } W := by
    refine wpAnyIn_ready r3 (by simp) ?_
    refine AllReadyIn.cons h0 (fun K hK => ?_) ?_
    · go_simp
      exact hK _ _ s03
    refine AllReadyIn.cons h1 (fun K hK => ?_) ?_
    · go_simp
      exact hK _ _ s13
    exact AllReadyIn.nil
  have s : wpAnyIn Fence.wide 9 Tryd.prog .any ops Q 6 #[false, false, false, false, false, false] { tmps := #[v, t1, t2, t3, t4, t5, (.pointer (some ⟨Bx, 0, none⟩)), t7, t8, t9, t10, t11, t12, t13, t14, t15, t16, t17, t18, t19, t20, t21, t22, t23, t24, t25, t26, t27, t28, t29, t30, t31, t32, t33, t34, t35, t36, t37, t38, t39, t40, t41, t42, t43, t44, t45, t46, t47, t48, t49, t50, t51, t52, t53, t54, t55, t56, t57, t58, t59, t60, t61, t62, t63, t64, t65, t66, t67, t68, t69, t70, t71, t72, t73, t74, t75, t76, t77, t78, t79, t80, t81, t82, t83, t84, t85, t86, t87, t88], defers := D } W := by
    refine wpAnyIn_ready r (by simp) ?_
    refine AllReadyIn.cons h0 (fun K hK => ?_) ?_
    · go_simp
      exact hK _ _ s0
    refine AllReadyIn.cons h1 (fun K hK => ?_) ?_
    · go_simp
      exact hK _ _ s1
    refine AllReadyIn.cons h3 (fun K hK => ?_) ?_
    · go_simp
      exact hK _ _ s3
    exact AllReadyIn.nil
  exact s

set_option maxRecDepth 100000 in
set_option maxHeartbeats 4000000 in
theorem loop6R {Q : Exit → Act → World → Prop} {ops : Array Oper} {D : List Deferred} {t1 t2 t3 t4 t5 t6 t7 t9 t10 t11 t12 t13 t14 t15 t16 t17 t18 t19 t20 t21 t22 t23 t24 t25 t26 t27 t28 t29 t30 t31 t32 t33 t34 t35 t36 t37 t38 t39 t40 t41 t42 t43 t44 t45 t46 t47 t48 t49 t50 t51 t52 t53 t54 t55 t56 t57 t58 t59 t60 t61 t62 t63 t64 t65 t66 t67 t68 t69 t70 t71 t72 t73 t74 t75 t76 t77 t78 t79 t80 t81 t82 t83 t84 t85 t86 t87 t88 v v1 : Value} {W W2 : World} {Bx : Nat} {key : ByteArray} {q0 q1 q2 q3 q4 q5 q6 : String} {f0 f1 f2 f3 f4 f5 f6 : _} (H : World → Value → Prop)
    (h0 : ops[0]? = some { dst := some 74, op := .move (.tmp 0), type := 27, pos := q0, after := f0, guard := none })
    (h1 : ops[1]? = some { dst := some 75, op := .buildSlice 27 1 #[(0, .const (.int .u8 1))], type := 27, pos := q1, after := f1, guard := none })
    (h2 : ops[2]? = some { dst := some 76, op := .call { callee := .builtin .append, args := #[.tmp 74, .tmp 75], argTypes := #[27, 27] }, type := 27, pos := q2, after := f2, guard := none })
    (h3 : ops[3]? = some { dst := some 77, op := .fieldAddr 54 (.tmp 8) 0, type := 0, pos := q3, after := f3, guard := none })
    (h4 : ops[4]? = some { dst := some 78, op := .load 9 (.tmp 77), type := 9, pos := q4, after := f4, guard := none })
    (h5 : ops[5]? = some { dst := some 79, op := .call { callee := .value (.func 36), args := #[.tmp 76, .tmp 78], argTypes := #[27, 9] }, type := 27, pos := q5, after := f5, guard := none })
    (h6 : ops[6]? = some { dst := some 0, op := .assign (.tmp 79), type := 27, pos := q6, after := f6, guard := none })
    (r0123456 : Region.ready .any ops #[true, true, true, true, true, true, true] = [])
    (r012345 : Region.ready .any ops #[true, true, true, true, true, true, false] = [6])
    (r01234 : Region.ready .any ops #[true, true, true, true, true, false, false] = [5])
    (r0123 : Region.ready .any ops #[true, true, true, true, false, false, false] = [4])
    (r0134 : Region.ready .any ops #[true, true, false, true, true, false, false] = [2])
    (r012 : Region.ready .any ops #[true, true, true, false, false, false, false] = [3])
    (r013 : Region.ready .any ops #[true, true, false, true, false, false, false] = [2, 4])
    (r034 : Region.ready .any ops #[true, false, false, true, true, false, false] = [1])
    (r134 : Region.ready .any ops #[false, true, false, true, true, false, false] = [0])
    (r01 : Region.ready .any ops #[true, true, false, false, false, false, false] = [2, 3])
    (r03 : Region.ready .any ops #[true, false, false, true, false, false, false] = [1, 4])
    (r13 : Region.ready .any ops #[false, true, false, true, false, false, false] = [0, 4])
    (r34 : Region.ready .any ops #[false, false, false, true, true, false, false] = [0, 1])
    (r0 : Region.ready .any ops #[true, false, false, false, false, false, false] = [1, 3])
    (r1 : Region.ready .any ops #[false, true, false, false, false, false, false] = [0, 3])
    (r3 : Region.ready .any ops #[false, false, false, true, false, false, false] = [0, 1, 4])
    (r : Region.ready .any ops #[false, false, false, false, false, false, false] = [0, 1, 3])
    (ca0 : W.cell? ⟨Bx, 0, none⟩ = some (.string key))
    (cb0 : (W.alloc (.cells #[.int .u8 1] 5)).cell? ⟨Bx, 0, none⟩ = some (.string key))
    (cc0 : W2.cell? ⟨Bx, 0, none⟩ = some (.string key))
    (hr : (Builtin.append_ #[27, 27] 27 #[v, .slice (some ⟨W.heap.size, 0, none⟩) 1 1]).run Tryd.prog (W.alloc (.cells #[.int .u8 1] 5)) = .ok v1 W2)
    (hC : CallsIn Fence.wide 8 Tryd.prog 36 #[v1, (.string key)] W2 fun e w2 => ∃ v', e = .returned v' ∧ H w2 v')
    (hQ : ∀ w2 v', H w2 v' → Q .normal { tmps := #[v', t1, t2, t3, t4, t5, t6, t7, (.pointer (some ⟨Bx, 0, none⟩)), t9, t10, t11, t12, t13, t14, t15, t16, t17, t18, t19, t20, t21, t22, t23, t24, t25, t26, t27, t28, t29, t30, t31, t32, t33, t34, t35, t36, t37, t38, t39, t40, t41, t42, t43, t44, t45, t46, t47, t48, t49, t50, t51, t52, t53, t54, t55, t56, t57, t58, t59, t60, t61, t62, t63, t64, t65, t66, t67, t68, t69, t70, t71, t72, t73, v, (.slice (some ⟨W.heap.size, 0, none⟩) 1 1), v1, (.pointer (some ⟨Bx, 0, none⟩)), (.string key), v', t80, t81, t82, t83, t84, t85, t86, t87, t88], defers := D } w2) :
    wpAnyIn Fence.wide 9 Tryd.prog .any ops Q 7 #[false, false, false, false, false, false, false] { tmps := #[v, t1, t2, t3, t4, t5, t6, t7, (.pointer (some ⟨Bx, 0, none⟩)), t9, t10, t11, t12, t13, t14, t15, t16, t17, t18, t19, t20, t21, t22, t23, t24, t25, t26, t27, t28, t29, t30, t31, t32, t33, t34, t35, t36, t37, t38, t39, t40, t41, t42, t43, t44, t45, t46, t47, t48, t49, t50, t51, t52, t53, t54, t55, t56, t57, t58, t59, t60, t61, t62, t63, t64, t65, t66, t67, t68, t69, t70, t71, t72, t73, t74, t75, t76, t77, t78, t79, t80, t81, t82, t83, t84, t85, t86, t87, t88], defers := D } W := by
  have s01234 : wpAnyIn Fence.wide 9 Tryd.prog .any ops Q 2 #[true, true, true, true, true, false, false] { tmps := #[v, t1, t2, t3, t4, t5, t6, t7, (.pointer (some ⟨Bx, 0, none⟩)), t9, t10, t11, t12, t13, t14, t15, t16, t17, t18, t19, t20, t21, t22, t23, t24, t25, t26, t27, t28, t29, t30, t31, t32, t33, t34, t35, t36, t37, t38, t39, t40, t41, t42, t43, t44, t45, t46, t47, t48, t49, t50, t51, t52, t53, t54, t55, t56, t57, t58, t59, t60, t61, t62, t63, t64, t65, t66, t67, t68, t69, t70, t71, t72, t73, v, (.slice (some ⟨W.heap.size, 0, none⟩) 1 1), v1, (.pointer (some ⟨Bx, 0, none⟩)), (.string key), t79, t80, t81, t82, t83, t84, t85, t86, t87, t88], defers := D } W2 := by
    refine wpAnyIn_ready r01234 (by simp) (AllReadyIn.cons h5 (fun K hK => ?_) AllReadyIn.nil)
    go_simp
    refine ⟨trivial, hC.mono ?_⟩
    rintro e w2 ⟨v', rfl, hH⟩
    refine hK _ _ (wpAnyIn_ready r012345 (by simp) (AllReadyIn.cons h6 (fun K hK => ?_) AllReadyIn.nil))
    go_simp
    exact hK _ _ (wpAnyIn_done r0123456 (hQ w2 v' hH) _)
  have s0123 : wpAnyIn Fence.wide 9 Tryd.prog .any ops Q 3 #[true, true, true, true, false, false, false] { tmps := #[v, t1, t2, t3, t4, t5, t6, t7, (.pointer (some ⟨Bx, 0, none⟩)), t9, t10, t11, t12, t13, t14, t15, t16, t17, t18, t19, t20, t21, t22, t23, t24, t25, t26, t27, t28, t29, t30, t31, t32, t33, t34, t35, t36, t37, t38, t39, t40, t41, t42, t43, t44, t45, t46, t47, t48, t49, t50, t51, t52, t53, t54, t55, t56, t57, t58, t59, t60, t61, t62, t63, t64, t65, t66, t67, t68, t69, t70, t71, t72, t73, v, (.slice (some ⟨W.heap.size, 0, none⟩) 1 1), v1, (.pointer (some ⟨Bx, 0, none⟩)), t78, t79, t80, t81, t82, t83, t84, t85, t86, t87, t88], defers := D } W2 := by
    refine wpAnyIn_ready r0123 (by simp) ?_
    refine AllReadyIn.cons h4 (fun K hK => ?_) ?_
    · go_simp
      exact hK _ _ s01234
    exact AllReadyIn.nil
  have s0134 : wpAnyIn Fence.wide 9 Tryd.prog .any ops Q 3 #[true, true, false, true, true, false, false] { tmps := #[v, t1, t2, t3, t4, t5, t6, t7, (.pointer (some ⟨Bx, 0, none⟩)), t9, t10, t11, t12, t13, t14, t15, t16, t17, t18, t19, t20, t21, t22, t23, t24, t25, t26, t27, t28, t29, t30, t31, t32, t33, t34, t35, t36, t37, t38, t39, t40, t41, t42, t43, t44, t45, t46, t47, t48, t49, t50, t51, t52, t53, t54, t55, t56, t57, t58, t59, t60, t61, t62, t63, t64, t65, t66, t67, t68, t69, t70, t71, t72, t73, v, (.slice (some ⟨W.heap.size, 0, none⟩) 1 1), t76, (.pointer (some ⟨Bx, 0, none⟩)), (.string key), t79, t80, t81, t82, t83, t84, t85, t86, t87, t88], defers := D } (W.alloc (.cells #[.int .u8 1] 5)) := by
    refine wpAnyIn_ready r0134 (by simp) ?_
    refine AllReadyIn.cons h2 (fun K hK => ?_) ?_
    · exact opWide_append' _ _ _ rfl rfl rfl rfl hr (hK _ _ s01234)
    exact AllReadyIn.nil
  have s012 : wpAnyIn Fence.wide 9 Tryd.prog .any ops Q 4 #[true, true, true, false, false, false, false] { tmps := #[v, t1, t2, t3, t4, t5, t6, t7, (.pointer (some ⟨Bx, 0, none⟩)), t9, t10, t11, t12, t13, t14, t15, t16, t17, t18, t19, t20, t21, t22, t23, t24, t25, t26, t27, t28, t29, t30, t31, t32, t33, t34, t35, t36, t37, t38, t39, t40, t41, t42, t43, t44, t45, t46, t47, t48, t49, t50, t51, t52, t53, t54, t55, t56, t57, t58, t59, t60, t61, t62, t63, t64, t65, t66, t67, t68, t69, t70, t71, t72, t73, v, (.slice (some ⟨W.heap.size, 0, none⟩) 1 1), v1, t77, t78, t79, t80, t81, t82, t83, t84, t85, t86, t87, t88], defers := D } W2 := by
    refine wpAnyIn_ready r012 (by simp) ?_
    refine AllReadyIn.cons h3 (fun K hK => ?_) ?_
    · go_simp
      exact hK _ _ s0123
    exact AllReadyIn.nil
  have s013 : wpAnyIn Fence.wide 9 Tryd.prog .any ops Q 4 #[true, true, false, true, false, false, false] { tmps := #[v, t1, t2, t3, t4, t5, t6, t7, (.pointer (some ⟨Bx, 0, none⟩)), t9, t10, t11, t12, t13, t14, t15, t16, t17, t18, t19, t20, t21, t22, t23, t24, t25, t26, t27, t28, t29, t30, t31, t32, t33, t34, t35, t36, t37, t38, t39, t40, t41, t42, t43, t44, t45, t46, t47, t48, t49, t50, t51, t52, t53, t54, t55, t56, t57, t58, t59, t60, t61, t62, t63, t64, t65, t66, t67, t68, t69, t70, t71, t72, t73, v, (.slice (some ⟨W.heap.size, 0, none⟩) 1 1), t76, (.pointer (some ⟨Bx, 0, none⟩)), t78, t79, t80, t81, t82, t83, t84, t85, t86, t87, t88], defers := D } (W.alloc (.cells #[.int .u8 1] 5)) := by
    refine wpAnyIn_ready r013 (by simp) ?_
    refine AllReadyIn.cons h2 (fun K hK => ?_) ?_
    · exact opWide_append' _ _ _ rfl rfl rfl rfl hr (hK _ _ s0123)
    refine AllReadyIn.cons h4 (fun K hK => ?_) ?_
    · go_simp
      exact hK _ _ s0134
    exact AllReadyIn.nil
  have s034 : wpAnyIn Fence.wide 9 Tryd.prog .any ops Q 4 #[true, false, false, true, true, false, false] { tmps := #[v, t1, t2, t3, t4, t5, t6, t7, (.pointer (some ⟨Bx, 0, none⟩)), t9, t10, t11, t12, t13, t14, t15, t16, t17, t18, t19, t20, t21, t22, t23, t24, t25, t26, t27, t28, t29, t30, t31, t32, t33, t34, t35, t36, t37, t38, t39, t40, t41, t42, t43, t44, t45, t46, t47, t48, t49, t50, t51, t52, t53, t54, t55, t56, t57, t58, t59, t60, t61, t62, t63, t64, t65, t66, t67, t68, t69, t70, t71, t72, t73, v, t75, t76, (.pointer (some ⟨Bx, 0, none⟩)), (.string key), t79, t80, t81, t82, t83, t84, t85, t86, t87, t88], defers := D } W := by
    refine wpAnyIn_ready r034 (by simp) ?_
    refine AllReadyIn.cons h1 (fun K hK => ?_) ?_
    · go_simp
      exact hK _ _ s0134
    exact AllReadyIn.nil
  have s134 : wpAnyIn Fence.wide 9 Tryd.prog .any ops Q 4 #[false, true, false, true, true, false, false] { tmps := #[v, t1, t2, t3, t4, t5, t6, t7, (.pointer (some ⟨Bx, 0, none⟩)), t9, t10, t11, t12, t13, t14, t15, t16, t17, t18, t19, t20, t21, t22, t23, t24, t25, t26, t27, t28, t29, t30, t31, t32, t33, t34, t35, t36, t37, t38, t39, t40, t41, t42, t43, t44, t45, t46, t47, t48, t49, t50, t51, t52, t53, t54, t55, t56, t57, t58, t59, t60, t61, t62, t63, t64, t65, t66, t67, t68, t69, t70, t71, t72, t73, t74, (.slice (some ⟨W.heap.size, 0, none⟩) 1 1), t76, (.pointer (some ⟨Bx, 0, none⟩)), (.string key), t79, t80, t81, t82, t83, t84, t85, t86, t87, t88], defers := D } (W.alloc (.cells #[.int .u8 1] 5)) := by
    refine wpAnyIn_ready r134 (by simp) ?_
    refine AllReadyIn.cons h0 (fun K hK => ?_) ?_
    · go_simp
      exact hK _ _ s0134
    exact AllReadyIn.nil
  have s01 : wpAnyIn Fence.wide 9 Tryd.prog .any ops Q 5 #[true, true, false, false, false, false, false] { tmps := #[v, t1, t2, t3, t4, t5, t6, t7, (.pointer (some ⟨Bx, 0, none⟩)), t9, t10, t11, t12, t13, t14, t15, t16, t17, t18, t19, t20, t21, t22, t23, t24, t25, t26, t27, t28, t29, t30, t31, t32, t33, t34, t35, t36, t37, t38, t39, t40, t41, t42, t43, t44, t45, t46, t47, t48, t49, t50, t51, t52, t53, t54, t55, t56, t57, t58, t59, t60, t61, t62, t63, t64, t65, t66, t67, t68, t69, t70, t71, t72, t73, v, (.slice (some ⟨W.heap.size, 0, none⟩) 1 1), t76, t77, t78, t79, t80, t81, t82, t83, t84, t85, t86, t87, t88], defers := D } (W.alloc (.cells #[.int .u8 1] 5)) := by
    refine wpAnyIn_ready r01 (by simp) ?_
    refine AllReadyIn.cons h2 (fun K hK => ?_) ?_
    · exact opWide_append' _ _ _ rfl rfl rfl rfl hr (hK _ _ s012)
    refine AllReadyIn.cons h3 (fun K hK => ?_) ?_
    · go_simp
      exact hK _ _ s013
    exact AllReadyIn.nil
  have s03 : wpAnyIn Fence.wide 9 Tryd.prog .any ops Q 5 #[true, false, false, true, false, false, false] { tmps := #[v, t1, t2, t3, t4, t5, t6, t7, (.pointer (some ⟨Bx, 0, none⟩)), t9, t10, t11, t12, t13, t14, t15, t16, t17, t18, t19, t20, t21, t22, t23, t24, t25, t26, t27, t28, t29, t30, t31, t32, t33, t34, t35, t36, t37, t38, t39, t40, t41, t42, t43, t44, t45, t46, t47, t48, t49, t50, t51, t52, t53, t54, t55, t56, t57, t58, t59, t60, t61, t62, t63, t64, t65, t66, t67, t68, t69, t70, t71, t72, t73, v, t75, t76, (.pointer (some ⟨Bx, 0, none⟩)), t78, t79, t80, t81, t82, t83, t84, t85, t86, t87, t88], defers := D } W := by
    refine wpAnyIn_ready r03 (by simp) ?_
    refine AllReadyIn.cons h1 (fun K hK => ?_) ?_
    · go_simp
      exact hK _ _ s013
    refine AllReadyIn.cons h4 (fun K hK => ?_) ?_
    · go_simp
      exact hK _ _ s034
    exact AllReadyIn.nil
  have s13 : wpAnyIn Fence.wide 9 Tryd.prog .any ops Q 5 #[false, true, false, true, false, false, false] { tmps := #[v, t1, t2, t3, t4, t5, t6, t7, (.pointer (some ⟨Bx, 0, none⟩)), t9, t10, t11, t12, t13, t14, t15, t16, t17, t18, t19, t20, t21, t22, t23, t24, t25, t26, t27, t28, t29, t30, t31, t32, t33, t34, t35, t36, t37, t38, t39, t40, t41, t42, t43, t44, t45, t46, t47, t48, t49, t50, t51, t52, t53, t54, t55, t56, t57, t58, t59, t60, t61, t62, t63, t64, t65, t66, t67, t68, t69, t70, t71, t72, t73, t74, (.slice (some ⟨W.heap.size, 0, none⟩) 1 1), t76, (.pointer (some ⟨Bx, 0, none⟩)), t78, t79, t80, t81, t82, t83, t84, t85, t86, t87, t88], defers := D } (W.alloc (.cells #[.int .u8 1] 5)) := by
    refine wpAnyIn_ready r13 (by simp) ?_
    refine AllReadyIn.cons h0 (fun K hK => ?_) ?_
    · go_simp
      exact hK _ _ s013
    refine AllReadyIn.cons h4 (fun K hK => ?_) ?_
    · go_simp
      exact hK _ _ s134
    exact AllReadyIn.nil
  have s34 : wpAnyIn Fence.wide 9 Tryd.prog .any ops Q 5 #[false, false, false, true, true, false, false] { tmps := #[v, t1, t2, t3, t4, t5, t6, t7, (.pointer (some ⟨Bx, 0, none⟩)), t9, t10, t11, t12, t13, t14, t15, t16, t17, t18, t19, t20, t21, t22, t23, t24, t25, t26, t27, t28, t29, t30, t31, t32, t33, t34, t35, t36, t37, t38, t39, t40, t41, t42, t43, t44, t45, t46, t47, t48, t49, t50, t51, t52, t53, t54, t55, t56, t57, t58, t59, t60, t61, t62, t63, t64, t65, t66, t67, t68, t69, t70, t71, t72, t73, t74, t75, t76, (.pointer (some ⟨Bx, 0, none⟩)), (.string key), t79, t80, t81, t82, t83, t84, t85, t86, t87, t88], defers := D } W := by
    refine wpAnyIn_ready r34 (by simp) ?_
    refine AllReadyIn.cons h0 (fun K hK => ?_) ?_
    · go_simp
      exact hK _ _ s034
    refine AllReadyIn.cons h1 (fun K hK => ?_) ?_
    · go_simp
      exact hK _ _ s134
    exact AllReadyIn.nil
  have s0 : wpAnyIn Fence.wide 9 Tryd.prog .any ops Q 6 #[true, false, false, false, false, false, false] { tmps := #[v, t1, t2, t3, t4, t5, t6, t7, (.pointer (some ⟨Bx, 0, none⟩)), t9, t10, t11, t12, t13, t14, t15, t16, t17, t18, t19, t20, t21, t22, t23, t24, t25, t26, t27, t28, t29, t30, t31, t32, t33, t34, t35, t36, t37, t38, t39, t40, t41, t42, t43, t44, t45, t46, t47, t48, t49, t50, t51, t52, t53, t54, t55, t56, t57, t58, t59, t60, t61, t62, t63, t64, t65, t66, t67, t68, t69, t70, t71, t72, t73, v, t75, t76, t77, t78, t79, t80, t81, t82, t83, t84, t85, t86, t87, t88], defers := D } W := by
    refine wpAnyIn_ready r0 (by simp) ?_
    refine AllReadyIn.cons h1 (fun K hK => ?_) ?_
    · go_simp
      exact hK _ _ s01
    refine AllReadyIn.cons h3 (fun K hK => ?_) ?_
    · go_simp
      exact hK _ _ s03
    exact AllReadyIn.nil
  have s1 : wpAnyIn Fence.wide 9 Tryd.prog .any ops Q 6 #[false, true, false, false, false, false, false] { tmps := #[v, t1, t2, t3, t4, t5, t6, t7, (.pointer (some ⟨Bx, 0, none⟩)), t9, t10, t11, t12, t13, t14, t15, t16, t17, t18, t19, t20, t21, t22, t23, t24, t25, t26, t27, t28, t29, t30, t31, t32, t33, t34, t35, t36, t37, t38, t39, t40, t41, t42, t43, t44, t45, t46, t47, t48, t49, t50, t51, t52, t53, t54, t55, t56, t57, t58, t59, t60, t61, t62, t63, t64, t65, t66, t67, t68, t69, t70, t71, t72, t73, t74, (.slice (some ⟨W.heap.size, 0, none⟩) 1 1), t76, t77, t78, t79, t80, t81, t82, t83, t84, t85, t86, t87, t88], defers := D } (W.alloc (.cells #[.int .u8 1] 5)) := by
    refine wpAnyIn_ready r1 (by simp) ?_
    refine AllReadyIn.cons h0 (fun K hK => ?_) ?_
    · go_simp
      exact hK _ _ s01
    refine AllReadyIn.cons h3 (fun K hK => ?_) ?_
    · go_simp
      exact hK _ _ s13
    exact AllReadyIn.nil
  have s3 : wpAnyIn Fence.wide 9 Tryd.prog .any ops Q 6 #[false, false, false, true, false, false, false] { tmps := #[v, t1, t2, t3, t4, t5, t6, t7, (.pointer (some ⟨Bx, 0, none⟩)), t9, t10, t11, t12, t13, t14, t15, t16, t17, t18, t19, t20, t21, t22, t23, t24, t25, t26, t27, t28, t29, t30, t31, t32, t33, t34, t35, t36, t37, t38, t39, t40, t41, t42, t43, t44, t45, t46, t47, t48, t49, t50, t51, t52, t53, t54, t55, t56, t57, t58, t59, t60, t61, t62, t63, t64, t65, t66, t67, t68, t69, t70, t71, t72, t73, t74, t75, t76, (.pointer (some ⟨Bx, 0, none⟩)), t78, t79, t80, t81, t82, t83, t84, t85, t86, t87, t88], defers := D } W := by
    refine wpAnyIn_ready r3 (by simp) ?_
    refine AllReadyIn.cons h0 (fun K hK => ?_) ?_
    · go_simp
      exact hK _ _ s03
    refine AllReadyIn.cons h1 (fun K hK => ?_) ?_
    · go_simp
      exact hK _ _ s13
    refine AllReadyIn.cons h4 (fun K hK => ?_) ?_
    · go_simp
      exact hK _ _ s34
    exact AllReadyIn.nil
  have s : wpAnyIn Fence.wide 9 Tryd.prog .any ops Q 7 #[false, false, false, false, false, false, false] { tmps := #[v, t1, t2, t3, t4, t5, t6, t7, (.pointer (some ⟨Bx, 0, none⟩)), t9, t10, t11, t12, t13, t14, t15, t16, t17, t18, t19, t20, t21, t22, t23, t24, t25, t26, t27, t28, t29, t30, t31, t32, t33, t34, t35, t36, t37, t38, t39, t40, t41, t42, t43, t44, t45, t46, t47, t48, t49, t50, t51, t52, t53, t54, t55, t56, t57, t58, t59, t60, t61, t62, t63, t64, t65, t66, t67, t68, t69, t70, t71, t72, t73, t74, t75, t76, t77, t78, t79, t80, t81, t82, t83, t84, t85, t86, t87, t88], defers := D } W := by
    refine wpAnyIn_ready r (by simp) ?_
    refine AllReadyIn.cons h0 (fun K hK => ?_) ?_
    · go_simp
      exact hK _ _ s0
    refine AllReadyIn.cons h1 (fun K hK => ?_) ?_
    · go_simp
      exact hK _ _ s1
    refine AllReadyIn.cons h3 (fun K hK => ?_) ?_
    · go_simp
      exact hK _ _ s3
    exact AllReadyIn.nil
  exact s

end Go.Proofs.YtdpoiagnjdajbaaDoor.valus
/- Lists as bytes. -/
set_option linter.unusedVariables false
namespace Go.Proofs.YtdpoiagnjdajbaaDoor.valus
open Go.RowKit Go.Shelf

def preL (e : V → List UInt8) (L : List V) : List UInt8 := L.flatMap fun y => 1 :: e y
theorem listL_pre (e : V → List UInt8) : ∀ L : List V, listL e L = preL e L ++ [0]
  | [] => rfl
  | x :: r => by
    show 1 :: (e x ++ listL e r) = (1 :: e x ++ preL e r) ++ [0]
    rw [listL_pre e r]
    simp
theorem preL_succ {e : V → List UInt8} {L : List V} {j : Nat} {y : V} (h : L[j]? = some y) : preL e (L.take (j + 1)) = preL e (L.take j) ++ (1 :: e y) := by
  unfold preL
  rw [List.take_add_one, h, List.flatMap_append]
  simp
theorem preL_len {e : V → List UInt8} {c : V → Nat} : ∀ L : List V, (∀ x ∈ L, (e x).length + 1 ≤ 10000 * c x) → (preL e L).length ≤ 10000 * sumOf c L
  | [], _ => Nat.zero_le _
  | x :: r, h => by
    have h1 := h x (by simp)
    have h2 := preL_len (c := c) r (fun y hy => h y (by simp [hy]))
    have e2 : sumOf c (x :: r) = c x + sumOf c r := rfl
    show (1 :: e x ++ preL e r).length ≤ _
    rw [List.length_append, e2, List.length_cons]
    omega
theorem sumOf_at {c : V → Nat} {L : List V} {j : Nat} {y : V} (h : L[j]? = some y) : sumOf c (L.take j) + c y ≤ sumOf c L := by
  obtain ⟨hlt, he⟩ := List.getElem?_eq_some_iff.1 h
  have e1 : L = L.take j ++ L.drop j := (List.take_append_drop j L).symm
  have e2 : sumOf c L = sumOf c (L.take j) + sumOf c (L.drop j) := by rw [← sumOf_append, ← e1]
  rw [List.drop_eq_getElem_cons hlt, he] at e2
  have e3 : sumOf c (y :: L.drop (j + 1)) = c y + sumOf c (L.drop (j + 1)) := rfl
  omega
set_option maxHeartbeats 8000000 in
set_option maxRecDepth 100000 in
theorem val5_any (f n0 : Nat) (w : World) (v : Value) (l : List UInt8) (ok : Nat → Prop) (n : Int) (b : Nat) (s : ByteArray) (pL pE : Option Addr) (L : List V) (cL nE cE : Nat) (m : Int) (hok : ∀ b, ok b → b < n0) (rL : RowIn ok w pL 6 L.length (fun j us => ∃ y, L[j]? = some y ∧ LiesV ok f w us y)) (hcl : L.length ≤ cL ∧ cL ≤ maxLen) (hO : OwnB n0 w v l) (hn0 : n0 ≤ w.heap.size) (hG : 0 < n0) (hm : w.cell? ⟨0, 0, none⟩ = some (.int .i64 m))
    (ih : ∀ y, y ∈ L → AppV f y) (hgd : ∀ y, y ∈ L → (encV f y).length + 1000 ≤ 10000 * nodesV f y) (hlen : l.length + 10000 * sumOf (nodesV f) L + 10000 ≤ 700000000) :
    Calls Tryd.prog 21 #[v, .agg #[.int .i64 5, .int .i64 n, .int .u64 (b : Int), .string s, .slice pL L.length cL, .slice pE nE cE]] w fun e w' => ∃ v', e = .returned v' ∧ OwnB n0 w' v' (l ++ (6 :: listL (encV f) L)) ∧ Grew w w' v v' := by
  obtain ⟨v1, W2, hr, ho, hg, hbk, hlt, hne⟩ := begin_any n0 w v l hO hn0 #[.int .i64 5, .int .i64 n, .int .u64 (b : Int), .string s, .slice pL L.length cL, .slice pE nE cE] 6 (by omega)
  have hc : cellB 6 = .int .u8 6 := rfl
  rw [hc] at hr
  have c0 := hbk.cell 0 _ rfl
  have c4 := hbk.cell 4 _ rfl
  have hn63 : L.length ≤ 9223372036854775807 := by have := hcl.2; unfold maxLen at this; omega
  have HG0 := hide hg
  have HO0 := hide ho
  have HO := hide hO
  have plen : ∀ j, (preL (encV f) (L.take j)).length ≤ 10000 * sumOf (nodesV f) (L.take j) := fun j => preL_len _ (fun x hx => by have := hgd x (List.mem_of_mem_take hx); omega)
  have HP := hide plen
  clear ho hg hbk hO plen
  go_enter Tryd.func21, Tryd.ntmps21
  go_wp2_with (at_builtin; refine Lib.wpList_append_run _ rfl _ _ _ _ rfl _ _ rfl rfl _ _ hr ?_)
  go_loopw [0, 52] (fun u i wr => ∃ j : Nat, i = .int .i64 j ∧ j ≤ L.length ∧ Hid (OwnB n0 wr u (l ++ (6 :: preL (encV f) (L.take j)))) ∧ Hid (Grew w wr v u)) (fun _ i _ => L.length - (intOf i).toNat)
  case atStart => exact ⟨0, rfl, Nat.zero_le _, HO0, HG0⟩
  case round =>
    obtain ⟨j, rfl, hj, hO', hG'⟩ := hrel
    have hbw := hG'.out.old HO.out hn0
    have hws := hbw.size
    by_cases hlt' : j < L.length
    · obtain ⟨B, o, rfl, hBok, hBl, x0, x1, x2, x3, x4, x5, ⟨y, hy, hly⟩, k0, k1, k2, k3, k4, k5⟩ := rL.six hlt'
      have hyL : y ∈ L := List.mem_iff_getElem?.2 ⟨j, hy⟩
      obtain ⟨yk, yn, yb, ys, ypL, ynL, ycL, ypE, ynE, ycE, rfl, rfl, rfl, rfl, rfl, rfl⟩ := hly.form
      have hBn := hok B hBok
      have r0 := (hbw.cell (p := ⟨B, o + j * 6, none⟩) hBn).trans k0
      have r1 := (hbw.cell (p := ⟨B, o + j * 6 + 1, none⟩) hBn).trans k1
      have r2 := (hbw.cell (p := ⟨B, o + j * 6 + 2, none⟩) hBn).trans k2
      have r3 := (hbw.cell (p := ⟨B, o + j * 6 + 3, none⟩) hBn).trans k3
      have r4 := (hbw.cell (p := ⟨B, o + j * 6 + 4, none⟩) hBn).trans k4
      have r5 := (hbw.cell (p := ⟨B, o + j * 6 + 5, none⟩) hBn).trans k5
      clear k0 k1 k2 k3 k4 k5
      obtain ⟨A, hA⟩ : ∃ A, A = wr.alloc (.cells #[.int .i64 yk, .int .i64 yn, .int .u64 (yb : Int), .string ys, .slice ypL ynL ycL, .slice ypE ynE ycE] 26) := ⟨_, rfl⟩
      have bA : Below wr.heap.size wr A.drew := by rw [hA]; exact ((Below.refl _ wr).alloc (Nat.le_refl _) _).drew
      have sA : A.heap.size = wr.heap.size + 1 := by rw [hA]; simp
      have hblk : Blk A.drew wr.heap.size #[.int .i64 yk, .int .i64 yn, .int .u64 (yb : Int), .string ys, .slice ypL ynL ycL, .slice ypE ynE ycE] 26 := by rw [hA]; exact blk_alloc wr _ _
      have hl5 := HP.out j
      have hs5 := sumOf_at (c := nodesV f) hy
      have hg5 := hgd y hyL
      obtain ⟨v2, W3, hr2, ho2, hg2⟩ := push_one (hO'.out.later bA) (by have := bA.size; omega) 1 (by simp only [List.length_append, List.length_cons]; omega) 27
      have hc1 : cellB 1 = .int .u8 1 := rfl
      rw [hc1] at hr2
      have hgA : Grew w A.drew v u0 := hG'.out.trans (Grew.below bA _)
      have hg3 : Grew w W3 v v2 := hgA.trans hg2
      have hneB : some wr.heap.size ≠ Value.ownBlock u0 := fun e => by have := (hO'.out.lt _ e.symm).2; omega
      have hblk3 : Blk W3 wr.heap.size #[.int .i64 yk, .int .i64 yn, .int .u64 (yb : Int), .string ys, .slice ypL ynL ycL, .slice ypE ynE ycE] 26 := ((hg2.block (b := wr.heap.size) (by show _ < A.heap.size; omega) hneB).1).trans hblk
      have hblk2 : Blk (A.drew.alloc (.cells #[.int .u8 1] 5)) wr.heap.size #[.int .i64 yk, .int .i64 yn, .int .u64 (yb : Int), .string ys, .slice ypL ynL ycL, .slice ypE ynE ycE] 26 := hblk.alloc _
      have hb3 := hg3.old HO.out hn0
      have C := ih y hyL n0 W3 v2 _ ok _ _ _ _ _ _ m hok (hly.kept (fun _ h => h) hb3.size (fun b hb _ => hb3.block b (hok b hb))) ho2 (Nat.le_trans hn0 hb3.size) hG ((hb3.cell (p := ⟨0, 0, none⟩) hG).trans hm) (by simp only [List.length_append, List.length_cons, List.length_nil]; omega)
      have hst : (l ++ 6 :: preL (encV f) (L.take j) ++ [1]) ++ encV f y = l ++ (6 :: preL (encV f) (L.take (j + 1))) := by rw [preL_succ hy]; simp
      have HC := hide C
      have HG3 := hide hg3
      have HS := hide hst
      have HA := hide hA
      clear C hg3 hst ho2 hg2 hgA hb3 hl5 hs5 hg5 hly hA
      go_wp2
      rw [← HA.out]
      refine wpIn_wide.1 (wpIn_region_any (n := 9) (by kernel_rfl) (loop5R (fun w4 v4 => OwnB n0 w4 v4 (l ++ (6 :: preL (encV f) (L.take (j + 1)))) ∧ Grew w w4 v v4) rfl rfl rfl rfl rfl rfl (by kernel_rfl) (by kernel_rfl) (by kernel_rfl) (by kernel_rfl) (by kernel_rfl) (by kernel_rfl) (by kernel_rfl) (by kernel_rfl) (by kernel_rfl) (by kernel_rfl) (by kernel_rfl) (by kernel_rfl) (hblk.cell 0 _ rfl) (hblk.cell 1 _ rfl) (hblk.cell 2 _ rfl) (hblk.cell 3 _ rfl) (hblk.cell 4 _ rfl) (hblk.cell 5 _ rfl) (hblk2.cell 0 _ rfl) (hblk2.cell 1 _ rfl) (hblk2.cell 2 _ rfl) (hblk2.cell 3 _ rfl) (hblk2.cell 4 _ rfl) (hblk2.cell 5 _ rfl) (hblk3.cell 0 _ rfl) (hblk3.cell 1 _ rfl) (hblk3.cell 2 _ rfl) (hblk3.cell 3 _ rfl) (hblk3.cell 4 _ rfl) (hblk3.cell 5 _ rfl) hr2 ?holeC ?holeQ))
      case holeC =>
        refine (callsIn_wide.2 HC.out).mono ?_
        rintro e w4 ⟨v4, rfl, ho4, hg4⟩
        exact ⟨v4, rfl, by rw [← HS.out]; exact ho4, HG3.out.trans hg4⟩
      case holeQ =>
        rintro w4 v4 ⟨ho4, hg4⟩
        have HO4 := hide ho4
        have HG4 := hide hg4
        clear ho4 hg4
        go_wp2
        go_roundw
        case rel => exact ⟨j + 1, by congr 1, by omega, HO4, HG4⟩
        case measure => simp only [intOf]; omega
    · have g0 : ¬ (j : Int) < (L.length : Int) := by omega
      have hjL : j = L.length := by omega
      have hl5 := HP.out j
      have hs5 : sumOf (nodesV f) (L.take j) ≤ sumOf (nodesV f) L := by rw [hjL, List.take_length]; exact Nat.le_refl _
      obtain ⟨v2, W3, hr2, ho2, hg2⟩ := push_one hO'.out (by omega) 0 (by simp only [List.length_append, List.length_cons]; omega) 27
      have hc1 : cellB 0 = .int .u8 0 := rfl
      rw [hc1] at hr2
      have hfin : OwnB n0 W3 v2 (l ++ (6 :: listL (encV f) L)) := by
        rw [hjL, List.take_length] at ho2
        rw [listL_pre]
        simpa using ho2
      have HO4 := hide hfin
      have HG4 := hide (hG'.out.trans hg2)
      clear hfin ho2 hg2 hl5 hs5 hjL hc1
      go_wp2_with (at_builtin; refine Lib.wpList_append_run _ rfl _ _ _ _ rfl _ _ rfl rfl _ _ hr2 ?_)
      go_ret
      exact ⟨v2, rfl, HO4.out, HG4.out⟩
end Go.Proofs.YtdpoiagnjdajbaaDoor.valus
/- Tables as bytes. -/
set_option linter.unusedVariables false
namespace Go.Proofs.YtdpoiagnjdajbaaDoor.valus
open Go.RowKit Go.Shelf

def preE (e : V → List UInt8) (E : List V) : List UInt8 := E.flatMap fun x => 1 :: (chainL (opnE x).1 ++ e (opnE x).2)
theorem tabL_pre (e : V → List UInt8) : ∀ E : List V, tabL e E = preE e E ++ [0]
  | [] => rfl
  | x :: r => by
    show 1 :: (chainL (opnE x).1 ++ (e (opnE x).2 ++ tabL e r)) = (1 :: (chainL (opnE x).1 ++ e (opnE x).2) ++ preE e r) ++ [0]
    rw [tabL_pre e r]
    simp
theorem preE_succ {e : V → List UInt8} {E : List V} {j : Nat} {x : V} (h : E[j]? = some x) : preE e (E.take (j + 1)) = preE e (E.take j) ++ (1 :: (chainL (opnE x).1 ++ e (opnE x).2)) := by
  unfold preE
  rw [List.take_add_one, h, List.flatMap_append]
  simp
theorem preE_len {e : V → List UInt8} {c : V → Nat} : ∀ E : List V, (∀ x ∈ E, (opnE x).1.length ≤ 100 ∧ (e (opnE x).2).length + 1000 ≤ 10000 * c (opnE x).2) → (preE e E).length ≤ 10000 * sumOf c (E.map fun x => (opnE x).2)
  | [], _ => Nat.zero_le _
  | x :: r, h => by
    obtain ⟨h0, h1⟩ := h x (by simp)
    have h2 := preE_len (c := c) r (fun y hy => h y (by simp [hy]))
    have h3 := chainL_len (opnE x).1
    have e2 : sumOf c ((x :: r).map fun x => (opnE x).2) = c (opnE x).2 + sumOf c (r.map fun x => (opnE x).2) := rfl
    show (1 :: (chainL (opnE x).1 ++ e (opnE x).2) ++ preE e r).length ≤ _
    rw [List.length_append, e2, List.length_cons, List.length_append]
    omega
set_option maxHeartbeats 8000000 in
set_option maxRecDepth 100000 in
theorem val6_any (f n0 : Nat) (w : World) (v : Value) (l : List UInt8) (ok : Nat → Prop) (n : Int) (b : Nat) (s : ByteArray) (pL pE : Option Addr) (E : List V) (nL cL cE : Nat) (m : Int) (hok : ∀ b, ok b → b < n0) (rE : RowIn ok w pE 7 E.length (fun j us => ∃ (key : ByteArray) (y : V) (xs : List Value), E[j]? = some (ent key.data.toList y) ∧ us = .string key :: xs ∧ key.size ≤ maxLen ∧ LiesV ok f w xs y)) (hcl : E.length ≤ cE ∧ cE ≤ maxLen) (hO : OwnB n0 w v l) (hn0 : n0 ≤ w.heap.size) (hG : 0 < n0) (hm : w.cell? ⟨0, 0, none⟩ = some (.int .i64 m))
    (ih : ∀ x, x ∈ E → AppV f (opnE x).2) (hgd : ∀ x, x ∈ E → (opnE x).1.length ≤ 100 ∧ (encV f (opnE x).2).length + 1000 ≤ 10000 * nodesV f (opnE x).2) (hlen : l.length + 10000 * sumOf (nodesV f) (E.map fun x => (opnE x).2) + 10000 ≤ 700000000) :
    Calls Tryd.prog 21 #[v, .agg #[.int .i64 6, .int .i64 n, .int .u64 (b : Int), .string s, .slice pL nL cL, .slice pE E.length cE]] w fun e w' => ∃ v', e = .returned v' ∧ OwnB n0 w' v' (l ++ (7 :: tabL (encV f) E)) ∧ Grew w w' v v' := by
  obtain ⟨v1, W2, hr, ho, hg, hbk, hlt, hne⟩ := begin_any n0 w v l hO hn0 #[.int .i64 6, .int .i64 n, .int .u64 (b : Int), .string s, .slice pL nL cL, .slice pE E.length cE] 7 (by omega)
  have hc : cellB 7 = .int .u8 7 := rfl
  rw [hc] at hr
  have c0 := hbk.cell 0 _ rfl
  have c5 := hbk.cell 5 _ rfl
  have hn63 : E.length ≤ 9223372036854775807 := by have := hcl.2; unfold maxLen at this; omega
  have HG0 := hide hg
  have HO0 := hide ho
  have HO := hide hO
  have plen : ∀ j, (preE (encV f) (E.take j)).length ≤ 10000 * sumOf (nodesV f) ((E.take j).map fun x => (opnE x).2) := fun j => preE_len _ (fun x hx => hgd x (List.mem_of_mem_take hx))
  have HP := hide plen
  clear ho hg hbk hO plen
  go_enter Tryd.func21, Tryd.ntmps21
  go_wp2_with (at_builtin; refine Lib.wpList_append_run _ rfl _ _ _ _ rfl _ _ rfl rfl _ _ hr ?_)
  go_loopw [0, 70] (fun u i wr => ∃ j : Nat, i = .int .i64 j ∧ j ≤ E.length ∧ Hid (OwnB n0 wr u (l ++ (7 :: preE (encV f) (E.take j)))) ∧ Hid (Grew w wr v u)) (fun _ i _ => E.length - (intOf i).toNat)
  case atStart => exact ⟨0, rfl, Nat.zero_le _, HO0, HG0⟩
  case round =>
    obtain ⟨j, rfl, hj, hO', hG'⟩ := hrel
    have hbw := hG'.out.old HO.out hn0
    have hws := hbw.size
    by_cases hlt' : j < E.length
    · obtain ⟨B, o, rfl, hBok, hBl, x0, x1, x2, x3, x4, x5, x6, ⟨key, y, xs, hy, hus, hks, hly⟩, k0, k1, k2, k3, k4, k5, k6⟩ := rE.seven hlt'
      cases hus
      have hyE : ent key.data.toList y ∈ E := List.mem_iff_getElem?.2 ⟨j, hy⟩
      obtain ⟨yk, yn, yb, ys, ypL, ynL, ycL, ypE, ynE, ycE, rfl, rfl, rfl, rfl, rfl, rfl⟩ := hly.form
      have hBn := hok B hBok
      have r0 := (hbw.cell (p := ⟨B, o + j * 7, none⟩) hBn).trans k0
      have r1 := (hbw.cell (p := ⟨B, o + j * 7 + 1, none⟩) hBn).trans k1
      have r2 := (hbw.cell (p := ⟨B, o + j * 7 + 2, none⟩) hBn).trans k2
      have r3 := (hbw.cell (p := ⟨B, o + j * 7 + 3, none⟩) hBn).trans k3
      have r4 := (hbw.cell (p := ⟨B, o + j * 7 + 4, none⟩) hBn).trans k4
      have r5 := (hbw.cell (p := ⟨B, o + j * 7 + 5, none⟩) hBn).trans k5
      have r6 := (hbw.cell (p := ⟨B, o + j * 7 + 6, none⟩) hBn).trans k6
      clear k0 k1 k2 k3 k4 k5 k6
      obtain ⟨A, hA⟩ : ∃ A, A = wr.alloc (.cells #[.string key, .int .i64 yk, .int .i64 yn, .int .u64 (yb : Int), .string ys, .slice ypL ynL ycL, .slice ypE ynE ycE] 54) := ⟨_, rfl⟩
      have bA : Below wr.heap.size wr A.drew := by rw [hA]; exact ((Below.refl _ wr).alloc (Nat.le_refl _) _).drew
      have sA : A.heap.size = wr.heap.size + 1 := by rw [hA]; simp
      have hblk : Blk A.drew wr.heap.size #[.string key, .int .i64 yk, .int .i64 yn, .int .u64 (yb : Int), .string ys, .slice ypL ynL ycL, .slice ypE ynE ycE] 54 := by rw [hA]; exact blk_alloc wr _ _
      have hl5 := HP.out j
      have hs5 := sumOf_at (c := nodesV f) (L := E.map fun x => (opnE x).2) (j := j) (y := y) (by rw [List.getElem?_map, hy]; rfl)
      rw [← List.map_take] at hs5
      obtain ⟨hk5, hg5⟩ := hgd _ hyE
      rw [opnE_ent] at hk5 hg5
      replace hk5 : key.data.toList.length ≤ 100 := hk5
      replace hg5 : (encV f y).length + 1000 ≤ 10000 * nodesV f y := hg5
      have hcl5 := chainL_len key.data.toList
      have hksz : key.data.toList.length = key.size := by simp
      obtain ⟨v2, W3, hr2, ho2, hg2⟩ := push_one (hO'.out.later bA) (by have := bA.size; omega) 1 (by simp only [List.length_append, List.length_cons]; omega) 27
      have hc1 : cellB 1 = .int .u8 1 := rfl
      rw [hc1] at hr2
      have hgA : Grew w A.drew v u0 := hG'.out.trans (Grew.below bA _)
      have hg3 : Grew w W3 v v2 := hgA.trans hg2
      have hneB : some wr.heap.size ≠ Value.ownBlock u0 := fun e => by have := (hO'.out.lt _ e.symm).2; omega
      obtain ⟨hq1, hq2⟩ := hg2.block (b := wr.heap.size) (by show _ < A.heap.size; omega) hneB
      have hblk3 : Blk W3 wr.heap.size #[.string key, .int .i64 yk, .int .i64 yn, .int .u64 (yb : Int), .string ys, .slice ypL ynL ycL, .slice ypE ynE ycE] 54 := hq1.trans hblk
      have hblk2 : Blk (A.drew.alloc (.cells #[.int .u8 1] 5)) wr.heap.size #[.string key, .int .i64 yk, .int .i64 yn, .int .u64 (yb : Int), .string ys, .slice ypL ynL ycL, .slice ypE ynE ycE] 54 := hblk.alloc _
      have hb3 := hg3.old HO.out hn0
      have C := chain_any n0 W3 v2 _ ho2 (by simp) (Nat.le_trans hn0 hb3.size) m ((hb3.cell (p := ⟨0, 0, none⟩) hG).trans hm) key (by omega) (by simp only [List.length_append, List.length_cons, List.length_nil]; omega)
      have hst : ((l ++ 7 :: preE (encV f) (E.take j) ++ [1]) ++ chainL key.data.toList) ++ encV f y = l ++ (7 :: preE (encV f) (E.take (j + 1))) := by rw [preE_succ hy, opnE_ent]; simp
      have hs3 : wr.heap.size < W3.heap.size := by have := hg2.by'.size; have h : A.drew.heap.size = A.heap.size := rfl; omega
      have D : ∀ w4 v4, OwnB n0 w4 v4 ((l ++ 7 :: preE (encV f) (E.take j) ++ [1]) ++ chainL key.data.toList) → Grew W3 w4 v2 v4 → Hid (Calls Tryd.prog 21 #[v4, .agg #[.int .i64 yk, .int .i64 yn, .int .u64 (yb : Int), .string ys, .slice ypL ynL ycL, .slice ypE ynE ycE]] w4 fun e w' => ∃ v', e = .returned v' ∧ OwnB n0 w' v' (l ++ (7 :: preE (encV f) (E.take (j + 1)))) ∧ Grew w w' v v') := fun w4 v4 ho4 hg4 => by
        have hg34 := hg3.trans hg4
        have hb4 := hg34.old HO.out hn0
        have C2 := ih _ hyE n0 w4 v4 _ ok (.int .i64 yk) (.int .i64 yn) (.int .u64 (yb : Int)) (.string ys) (.slice ypL ynL ycL) (.slice ypE ynE ycE) m hok (by rw [opnE_ent]; exact hly.kept (fun _ h => h) hb4.size (fun b hb _ => hb4.block b (hok b hb))) ho4 (Nat.le_trans hn0 hb4.size) hG ((hb4.cell (p := ⟨0, 0, none⟩) hG).trans hm) (by rw [opnE_ent]; simp only [List.length_append, List.length_cons, List.length_nil]; omega)
        rw [opnE_ent, hst] at C2
        exact hide (C2.mono fun e w' ⟨v', e1, e2, e3⟩ => ⟨v', e1, e2, hg34.trans e3⟩)
      have kb : ∀ w4 v4, Grew W3 w4 v2 v4 → Blk w4 wr.heap.size #[.string key, .int .i64 yk, .int .i64 yn, .int .u64 (yb : Int), .string ys, .slice ypL ynL ycL, .slice ypE ynE ycE] 54 := fun w4 v4 hg4 => ((hg4.block (b := wr.heap.size) hs3 hq2).1).trans hblk3
      have HD := hide D
      have HKB := hide kb
      have HC := hide C
      have HA := hide hA
      clear C D kb hst ho2 hg2 hgA hb3 hl5 hs5 hg5 hly hA hk5 hcl5 hksz hq1 hs3 hg3
      go_wp2
      rw [← HA.out]
      refine wpIn_wide.1 (wpIn_region_any (n := 9) (by kernel_rfl) (loop6R (fun w4 v4 => OwnB n0 w4 v4 ((l ++ 7 :: preE (encV f) (E.take j) ++ [1]) ++ chainL key.data.toList) ∧ Grew W3 w4 v2 v4) rfl rfl rfl rfl rfl rfl rfl (by kernel_rfl) (by kernel_rfl) (by kernel_rfl) (by kernel_rfl) (by kernel_rfl) (by kernel_rfl) (by kernel_rfl) (by kernel_rfl) (by kernel_rfl) (by kernel_rfl) (by kernel_rfl) (by kernel_rfl) (by kernel_rfl) (by kernel_rfl) (by kernel_rfl) (by kernel_rfl) (by kernel_rfl) (hblk.cell 0 _ rfl) (hblk2.cell 0 _ rfl) (hblk3.cell 0 _ rfl) hr2 ?holeC ?holeQ))
      case holeC =>
        refine (callsIn_wide.2 HC.out).mono ?_
        rintro e w4 ⟨v4, rfl, ho4, hg4⟩
        exact ⟨v4, rfl, ho4, hg4⟩
      case holeQ =>
        rintro w4 v4 ⟨ho4, hg4⟩
        have K4 := HD.out w4 v4 ho4 hg4
        have b4 := HKB.out w4 v4 hg4
        have z1 := b4.cell 1 _ rfl
        have z2 := b4.cell 2 _ rfl
        have z3 := b4.cell 3 _ rfl
        have z4 := b4.cell 4 _ rfl
        have z5 := b4.cell 5 _ rfl
        have z6 := b4.cell 6 _ rfl
        clear ho4 hg4 b4 HD HKB HC
        go_wp2_with (go_at_call 21; refine (unhide K4).mono ?_; rintro e w5 ⟨v5, rfl, ho5, hg5⟩; have HO5 := hide ho5; have HG5 := hide hg5; clear ho5 hg5)
        go_roundw
        case rel => exact ⟨j + 1, by congr 1, by omega, HO5, HG5⟩
        case measure => simp only [intOf]; omega
    · have g0 : ¬ (j : Int) < (E.length : Int) := by omega
      have hjL : j = E.length := by omega
      have hl5 := HP.out j
      have hs5 : sumOf (nodesV f) ((E.take j).map fun x => (opnE x).2) ≤ sumOf (nodesV f) (E.map fun x => (opnE x).2) := by rw [hjL, List.take_length]; exact Nat.le_refl _
      obtain ⟨v2, W3, hr2, ho2, hg2⟩ := push_one hO'.out (by omega) 0 (by simp only [List.length_append, List.length_cons]; omega) 27
      have hc1 : cellB 0 = .int .u8 0 := rfl
      rw [hc1] at hr2
      have hfin : OwnB n0 W3 v2 (l ++ (7 :: tabL (encV f) E)) := by
        rw [hjL, List.take_length] at ho2
        rw [tabL_pre]
        simpa using ho2
      have HO4 := hide hfin
      have HG4 := hide (hG'.out.trans hg2)
      clear hfin ho2 hg2 hl5 hs5 hjL hc1
      go_wp2_with (at_builtin; refine Lib.wpList_append_run _ rfl _ _ _ _ rfl _ _ rfl rfl _ _ hr2 ?_)
      go_ret
      exact ⟨v2, rfl, HO4.out, HG4.out⟩
end Go.Proofs.YtdpoiagnjdajbaaDoor.valus
