/- Decimal digits, and the walks of the document's answer: OfDigits. -/
import Derived.Test.YtobbbhmkcmbekabDoorBigPower
set_option linter.unusedVariables false
namespace Go.Proofs.YtobbbhmkcmbekabDoor.bigs
open Go.RowKit

/-- What decimal digits tell, the greatest first. -/
def dec (l : List UInt8) : Nat := l.foldl (fun a b => a * 10 + (b.toNat - 48)) 0
/-- All are decimal digits. -/
def Dig10 (l : List UInt8) : Prop := ∀ b ∈ l, 48 ≤ b.toNat ∧ b.toNat ≤ 57
theorem dec_from (l : List UInt8) : ∀ a, l.foldl (fun a b => a * 10 + (b.toNat - 48)) a = a * 10 ^ l.length + dec l := by
  induction l with
  | nil => intro a; simp [dec]
  | cons x l ih =>
    intro a
    have e : dec (x :: l) = (0 * 10 + (x.toNat - 48)) * 10 ^ l.length + dec l := by rw [← ih]; rfl
    rw [List.foldl_cons, ih, e, List.length_cons, Nat.pow_succ]
    simp only [Nat.zero_mul, Nat.zero_add, Nat.add_mul]
    have : a * 10 * 10 ^ l.length = a * (10 ^ l.length * 10) := by rw [Nat.mul_assoc, Nat.mul_comm 10]
    omega
theorem dec_nil : dec [] = 0 := rfl
theorem dec_append (a b : List UInt8) : dec (a ++ b) = dec a * 10 ^ b.length + dec b := by
  unfold dec
  rw [List.foldl_append, dec_from b]
  rfl
theorem dec_one (b : UInt8) : dec [b] = b.toNat - 48 := by simp [dec]
theorem dec_snoc (a : List UInt8) (b : UInt8) : dec (a ++ [b]) = dec a * 10 + (b.toNat - 48) := by rw [dec_append, dec_one]; simp
theorem dec_cons (b : UInt8) (l : List UInt8) : dec (b :: l) = (b.toNat - 48) * 10 ^ l.length + dec l := by
  have := dec_append [b] l
  rwa [List.singleton_append, dec_one] at this
theorem dec_lt {l : List UInt8} (h : Dig10 l) : dec l < 10 ^ l.length := by
  induction l with
  | nil => simp [dec]
  | cons x l ih =>
    have h1 := ih fun b hb => h b (List.mem_cons_of_mem _ hb)
    have h2 := h x List.mem_cons_self
    rw [dec_cons, List.length_cons, Nat.pow_succ]
    have h3 : (x.toNat - 48) * 10 ^ l.length ≤ 9 * 10 ^ l.length := Nat.mul_le_mul_right _ (by omega)
    omega
theorem dig10_take {l : List UInt8} (h : Dig10 l) (k : Nat) : Dig10 (l.take k) := fun b hb => h b (List.mem_of_mem_take hb)
theorem dig10_drop {l : List UInt8} (h : Dig10 l) (k : Nat) : Dig10 (l.drop k) := fun b hb => h b (List.mem_of_mem_drop hb)
theorem dec_part {l : List UInt8} {n m : Nat} (h : n ≤ m) (hm : m ≤ l.length) : dec (l.take m) = dec (l.take n) * 10 ^ (m - n) + dec ((l.take m).drop n) := by
  have e : l.take m = l.take n ++ (l.take m).drop n := by
    have := (List.take_append_drop n (l.take m)).symm
    rwa [List.take_take, Nat.min_eq_left h] at this
  have h2 := dec_append (l.take n) ((l.take m).drop n)
  rw [← e] at h2
  rw [h2, List.length_drop, List.length_take, Nat.min_eq_left hm]
theorem btake_succ (l : List UInt8) (k : Nat) (h : k < l.length) : l.take (k + 1) = l.take k ++ [l.getD k 0] := by
  rw [List.take_succ_eq_append_getElem h]
  simp [List.getD, List.getElem?_eq_getElem h]
theorem dec_step {l : List UInt8} {n i : Nat} (h : n ≤ i) (hi : i < l.length) : dec ((l.take (i + 1)).drop n) = dec ((l.take i).drop n) * 10 + ((l.getD i 0).toNat - 48) := by
  rw [btake_succ l i hi, List.drop_append_of_le_length (by rw [List.length_take]; omega), dec_snoc]
theorem dec_part_lt {l : List UInt8} (h : Dig10 l) {n i : Nat} (hn : n ≤ i) (hi : i ≤ l.length) : dec ((l.take i).drop n) < 10 ^ (i - n) := by
  have h1 := dec_lt (dig10_drop (dig10_take h i) n)
  rwa [List.length_drop, List.length_take, Nat.min_eq_left hi] at h1
/-- How long a text is. -/
def tlen : Value → Nat
  | .string t => t.size
  | _ => 0
theorem blen_list (s : ByteArray) : s.data.toList.length = s.size := by rw [Array.length_toList]; rfl
theorem bext_front (s : ByteArray) (b : Nat) : (s.extract 0 b).data.toList = s.data.toList.take b := by simp
theorem bget (t : ByteArray) (i : Nat) (h : i < t.size) : t.data.toList.getD i 0 = t[i]'h := by
  rw [List.getD, List.getElem?_eq_getElem (by rw [blen_list]; exact h)]
  simp [ByteArray.getElem_eq_getElem_data]

end Go.Proofs.YtobbbhmkcmbekabDoor.bigs
