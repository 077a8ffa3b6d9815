/- The text of a number: plain mathematics, and a row of bytes as a string. -/
import Derived.Test.YtobbbhmkcmbekaaDoorWordBytes
import Derived.Laws.BytesString
import Derived.Laws.Cells
set_option linter.unusedVariables false
namespace Go.Proofs.YtobbbhmkcmbekaaDoor.bigs
open Go.RowKit

/-- What digits tell, the least first. -/
def tval : List Nat → Nat
  | [] => 0
  | d :: r => (d - 48) + 10 * tval r
/-- All are digits. -/
def Tens (l : List Nat) : Prop := ∀ b ∈ l, 48 ≤ b ∧ b ≤ 57
theorem tval_snoc (l : List Nat) (d : Nat) : tval (l ++ [d]) = tval l + 10 ^ l.length * (d - 48) := by
  induction l with
  | nil => simp [tval]
  | cons x l ih =>
    rw [List.cons_append, tval, tval, ih, List.length_cons, Nat.pow_succ]
    have : 10 ^ l.length * 10 * (d - 48) = 10 * (10 ^ l.length * (d - 48)) := by rw [Nat.mul_comm (10 ^ l.length), Nat.mul_assoc]
    omega
theorem tens_snoc {l : List Nat} {d : Nat} (h : Tens l) (h1 : 48 ≤ d) (h2 : d ≤ 57) : Tens (l ++ [d]) := by
  intro b hb
  rcases List.mem_append.1 hb with h' | h'
  · exact h b h'
  · simp at h'; subst h'; exact ⟨h1, h2⟩
theorem text_step {n p q j : Nat} {L : List Nat} (h : n = (p + 10 ^ (j + 1) * q) * 10 ^ L.length + tval L) :
    n = (p / 10 + 10 ^ j * q) * 10 ^ (L ++ [48 + p % 10]).length + tval (L ++ [48 + p % 10]) := by
  rw [tval_snoc, List.length_append, List.length_singleton, Nat.pow_succ, Nat.add_sub_cancel_left, h]
  have e : p + 10 ^ (j + 1) * q = 10 * (p / 10 + 10 ^ j * q) + p % 10 := by
    have e1 : 10 ^ (j + 1) * q = 10 * (10 ^ j * q) := by rw [Nat.pow_succ, Nat.mul_comm (10 ^ j), Nat.mul_assoc]
    omega
  rw [e]
  generalize p / 10 + 10 ^ j * q = Y
  generalize p % 10 = m
  generalize 10 ^ L.length = T
  rw [Nat.add_mul, Nat.mul_comm T 10, ← Nat.mul_assoc, Nat.mul_comm Y 10, Nat.mul_comm m T]
  omega
theorem text_big {n r : Nat} {L : List Nat} (h : n = r * 10 ^ L.length + tval L) (hr : r ≠ 0) : 10 ^ L.length ≤ n := by
  have : 1 * 10 ^ L.length ≤ r * 10 ^ L.length := Nat.mul_le_mul_right _ (by omega)
  omega
theorem pow_less {n a b : Nat} (h1 : 10 ^ a ≤ n) (h2 : n < 10 ^ b) : a < b := by
  by_cases h : a < b
  · exact h
  · have : 10 ^ b ≤ 10 ^ a := Nat.pow_le_pow_right (by omega) (by omega)
    omega
theorem dec_rev : ∀ {L : List Nat}, Tens L → dec ((L.map UInt8.ofNat).reverse) = tval L
  | [], _ => rfl
  | d :: r, h => by
    have h1 := h d (by simp)
    rw [List.map_cons, List.reverse_cons, dec_snoc, dec_rev (fun b hb => h b (List.mem_cons_of_mem _ hb)), byte_of d (by omega), tval]
    omega
theorem strip_next (L : List Nat) (k : Nat) (hk : k < L.length) : tval (L.take (k + 1)) = tval (L.take k) + 10 ^ k * (L.getD k 0 - 48) := by
  rw [utake_succ L k hk, tval_snoc, List.length_take, Nat.min_eq_left (by omega)]
theorem text_end {L : List Nat} {k n : Nat} (h : Tens L) (hk : k + 1 ≤ L.length) (hl : L.getD k 0 ≠ 48) (hn : tval (L.take (k + 1)) = n) : ((L.take (k + 1)).reverse.map UInt8.ofNat) = decs n := by
  have ht : Tens (L.take (k + 1)) := fun b hb => h b (List.mem_of_mem_take hb)
  have hd := dec_rev ht
  rw [hn, ← List.map_reverse] at hd
  rw [← hd]
  symm
  apply decs_dec
  have hlen : ((L.take (k + 1)).reverse.map UInt8.ofNat).length = k + 1 := by rw [List.length_map, List.length_reverse, List.length_take]; omega
  refine ⟨fun e => by rw [e] at hlen; simp at hlen, ?_, .inl ?_⟩
  · intro b hb
    obtain ⟨x, hx, rfl⟩ := List.mem_map.1 hb
    have := ht x (List.mem_reverse.1 hx)
    rw [byte_of x (by omega)]
    exact this
  · have e1 : (L.take (k + 1)).reverse.getD 0 0 = L.getD k 0 := by
      rw [getD_rev _ 0 (by rw [List.length_take]; omega), List.length_take, Nat.min_eq_left (by omega)]
      simp [List.getD]
    have e2 : ((L.take (k + 1)).reverse.map UInt8.ofNat).getD 0 0 = UInt8.ofNat (L.getD k 0) := by
      rw [← e1]
      have hp : 0 < (L.take (k + 1)).reverse.length := by rw [List.length_reverse, List.length_take]; omega
      cases hc : (L.take (k + 1)).reverse with
      | nil => rw [hc] at hp; simp at hp
      | cons x r => rfl
    rw [e2]
    intro e
    have hm : L.getD k 0 ∈ L := by rw [List.getD, List.getElem?_eq_getElem (by omega)]; simp
    have h3 := h _ hm
    have h4 := congrArg UInt8.toNat e
    rw [byte_of _ (by omega)] at h4
    exact hl h4
theorem foldl_push (l : List Nat) : ∀ s : ByteArray, (l.map (fun (n : Nat) => (n : Int))).foldl (fun r n => r.push (UInt8.ofNat n.toNat)) s = ⟨(s.data.toList ++ l.map UInt8.ofNat).toArray⟩ := by
  induction l with
  | nil => intro s; simp
  | cons x l ih =>
    intro s
    rw [List.map_cons, List.foldl_cons, ih]
    simp [ByteArray.push]
theorem conv_row (w : World) (g c ca : Nat) (L S : List Nat) (own : OwnB w g c (L ++ S)) :
    (convert 73 9 (.slice (some ⟨g, 0, none⟩) L.length ca)).run Tryd.prog w = .ok (.string ⟨(L.map UInt8.ofNat).toArray⟩) w := by
  rw [run_convert_bytes_string _ 73 9 5 _ _ _ Tryd.underlying73 Tryd.underlying5 Tryd.underlying9]
  have h := run_loadCells_list (P := Tryd.prog) (w := w) ⟨g, 0, none⟩ ((L.map (fun (n : Nat) => (n : Int))).map (Value.int .u8)) (fun j v hv => by
    have hj : j < L.length := by
      have := (List.getElem?_eq_some_iff.1 hv).1
      simpa using this
    have hc := own.cell j (by simp; omega)
    have hadd : (⟨g, 0, none⟩ : Addr).add j = ⟨g, j, none⟩ := by unfold Addr.add; split <;> simp_all
    rw [hadd, hc]
    rw [List.getElem?_map, List.getElem?_map, List.getElem?_eq_getElem hj] at hv
    simp at hv
    rw [← hv]
    simp [List.getD, List.getElem?_append_left hj, hj])
  rw [List.length_map, List.length_map] at h
  rw [run_bytesToString _ _ L.length ca (L.map (fun (n : Nat) => (n : Int))) h, foldl_push]
  rfl
end Go.Proofs.YtobbbhmkcmbekaaDoor.bigs
