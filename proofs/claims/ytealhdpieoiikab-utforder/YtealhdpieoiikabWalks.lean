/- The walks of the law that texts stand in the order of their scalars: Size, Text, Compare. -/
import Derived.Test.YtealhdpieoiikabShelf
import Derived.Test.YtealhdpieoiikabPlain
import Derived.WalkKit
import Derived.BigCall
namespace Go.Proofs.Ytealhdpieoiikab.walks
open Go.RowKit
open plain

/-- The elements of a slice that came in lie in memory. -/
def Elems (w : World) (a : Option Addr) (l : List Int) : Prop :=
  0 < l.length → ∃ b o, a = some ⟨b, o, none⟩ ∧ b < w.heap.size ∧ ∀ j, j < l.length → w.cell? ⟨b, o + j, none⟩ = some (.int .i32 (l.getD j 0))
def Fit (l : List Int) : Prop := ∀ j, j < l.length → -2147483648 ≤ l.getD j 0 ∧ l.getD j 0 ≤ 2147483647

theorem Elems.below {w w' : World} {a : Option Addr} {l : List Int} (h : Elems w a l) (hb : Below w.heap.size w w') : Elems w' a l := by
  intro h0
  obtain ⟨b, o, e, hlt, hc⟩ := h h0
  refine ⟨b, o, e, Nat.lt_of_lt_of_le hlt hb.size, fun j hj => ?_⟩
  rw [hb.cell (p := ⟨b, o + j, none⟩) hlt]
  exact hc j hj

set_option maxHeartbeats 400000 in
theorem size_any (r : Int) (w : World) :
    Calls Try.prog 8 #[.int .i32 r] w fun e w' => e = .returned (.int .i64 (sizeZ r)) ∧ w' = w := by
  have key : ∀ n : Int, sizeZ r = n → Calls Try.prog 8 #[.int .i32 r] w (fun e w' => e = .returned (.int .i64 n) ∧ w' = w) →
      Calls Try.prog 8 #[.int .i32 r] w fun e w' => e = .returned (.int .i64 (sizeZ r)) ∧ w' = w := fun n e h => by rw [e]; exact h
  by_cases h0 : r < 0
  · refine key 0 (by have : sc r = false := decide_eq_false (by omega); simp [sizeZ, this]) ?_
    clear key
    go_enter Try.func8, Try.ntmps8
    go_wp2
    go_ret
    exact ⟨rfl, rfl⟩
  · by_cases h1 : 55296 ≤ r
    · by_cases h2 : r ≤ 57343
      · refine key 0 (by have : sc r = false := decide_eq_false (by omega); simp [sizeZ, this]) ?_
        clear key
        go_enter Try.func8, Try.ntmps8
        go_wp2
        go_ret
        exact ⟨rfl, rfl⟩
      · by_cases h3 : 1114111 < r
        · refine key 0 (by have : sc r = false := decide_eq_false (by omega); simp [sizeZ, this]) ?_
          clear key
          go_enter Try.func8, Try.ntmps8
          go_wp2
          go_ret
          exact ⟨rfl, rfl⟩
        · have hs : sc r = true := decide_eq_true (by omega)
          by_cases h4 : r < 65536
          · refine key 3 (by simp only [sizeZ, hs, if_true]; rw [if_neg (by omega), if_neg (by omega), if_pos h4]) ?_
            clear key hs
            go_enter Try.func8, Try.ntmps8
            go_wp2
            go_ret
            exact ⟨rfl, rfl⟩
          · refine key 4 (by simp only [sizeZ, hs, if_true]; rw [if_neg (by omega), if_neg (by omega), if_neg h4]) ?_
            clear key hs
            go_enter Try.func8, Try.ntmps8
            go_wp2
            go_ret
            exact ⟨rfl, rfl⟩
    · have hs : sc r = true := decide_eq_true (by omega)
      by_cases h2 : r < 128
      · refine key 1 (by simp only [sizeZ, hs, if_true]; rw [if_pos h2]) ?_
        clear key hs
        go_enter Try.func8, Try.ntmps8
        go_wp2
        go_ret
        exact ⟨rfl, rfl⟩
      · by_cases h3 : r < 2048
        · refine key 2 (by simp only [sizeZ, hs, if_true]; rw [if_neg h2, if_pos h3]) ?_
          clear key hs
          go_enter Try.func8, Try.ntmps8
          go_wp2
          go_ret
          exact ⟨rfl, rfl⟩
        · refine key 3 (by simp only [sizeZ, hs, if_true]; rw [if_neg h2, if_neg h3, if_pos (by omega)]) ?_
          clear key hs
          go_enter Try.func8, Try.ntmps8
          go_wp2
          go_ret
          exact ⟨rfl, rfl⟩

/-- What Text answers. -/
def textB (l : List Int) : List UInt8 := if l.all sc then enc l else []
def textE (l : List Int) : Int := if l.all sc then 0 else 3

theorem take_succ (l : List Int) (k : Nat) (h : k < l.length) : l.take (k + 1) = l.take k ++ [l.getD k 0] := by
  rw [List.take_succ_eq_append_getElem h]
  simp [List.getD, List.getElem?_eq_getElem h]
theorem all_take (l : List Int) (k : Nat) (h : k < l.length) (ha : (l.take k).all sc = true) (hb : sc (l.getD k 0) = true) : (l.take (k + 1)).all sc = true := by
  rw [take_succ l k h, List.all_append, ha]; simpa using hb
theorem not_all (l : List Int) (k : Nat) (h : k < l.length) (hb : sc (l.getD k 0) = false) : l.all sc = false := by
  cases e : l.all sc with
  | false => rfl
  | true =>
    rw [List.all_eq_true] at e
    have := e (l.getD k 0) (by simp [List.getD, List.getElem?_eq_getElem h])
    rw [hb] at this; cases this

set_option maxHeartbeats 1000000 in
set_option maxRecDepth 100000 in
theorem text_any (a : Option Addr) (l : List Int) (cap : Nat) (w : World) (hl : 4 * l.length ≤ 140737488355328) (hE : Elems w a l) (hF : Fit l) :
    Calls Try.prog 5 #[.slice a l.length cap] w fun e w' => e = .returned (.tuple #[.string ⟨(textB l).toArray⟩, .int .i64 (textE l)]) ∧ Below w.heap.size w w' := by
  go_enter Try.func5, Try.ntmps5
  go_wp2
  go_loopw [9] (fun i wr => ∃ k : Nat, k ≤ l.length ∧ i = .int .i64 k ∧ (l.take k).all sc = true ∧ Lib.IsBuilderF 34 5 w.heap.size w.heap.size (Lib.byteCells (enc (l.take k))) wr ∧ Below w.heap.size w wr) (fun i _ => l.length - (intOf i).toNat)
  case atStart =>
    refine ⟨0, Nat.zero_le _, rfl, rfl, Lib.IsBuilderF.of (Lib.fresh_isBuilder 34 5 w), (Below.refl _ w).alloc (Nat.le_refl _) _⟩
  case round =>
    obtain ⟨k, hk, rfl, hall, hI, hbw⟩ := hrel
    by_cases hlt : k < l.length
    · obtain ⟨b, o, rfl, hb, hc⟩ := hE (by omega)
      have hcell : wr.cell? ⟨b, o + k, none⟩ = some (.int .i32 (l.getD k 0)) := by
        rw [hbw.cell (p := ⟨b, o + k, none⟩) hb]; exact hc k hlt
      obtain ⟨hf0, hf1⟩ := hF k hlt
      have hlen : (enc (l.take k)).length ≤ 4 * k := by
        have := enc_length (l.take k)
        have := List.length_take_le k l
        omega
      have hts : Hid (l.take (k + 1) = l.take k ++ [l.getD k 0]) := take_succ l k hlt
      have hat : Hid (sc (l.getD k 0) = true → (l.take (k + 1)).all sc = true) := fun h => all_take l k hlt hall h
      have hna : Hid (sc (l.getD k 0) = false → l.all sc = false) := fun h => not_all l k hlt h
      have hz := sizeZ_zero (l.getD k 0)
      have HE : Hid (∀ j, j < l.length → w.cell? ⟨b, o + j, none⟩ = some (.int .i32 (l.getD j 0))) := hc
      clear hc hE hF
      generalize l.getD k 0 = r at *
      cases hs : sc r with
      | true =>
        rw [hs] at hz
        have hz' : (sizeZ r == 0) = false := hz
        have HS : Hid (sc r = true) := hs
        clear hz hs
        go_wp2_with (first
          | (go_at_call 8; refine (size_any _ _).mono ?_; rintro e w' ⟨rfl, rfl⟩)
          | (go_at_call 9; refine (Try.Builder_WriteRune_k w.heap.size w.heap.size _ _ (by omega) (by omega) _ hI (by rw [Lib.byteCells_length]; omega) hbw.size).mono ?_))
        rintro e W1 ⟨rfl, h1, b1, k1⟩
        go_wp2
        go_roundw
        case rel =>
          refine ⟨k + 1, by omega, by go_num, hat.out HS.out, ?_, hbw.trans b1⟩
          rw [hts.out, enc_append, enc_one, Lib.byteCells_append, Lib.byteCells_encodeRune]
          exact Or.inr h1
        case measure => simp [intOf]; omega
      | false =>
        rw [hs] at hz
        have hz' : (sizeZ r == 0) = true := hz
        have HS : Hid (sc r = false) := hs
        clear hz hs
        go_wp2_with (go_at_call 8; refine (size_any _ _).mono ?_; rintro e w' ⟨rfl, rfl⟩)
        go_ret2
        have hn := hna.out HS.out
        refine ⟨?_, hbw⟩
        simp [textB, textE, hn]
    · have hkl : k = l.length := by omega
      subst hkl
      rw [List.take_length] at hall hI
      go_wp2_with (go_at_call 10; refine (Try.Builder_String_any_k w.heap.size w.heap.size (enc l) _ hI hbw.size).mono ?_)
      rintro e W1 ⟨rfl, _, b1, _⟩
      go_wp2
      go_ret2
      refine ⟨?_, hbw.trans b1⟩
      simp [textB, textE, hall]
end Go.Proofs.Ytealhdpieoiikab.walks
