/- The walks of slices.Compare over runes, and of the law itself. -/
import Derived.Test.YtealhdpieoiikabWalks
import Derived.Deep.QuietTactic
import Derived.BigQuiet
namespace Go.Proofs.Ytealhdpieoiikab.walks
open Go.RowKit
open plain

theorem hide {p : Prop} (h : p) : Hid p := h
theorem unhide {p : Prop} (h : Hid p) : p := h
def cmp1 (x y : Int) : Int := if x < y then -1 else if y < x then 1 else 0

set_option maxHeartbeats 400000 in
theorem cmp1_any (x y : Int) (w : World) :
    Calls Try.prog 12 #[.int .i32 x, .int .i32 y] w fun e w' => e = .returned (.int .i64 (cmp1 x y)) ∧ w' = w := by
  by_cases h : x < y
  · rw [show cmp1 x y = -1 by simp [cmp1, h]]
    go_enter Try.func12, Try.ntmps12
    go_wp2
    go_ret
    exact ⟨rfl, rfl⟩
  · by_cases h' : y < x
    · rw [show cmp1 x y = 1 by simp [cmp1, h, h']]
      go_enter Try.func12, Try.ntmps12
      go_wp2
      go_ret
      exact ⟨rfl, rfl⟩
    · rw [show cmp1 x y = 0 by simp [cmp1, h, h']]
      go_enter Try.func12, Try.ntmps12
      go_wp2
      go_ret
      exact ⟨rfl, rfl⟩

/-- What cmpZ comes to from the place k on, where all ahead of it is the same. -/
theorem cmp_at (a b : List Int) (k : Nat) (ha : k < a.length) (hb : k < b.length) (h : a.take k = b.take k) :
    (cmp1 (a.getD k 0) (b.getD k 0) ≠ 0 → cmpZ a b = cmp1 (a.getD k 0) (b.getD k 0)) ∧
    (cmp1 (a.getD k 0) (b.getD k 0) = 0 → a.take (k + 1) = b.take (k + 1)) := by
  have e := cmpZ_snoc a b k ha hb h
  rw [List.drop_eq_getElem_cons ha, List.drop_eq_getElem_cons hb] at e
  have ga : a.getD k 0 = a[k] := by simp [List.getD, List.getElem?_eq_getElem ha]
  have gb : b.getD k 0 = b[k] := by simp [List.getD, List.getElem?_eq_getElem hb]
  rw [take_succ a k ha, take_succ b k hb, ga, gb, h, e]
  simp only [cmpZ, cmp1]
  by_cases h1 : a[k] < b[k]
  · simp [h1]
  · by_cases h2 : b[k] < a[k]
    · simp [h1, h2]
    · simp only [h1, h2, if_false]
      refine ⟨fun h => absurd rfl h, fun _ => ?_⟩
      rw [show a[k] = b[k] by omega]
theorem cmp_short (a b : List Int) (k : Nat) (ha : k < a.length) (hb : k = b.length) (h : a.take k = b.take k) : cmpZ a b = 1 := by
  have := cmpZ_front (a.take k) (a.drop k) (b.drop k)
  rw [List.take_append_drop] at this
  rw [h, List.take_append_drop, List.drop_eq_getElem_cons ha, List.drop_of_length_le (l := b) (by omega)] at this
  rw [this]; rfl
theorem cmp_long (a b : List Int) (k : Nat) (ha : k = a.length) (hb : k < b.length) (h : a.take k = b.take k) : cmpZ a b = -1 := by
  have := cmp_short b a k hb ha h.symm
  rw [cmpZ_neg, this]
theorem cmp_same (a b : List Int) (k : Nat) (ha : k = a.length) (hb : k = b.length) (h : a.take k = b.take k) : cmpZ a b = 0 := by
  rw [ha, List.take_length, ← ha, hb, List.take_length] at h
  have := cmpZ_front a [] []
  simp only [List.append_nil] at this
  rw [← h, this]; rfl

set_option maxHeartbeats 1000000 in
set_option maxRecDepth 100000 in
theorem compare_any (a b : Option Addr) (l m : List Int) (ca cb : Nat) (w : World) (hl : 4 * l.length ≤ 140737488355328) (hm : 4 * m.length ≤ 140737488355328) (hL : Elems w a l) (hM : Elems w b m) :
    Calls Try.prog 7 #[.slice a l.length ca, .slice b m.length cb] w fun e w' => e = .returned (.int .i64 (cmpZ l m)) ∧ w' = w := by
  go_enter Try.func7, Try.ntmps7
  go_wp2
  go_loop [11] (fun i => ∃ k : Nat, k ≤ l.length ∧ k ≤ m.length ∧ i = .int .i64 k ∧ l.take k = m.take k) (fun i => l.length - (intOf i).toNat)
  case atStart => exact ⟨0, Nat.zero_le _, Nat.zero_le _, rfl, rfl⟩
  case round =>
    obtain ⟨k, hk, hkm, rfl, hsame⟩ := hrel
    by_cases hlt : k < l.length
    · obtain ⟨ba, oa, rfl, _, hca⟩ := hL (by omega)
      have c1 := hca k hlt
      have HL := hide hca
      clear hca hL
      by_cases hltm : k < m.length
      · obtain ⟨bb, ob, rfl, _, hcb⟩ := hM (by omega)
        have c2 := hcb k hltm
        have HM := hide hcb
        clear hcb hM
        obtain ⟨f1, f2⟩ := cmp_at l m k hlt hltm hsame
        have F1 := hide f1
        have F2 := hide f2
        clear f1 f2 hsame
        generalize l.getD k 0 = x at *
        generalize m.getD k 0 = y at *
        by_cases hz : cmp1 x y = 0
        · have hz' : (cmp1 x y != 0) = false := by simp [hz]
          have HZ := hide hz
          clear hz
          go_wp2_with (go_at_call 12; refine (cmp1_any _ _ _).mono ?_; rintro e w' ⟨rfl, rfl⟩)
          go_round
          case rel => exact ⟨k + 1, by omega, by omega, by go_num, unhide F2 (unhide HZ)⟩
          case measure => simp [intOf]; omega
        · have hz' : (cmp1 x y != 0) = true := by simp [hz]
          have HZ := hide hz
          clear hz
          go_wp2_with (go_at_call 12; refine (cmp1_any _ _ _).mono ?_; rintro e w' ⟨rfl, rfl⟩)
          go_ret
          rw [unhide F1 (unhide HZ)]
          exact ⟨rfl, rfl⟩
      · have h1 := cmp_short l m k hlt (by omega) hsame
        have H1 := hide h1
        clear h1 hsame
        go_wp2
        go_ret
        rw [unhide H1]
        exact ⟨rfl, rfl⟩
    · by_cases hltm : k < m.length
      · have h1 := cmp_long l m k (by omega) hltm hsame
        have H1 := hide h1
        clear h1 hsame
        go_wp2
        go_ret
        rw [unhide H1]
        exact ⟨rfl, rfl⟩
      · have h1 := cmp_same l m k (by omega) (by omega) hsame
        have H1 := hide h1
        clear h1 hsame
        go_wp2
        go_ret
        rw [unhide H1]
        exact ⟨rfl, rfl⟩
end Go.Proofs.Ytealhdpieoiikab.walks
