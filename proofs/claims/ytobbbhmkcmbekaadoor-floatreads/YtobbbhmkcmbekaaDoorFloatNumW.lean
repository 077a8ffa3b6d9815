/- The walks of package float: exponentOf whole, strings.Cut at one byte, numeralOf. -/
import Derived.Test.YtobbbhmkcmbekaaDoorFloatCutW
set_option linter.unusedVariables false
namespace Go.Proofs.YtobbbhmkcmbekaaDoor.bigs
open Go.RowKit

theorem pre_yes (c : UInt8) (r : List UInt8) : Lib.hasPrefix (c :: r) [c] = true ∧ Lib.trimPrefix (c :: r) [c] = r := by
  have h : Lib.hasPrefix (c :: r) [c] = true := by simp [Lib.hasPrefix]
  exact ⟨h, by unfold Lib.trimPrefix; rw [if_pos h]; rfl⟩
theorem pre_no {c : UInt8} {l : List UInt8} (hn : ∀ r, l ≠ c :: r) : Lib.hasPrefix l [c] = false ∧ Lib.trimPrefix l [c] = l := by
  have h : Lib.hasPrefix l [c] = false := by
    cases l with
    | nil => rfl
    | cons b r =>
      have : b ≠ c := fun e => hn r (by rw [e])
      simp [Lib.hasPrefix, List.isPrefixOf, Ne.symm this]
  exact ⟨h, by unfold Lib.trimPrefix; rw [if_neg (by rw [h]; decide)]⟩
theorem cut_len {l : List UInt8} {c : UInt8} : (Lib.trimPrefix l [c]).length ≤ l.length := by
  unfold Lib.trimPrefix
  split
  · rw [List.length_drop]; omega
  · exact Nat.le_refl _
theorem arr_size (l : List UInt8) : (⟨l.toArray⟩ : ByteArray).size = l.length := by simp [ByteArray.size]
theorem exponentW_any (w : World) (z : ByteArray) (hz : z.size ≤ 80) :
    Calls Tryd.prog 67 #[.string z] w fun e w' => w' = w ∧ ((∃ x y, Exp z.data.toList x ∧ Cap x y ∧ -1080 ≤ y ∧ y ≤ 1080 ∧ e = .returned (.tuple #[.int .i64 y, .bool true])) ∨ ((¬ ∃ x, Exp z.data.toList x) ∧ e = .returned (.tuple #[.int .i64 0, .bool false]))) := by
  have K1 := Tryd.strings_CutPrefix z ⟨#[45]⟩ w
  have e45 : (⟨#[45]⟩ : ByteArray).data.toList = [45] := rfl
  have e43 : (⟨#[43]⟩ : ByteArray).data.toList = [43] := rfl
  rw [e45] at K1
  have zl := blen_list z
  classical
  by_cases c1 : ∃ r, z.data.toList = 45 :: r
  · obtain ⟨r, hr⟩ := c1
    obtain ⟨p1, p2⟩ := pre_yes 45 r
    rw [hr, p1, p2] at K1
    have hX : (⟨r.toArray⟩ : ByteArray).size ≤ 80 := by rw [arr_size]; rw [hr, List.length_cons] at zl; omega
    refine (exponentW_core w z ⟨r.toArray⟩ ⟨r.toArray⟩ true (decide (AllD r)) hX (hide K1) (hide (fun h => by cases h)) (hide (fun _ => rfl)) (hide (by simp))).mono ?_
    rintro e w' ⟨rfl, rfl⟩
    refine ⟨rfl, ?_⟩
    by_cases h : AllD r
    · left
      refine ⟨-((dec r : Nat) : Int), _, by rw [hr]; exact .inl ⟨r, rfl, h, rfl⟩, cap_neg (cap_min (dec r)), by omega, by omega, ?_⟩
      simp [h]
    · right
      refine ⟨?_, by simp [h]⟩
      rintro ⟨x, hx⟩
      rw [hr] at hx
      exact h (exp_minus hx).1
  · have n45 : ∀ r, z.data.toList ≠ 45 :: r := fun r e => c1 ⟨r, e⟩
    obtain ⟨p1, p2⟩ := pre_no n45
    rw [p1, p2] at K1
    have ez : (⟨z.data.toList.toArray⟩ : ByteArray) = z := by simp
    rw [ez] at K1
    have K2 := Tryd.strings_TrimPrefix z ⟨#[43]⟩ w
    rw [e43] at K2
    have hX : (⟨(Lib.trimPrefix z.data.toList [43]).toArray⟩ : ByteArray).size ≤ 80 := by rw [arr_size]; have := cut_len (l := z.data.toList) (c := 43); omega
    have main : ∀ x, Exp z.data.toList x ↔ AllD (Lib.trimPrefix z.data.toList [43]) ∧ x = ((dec (Lib.trimPrefix z.data.toList [43]) : Nat) : Int) := by
      intro x
      by_cases c2 : ∃ r, z.data.toList = 43 :: r
      · obtain ⟨r, hr⟩ := c2
        rw [hr, (pre_yes 43 r).2]
        exact ⟨exp_plus, fun h => .inr (.inl ⟨r, rfl, h⟩)⟩
      · have n43 : ∀ r, z.data.toList ≠ 43 :: r := fun r e => c2 ⟨r, e⟩
        rw [(pre_no n43).2]
        exact ⟨fun h => exp_digits h (fun X => ⟨n45 X, n43 X⟩), fun h => .inr (.inr h)⟩
    generalize Lib.trimPrefix z.data.toList [43] = X at *
    refine (exponentW_core w z z ⟨X.toArray⟩ false (decide (AllD X)) hX (hide K1) (hide (fun _ => K2)) (hide (fun h => by cases h)) (hide (by simp))).mono ?_
    rintro e w' ⟨rfl, rfl⟩
    refine ⟨rfl, ?_⟩
    by_cases h : AllD X
    · left
      refine ⟨_, _, (main _).2 ⟨h, rfl⟩, cap_min (dec X), by omega, by omega, ?_⟩
      simp [h]
    · right
      refine ⟨?_, by simp [h]⟩
      rintro ⟨x, hx⟩
      exact h ((main x).1 hx).1
/-- A text cut at the first place of a byte. -/
def CutOf (l : List UInt8) (c : UInt8) (A B : List UInt8) (f : Bool) : Prop := (f = true ∧ l = A ++ c :: B ∧ c ∉ A) ∨ (f = false ∧ A = l ∧ B = [] ∧ c ∉ l)
theorem first_split : ∀ {A B A' B' : List UInt8} {c : UInt8}, A ++ c :: B = A' ++ c :: B' → c ∉ A → c ∉ A' → A = A' ∧ B = B' := by
  intro A
  induction A with
  | nil =>
    intro B A' B' c h _ n'
    cases A' with
    | nil => injection h with _ h2; exact ⟨rfl, h2⟩
    | cons b r =>
      injection h with h1 _
      exact absurd (by rw [h1]; simp) n'
  | cons a A ih =>
    intro B A' B' c h n n'
    cases A' with
    | nil =>
      injection h with h1 _
      exact absurd (by rw [h1]; simp) n
    | cons b r =>
      injection h with h1 h2
      obtain ⟨e1, e2⟩ := ih h2 (fun m => n (List.mem_cons_of_mem _ m)) (fun m => n' (List.mem_cons_of_mem _ m))
      exact ⟨by rw [h1, e1], e2⟩
theorem cut_yes {l A B A' B' : List UInt8} {c : UInt8} {f : Bool} (h : CutOf l c A B f) (e : l = A' ++ c :: B') (n : c ∉ A') : f = true ∧ A = A' ∧ B = B' := by
  rcases h with ⟨h1, h2, h3⟩ | ⟨h1, h2, h3, h4⟩
  · obtain ⟨e1, e2⟩ := first_split (h2.symm.trans e) h3 n
    exact ⟨h1, e1, e2⟩
  · exact absurd (by rw [e]; simp) h4
theorem cut_not {l A B : List UInt8} {c : UInt8} {f : Bool} (h : CutOf l c A B f) (n : c ∉ l) : f = false ∧ A = l ∧ B = [] := by
  rcases h with ⟨h1, h2, h3⟩ | ⟨h1, h2, h3, h4⟩
  · exact absurd (by rw [h2]; simp) n
  · exact ⟨h1, h2, h3⟩
theorem dig_not {l : List UInt8} {c : UInt8} (h : Dig10 l) (hc : ¬ (48 ≤ c.toNat ∧ c.toNat ≤ 57)) : c ∉ l := fun m => hc (h c m)
theorem num_cut {t M T W P W' P' : List UInt8} {fe fp : Bool} {x : Int} (h1 : CutOf t 101 M T fe) (h2 : CutOf M 46 W P fp) :
    Num t W' P' x ↔ W' = W ∧ P' = P ∧ AllD W ∧ (W.length = 1 ∨ W.getD 0 0 ≠ 48) ∧ (fp = true → AllD P) ∧ ((fe = false ∧ fp = true ∧ x = 0) ∨ (fe = true ∧ Exp T x)) := by
  constructor
  · rintro ⟨R, e, a, z, r⟩
    have nW1 := dig_not (c := 101) a.2 (by decide)
    have nW2 := dig_not (c := 46) a.2 (by decide)
    rcases r with ⟨rfl, p, rfl⟩ | ⟨Z, rfl, p, ex⟩ | ⟨Z, rfl, rfl, ex⟩
    · have nP1 := dig_not (c := 101) p.2 (by decide)
      have n : (101 : UInt8) ∉ t := by
        rw [e]
        simp only [List.mem_append, List.mem_cons]
        rintro (m | m | m)
        · exact nW1 m
        · exact absurd m (by decide)
        · exact nP1 m
      obtain ⟨f1, m1, _⟩ := cut_not h1 n
      obtain ⟨f2, w1, p1⟩ := cut_yes h2 (m1.trans e) nW2
      subst w1 p1
      exact ⟨rfl, rfl, a, z, fun _ => p, .inl ⟨f1, f2, rfl⟩⟩
    · have nP1 := dig_not (c := 101) p.2 (by decide)
      have e' : t = (W' ++ 46 :: P') ++ 101 :: Z := by rw [e]; simp
      have n : (101 : UInt8) ∉ W' ++ 46 :: P' := by
        simp only [List.mem_append, List.mem_cons]
        rintro (m | m | m)
        · exact nW1 m
        · exact absurd m (by decide)
        · exact nP1 m
      obtain ⟨f1, m1, t1⟩ := cut_yes h1 e' n
      obtain ⟨f2, w1, p1⟩ := cut_yes h2 m1 nW2
      subst w1 p1 t1
      exact ⟨rfl, rfl, a, z, fun _ => p, .inr ⟨f1, ex⟩⟩
    · obtain ⟨f1, m1, t1⟩ := cut_yes h1 e nW1
      obtain ⟨f2, w1, p1⟩ := cut_not h2 (by rw [m1]; exact nW2)
      subst t1
      refine ⟨by rw [w1, m1], p1.symm, by rw [w1, m1]; exact a, by rw [w1, m1]; exact z, (fun h => (by rw [f2] at h; cases h)), .inr ⟨f1, ex⟩⟩
  · rintro ⟨rfl, rfl, a, z, p, r⟩
    rcases h1 with ⟨f1, e1, n1⟩ | ⟨f1, e1, e2, n1⟩
    · rcases r with ⟨g, _⟩ | ⟨_, ex⟩
      · rw [f1] at g; cases g
      · rcases h2 with ⟨f2, e3, n2⟩ | ⟨f2, e3, e4, n2⟩
        · refine ⟨46 :: (P' ++ 101 :: T), by rw [e1, e3]; simp, a, z, .inr (.inl ⟨T, rfl, p f2, ex⟩)⟩
        · refine ⟨101 :: T, by rw [e1, ← e3], a, z, .inr (.inr ⟨T, rfl, e4, ex⟩)⟩
    · rcases r with ⟨_, g2, g3⟩ | ⟨g, _⟩
      · rcases h2 with ⟨f2, e3, n2⟩ | ⟨f2, e3, e4, n2⟩
        · exact ⟨46 :: P', by rw [← e1, e3], a, z, .inl ⟨rfl, p f2, g3⟩⟩
        · rw [f2] at g2; cases g2
      · rw [f1] at g; cases g
theorem ext_toList (s : ByteArray) (a b : Nat) : (s.extract a b).data.toList = (s.data.toList.take b).drop a := by
  rw [ByteArray.data_extract, Array.toList_extract]
  simp [List.extract, List.drop_take]
theorem cut_index {l : List UInt8} {c : UInt8} {i : Nat} (h : Lib.indexByte l c = (i : Int)) : i < l.length ∧ l = l.take i ++ c :: l.drop (i + 1) ∧ c ∉ l.take i := by
  obtain ⟨h1, h2⟩ := Lib.indexByte_some h
  have hl : i < l.length := (List.getElem?_eq_some_iff.1 h1).1
  refine ⟨hl, ?_, ?_⟩
  · have e := (List.getElem?_eq_some_iff.1 h1).2
    rw [← e, List.getElem_cons_drop, List.take_append_drop]
  · intro m
    obtain ⟨k, hk, e⟩ := List.mem_iff_getElem.1 m
    rw [List.length_take] at hk
    refine h2 k (by omega) ?_
    rw [List.getElem_take] at e
    rw [← e]
    exact List.getElem?_eq_getElem (by omega)
set_option maxHeartbeats 8000000 in
set_option maxRecDepth 100000 in
theorem cutLite_any (w : World) (s : ByteArray) (c : UInt8) (hs : s.size ≤ 80) :
    Calls Tryd.prog 82 #[.string s, .string ⟨#[c]⟩] w fun e w' => ∃ (A B : ByteArray) (f : Bool), e = .returned (.tuple #[.string A, .string B, .bool f]) ∧ CutOf s.data.toList c A.data.toList B.data.toList f ∧ A.size ≤ s.size ∧ B.size ≤ s.size ∧ Below w.heap.size w w' := by
  have K1 := Tryd.stringslite_Index_one s c w
  by_cases hx : Lib.indexByte s.data.toList c = -1
  · rw [hx] at K1
    have K := hide K1
    have n : c ∉ s.data.toList := by
      intro m
      obtain ⟨k, hk, e⟩ := List.mem_iff_getElem.1 m
      exact Lib.indexByte_none hx k (by rw [← e]; exact List.getElem?_eq_getElem hk)
    have N := hide n
    clear K1 hx n
    go_enter Tryd.func82, Tryd.ntmps82
    go_wp2_with fail
    refine (unhide K).mono ?_
    rintro e w1 ⟨rfl, rfl⟩
    go_wp2
    go_ret3
    exact ⟨s, ⟨#[]⟩, false, rfl, .inr ⟨rfl, rfl, rfl, unhide N⟩, Nat.le_refl _, (Nat.zero_le _ : (0 : Nat) ≤ s.size), Below.refl _ _⟩
  · obtain ⟨i, hi⟩ : ∃ i : Nat, Lib.indexByte s.data.toList c = (i : Int) := ⟨(Lib.indexByte s.data.toList c).toNat, by have := Lib.indexByte_ge s.data.toList c; omega⟩
    rw [hi] at K1
    have K := hide K1
    obtain ⟨hl, e1, n1⟩ := cut_index hi
    rw [blen_list] at hl
    have C : Hid (CutOf s.data.toList c (s.extract 0 i).data.toList (s.extract (i + 1) s.size).data.toList true) := hide (by
      rw [ext_toList, ext_toList, List.drop_zero, ← blen_list, List.take_length]
      exact .inl ⟨rfl, e1, n1⟩)
    have A1 : Hid ((s.extract 0 i).size ≤ s.size) := hide (by rw [← blen_list, ext_toList, ← blen_list, List.length_drop, List.length_take]; omega)
    have A2 : Hid ((s.extract (i + 1) s.size).size ≤ s.size) := hide (by rw [← blen_list, ext_toList, List.length_drop, List.length_take, ← blen_list]; omega)
    clear K1 hx hi e1 n1
    have t1 : (0 : Int) ≤ (i : Int) := by omega
    have t2 : (i : Int) ≤ (s.size : Int) := by omega
    have t3 : (i : Int) + 1 ≤ (s.size : Int) := by omega
    have t4 : (0 : Int) ≤ (i : Int) + 1 := by omega
    go_enter Tryd.func82, Tryd.ntmps82
    go_wp2_with fail
    refine (unhide K).mono ?_
    rintro e w1 ⟨rfl, rfl⟩
    go_wp2_with fail
    go_quiet (fail)
    go_wp2
    go_ret3
    exact ⟨_, _, true, rfl, unhide C, unhide A1, unhide A2, below_drewN (Below.refl _ _) _⟩
set_option maxHeartbeats 8000000 in
set_option maxRecDepth 100000 in
theorem cutS_any (w : World) (s : ByteArray) (c : UInt8) (hs : s.size ≤ 80) :
    Calls Tryd.prog 65 #[.string s, .string ⟨#[c]⟩] w fun e w' => ∃ (A B : ByteArray) (f : Bool), e = .returned (.tuple #[.string A, .string B, .bool f]) ∧ CutOf s.data.toList c A.data.toList B.data.toList f ∧ A.size ≤ s.size ∧ B.size ≤ s.size ∧ Below w.heap.size w w' := by
  have K := hide (cutLite_any w s c hs)
  go_enter Tryd.func65, Tryd.ntmps65
  go_wp2_with fail
  refine (unhide K).mono ?_
  rintro e w1 ⟨A, B, f, rfl, h1, h2, h3, h4⟩
  have H := hide h1
  clear h1 K
  go_wp2
  go_ret3
  exact ⟨A, B, f, rfl, unhide H, h2, h3, h4⟩
end Go.Proofs.YtobbbhmkcmbekaaDoor.bigs
