/- How long the decimals of a fraction are. -/
import Derived.Test.YtobbbhmkcmbekabGreatDoorPartAR
import Derived.Test.YtobbbhmkcmbekabGreatDoorPartAQ
import Derived.Test.YtobbbhmkcmbekabGreatDoorPartAE
import Derived.Deep.QuietTactic
import Derived.BigQuiet
set_option linter.unusedVariables false
namespace Go.Proofs.YtobbbhmkcmbekabGreatDoor.bigs
open Go.RowKit
theorem len_X (r : Nat) (hi : r < 9218868437227405312) : (decs (fX r)).length ≤ 4000 := by
  rw [fX_told]
  have hm := mant_lt r
  obtain ⟨E, hE⟩ : ∃ E, E = r / 4503599627370496 - 1 + 6 := ⟨_, rfl⟩
  have hE2 : E ≤ 2051 := by omega
  rw [← hE]
  have h1 : (5 : Nat) ^ sc ≤ 10 ^ sc := Nat.pow_le_pow_left (by decide) _
  have h2 : (2 : Nat) ^ E ≤ 10 ^ E := Nat.pow_le_pow_left (by decide) _
  have h3 : mant r < 10 ^ 16 := Nat.lt_of_lt_of_le hm (by decide)
  have p1 : 0 < (10 : Nat) ^ sc := Nat.pow_pos (by decide)
  have p2 : 0 < (10 : Nat) ^ E := Nat.pow_pos (by decide)
  have h4 : mant r * 5 ^ sc * 2 ^ E < 10 ^ 16 * 10 ^ sc * 10 ^ E :=
    Nat.lt_of_le_of_lt (Nat.mul_le_mul (Nat.mul_le_mul (Nat.le_refl _) h1) h2) (Nat.mul_lt_mul_of_pos_right (Nat.mul_lt_mul_of_pos_right h3 p1) p2)
  rw [← Nat.pow_add, ← Nat.pow_add] at h4
  have hsc : sc = 1080 := rfl
  have := decs_length_le h4 (by omega)
  omega
theorem zeros_dig (j : Nat) : Dig10 (zeros j).data.toList := by
  have e : (zeros j).data.toList = List.replicate j 48 := by unfold zeros; simp
  rw [e]
  intro b hb
  rw [List.eq_of_mem_replicate hb]
  decide
theorem below_up {w0 w w' : World} (h : Below w0.heap.size w0 w) (h' : Below w.heap.size w w') : Below w0.heap.size w0 w' := h.trans (h'.mono h.size)
theorem X_lens {X j F : Nat} (hX : (decs X).length ≤ 4000) (hj : 10 ^ j ≤ X) (hF : F = X / 10 ^ j) : (dig X).length ≤ 2000 ∧ (dig F).length ≤ 2000 ∧ (dig (F + 1)).length ≤ 2000 ∧ (dig (lowOf X j)).length ≤ 2000 ∧ (dig ((F + 1) * 10 ^ j)).length ≤ 2000 ∧ (decs (F + 1)).length ≤ 8000 := by
  obtain ⟨K, hK⟩ : ∃ K, K = 1000 := ⟨_, rfl⟩
  have h1 := dec_lt (decs_form X).2.1
  rw [dec_decs] at h1
  have e10 : (10 : Nat) ^ 4 = 10000 := by decide
  have h2 : X < 10000 ^ K := by
    refine Nat.lt_of_lt_of_le h1 (Nat.le_trans (Nat.pow_le_pow_right (by decide) (show (decs X).length ≤ 4 * K by omega)) ?_)
    rw [Nat.pow_mul, e10]
    exact Nat.le_refl _
  have h3 : F ≤ X := by rw [hF]; exact Nat.div_le_self _ _
  have h4 : lowOf X j ≤ X := lowOf_le X j
  have h5 : (F + 1) * 10 ^ j = lowOf X j + 10 ^ j := by rw [hF]; unfold lowOf; rw [Nat.add_mul, Nat.one_mul]
  have h6 : 10000 ^ (K + 1) = 10000 ^ K * 10000 := Nat.pow_succ ..
  have l1 := dig_length_le h2
  have l2 := dig_length_le (n := F) (k := K) (by omega)
  have l3 := dig_length_le (n := F + 1) (k := K + 1) (by omega)
  have l4 := dig_length_le (n := lowOf X j) (k := K) (by omega)
  have l5 := dig_length_le (n := (F + 1) * 10 ^ j) (k := K + 1) (by omega)
  have l6 := decs_length_le (n := F + 1) (k := 4 * (K + 1)) (by rw [Nat.pow_mul, e10]; omega) (by omega)
  exact ⟨by omega, by omega, by omega, by omega, by omega, by omega⟩
theorem decs_of_dig {p K : Nat} (h : (dig p).length ≤ K) (hK : 1 ≤ K) : (decs p).length ≤ 4 * K := by
  have h1 : p < 10000 ^ K := by
    have := val_lt (small_dig p)
    rw [val_dig] at this
    exact Nat.lt_of_lt_of_le this (Nat.pow_le_pow_right (by decide) h)
  have e10 : (10 : Nat) ^ 4 = 10000 := by decide
  exact decs_length_le (k := 4 * K) (by rw [Nat.pow_mul, e10]; exact h1) (by omega)
theorem strip_one {d : Nat} (h : d % 10 = 0) (hd : d ≠ 0) : decs d = decs (d / 10) ++ [48] ∧ d / 10 ≠ 0 := by
  refine ⟨?_, by omega⟩
  unfold decs
  rw [if_neg hd, if_neg (by omega), toDec_pos hd, h]
  rfl
theorem upper_gt {X j : Nat} (h : X - lowOf X j > upOf X j - X) : Upper X j := .inl h
theorem upper_lt {X j : Nat} (h : X - lowOf X j < upOf X j - X) : ¬ Upper X j := by
  rintro (k | ⟨k, _⟩) <;> omega
theorem upper_eq {X j : Nat} (h : X - lowOf X j = upOf X j - X) : Upper X j ↔ X / 10 ^ j % 2 = 1 := by
  unfold Upper
  constructor
  · rintro (k | ⟨_, k⟩)
    · omega
    · exact k
  · intro k
    exact .inr ⟨h.symm, k⟩
/-- The least place of a number that lies somewhere. -/
theorem lies_first {w : World} {a : Option Addr} {k c n : Nat} (h : Lies w (.slice a k c) n) (hn : n ≠ 0) : 0 < k ∧ ∃ b o, a = some ⟨b, o, none⟩ ∧ w.cell? ⟨b, o, none⟩ = some (.int .i64 ((n % 10000 : Nat) : Int)) := by
  obtain ⟨a', c', e, hc, hr⟩ := h
  injection e with e1 e2 e3
  subst e1 e2 e3
  have hne : dig n ≠ [] := by rw [dig_pos hn]; simp
  obtain ⟨b, o, rfl, _, hcell⟩ := hr hne
  refine ⟨List.length_pos_iff.2 hne, b, o, rfl, ?_⟩
  have := hcell 0 (List.length_pos_iff.2 hne)
  rw [dig_pos hn] at this
  exact this
end Go.Proofs.YtobbbhmkcmbekabGreatDoor.bigs
/- The document's ShortOf: the walk ahead of its loop. -/
set_option linter.unusedVariables false
namespace Go.Proofs.YtobbbhmkcmbekabGreatDoor.bigs
open Go.RowKit
theorem len_scaled (m E : Nat) (hm : m < 18446744073709551616) (hE : E ≤ 3000) : (dig (m * 5 ^ sc * 2 ^ E)).length ≤ 100000 := by
  have q0 : (dig m).length ≤ 5 := dig_length_le (Nat.lt_of_lt_of_le hm (by decide))
  have q1 := five_len
  have q2 := pow_len (b := 2) (e := E) (by decide)
  have q3 := dig_prod_lenF m (5 ^ sc)
  have q4 := dig_prod_lenF (m * 5 ^ sc) (2 ^ E)
  omega
theorem lies_slice {w : World} {v : Value} {n : Nat} (h : Lies w v n) : ∃ a k c, v = .slice a k c := by
  obtain ⟨a, c, e, _⟩ := h
  exact ⟨a, _, c, e⟩
theorem Lies.alloc {w : World} {v : Value} {n : Nat} (h : Lies w v n) (o : Obj) : Lies (w.alloc o) v n := h.below ((Below.refl _ _).alloc (Nat.le_refl _) o)
theorem Lies.setBlk {w : World} {v : Value} {n b t : Nat} {u x : Value} (h : Lies w v n) (hb : Blk w b #[u] t) (hu : ∀ q, u ≠ .int .i64 q) : Lies (w.setCell ⟨b, 0, none⟩ x) v n := by
  obtain ⟨a, cap, rfl, hc, hr⟩ := h
  refine ⟨a, cap, rfl, hc, fun h0 => ?_⟩
  obtain ⟨ba, oa, rfl, hba, hca⟩ := hr h0
  have ne : ba ≠ b := by
    intro e
    subst e
    have h1 := hca 0 (by cases hd : dig n with | nil => exact absurd hd h0 | cons x r => simp)
    unfold Blk at hb
    simp only [World.cell?, hb] at h1
    rw [Nat.add_zero] at h1
    cases oa with
    | zero => exact hu _ (by simpa using h1)
    | succ k => simp at h1
  refine ⟨ba, oa, rfl, by simpa [World.setCell] using hba, fun k hk => ?_⟩
  rw [World.cell?_setCell_other w ⟨b, 0, none⟩ ⟨ba, oa + k, none⟩ x (by intro e; exact ne (by injection e with e1; exact e1.symm))]
  exact hca k hk
end Go.Proofs.YtobbbhmkcmbekabGreatDoor.bigs
/- The law FloatShorts: Short answers what the document says. -/
set_option linter.unusedVariables false
namespace Go.Proofs.YtobbbhmkcmbekabGreatDoor.bigs
open Go.RowKit
theorem short_same {r j i d e : Nat} {ten t : Int} (h1 : Best r j (d * 10 ^ (ten + 1080).toNat)) (h2 : Best r i (e * 10 ^ (t + 1080).toNat)) (hd : d % 10 ≠ 0) (he : e % 10 ≠ 0) (h3 : -1080 ≤ ten) (h4 : -1080 ≤ t) : e = d ∧ t = ten := by
  obtain ⟨a, b⟩ := ten_unique (best_unique h1 h2) hd he
  exact ⟨a.symm, by omega⟩
end Go.Proofs.YtobbbhmkcmbekabGreatDoor.bigs
/- The walks of package float: noughts, withExponent, layOut. -/
set_option linter.unusedVariables false
namespace Go.Proofs.YtobbbhmkcmbekabGreatDoor.bigs
open Go.RowKit Go.Sort
theorem repeat_zeros (n : Nat) : (⟨(Lib.repeatL [48] n).toArray⟩ : ByteArray) = zeros n := by
  unfold zeros
  congr 2
  induction n with
  | zero => rfl
  | succ n ih => rw [List.replicate_succ, ← ih]; rfl
set_option maxRecDepth 100000 in
theorem noughtsP_any (w : World) (n : Nat) (hn : n ≤ 1000) :
    Calls Tryz.prog 18 #[.int .i64 (n : Int)] w fun e w' => e = .returned (.string (zeros n)) ∧ Below w.heap.size w w' := by
  have K : Hid (Calls Tryz.prog 35 #[.string ⟨#[48]⟩, .int .i64 (n : Int)] w fun e w' => e = .returned (.string (zeros n)) ∧ Below w.heap.size w w') := hide (by
    by_cases h0 : n = 0
    · subst h0
      refine (Tryz.strings_Repeat_zero ⟨#[48]⟩ w).mono ?_
      rintro e w' ⟨rfl, rfl⟩
      exact ⟨rfl, Below.refl _ _⟩
    · by_cases h1 : n = 1
      · subst h1
        refine (Tryz.strings_Repeat_one ⟨#[48]⟩ w).mono ?_
        rintro e w' ⟨rfl, rfl⟩
        exact ⟨rfl, Below.refl _ _⟩
      · have h := Tryz.strings_Repeat_main ⟨#[48]⟩ n w (by omega) (by omega) (by show 1 * n ≤ _; omega) (by decide)
        rw [show (⟨#[48]⟩ : ByteArray).data.toList = [48] by rfl, repeat_zeros] at h
        exact h)
  go_enter Tryz.func18, Tryz.ntmps18
  go_wp2_with fail
  refine (unhide K).mono ?_
  rintro e w' ⟨rfl, b⟩
  have B := hide b
  clear b K
  go_wp2
  go_ret
  exact ⟨rfl, unhide B⟩
theorem cat_list (a b : ByteArray) : (a ++ b).data.toList = a.data.toList ++ b.data.toList := by
  rw [ByteArray.data_append, Array.toList_append]
theorem cat_run (a b : ByteArray) (h : a.size + b.size ≤ 100000) (u : World) : (Op.stringOp .add a b).run Tryz.prog u = .ok (.string (a ++ b)) u := run_string_add_sum _ _ _ (by omega)
theorem zeros_list (n : Nat) : (zeros n).data.toList = List.replicate n 48 := by unfold zeros; simp
theorem cut_list (s : ByteArray) (a b : Nat) : (s.extract a b).data.toList = (s.data.toList.take b).drop a := by
  rw [ByteArray.data_extract, Array.toList_extract]
  simp [List.extract, List.drop_take]
theorem cut_front (s : ByteArray) (b : Nat) : (s.extract 0 b).data.toList = s.data.toList.take b := by rw [cut_list, List.drop_zero]
theorem cut_rear (s : ByteArray) (a : Nat) : (s.extract a s.size).data.toList = s.data.toList.drop a := by
  rw [cut_list, List.take_of_length_le (by rw [blen_list]; exact Nat.le_refl _)]
theorem cut_size (s : ByteArray) (a b : Nat) (h : b ≤ s.size) : (s.extract a b).size = b - a := by rw [ByteArray.size_extract]; omega
/-- Digits with an exponent. -/
def expL (D : List UInt8) (x : Int) : List UInt8 := D.take 1 ++ ((if D.drop 1 = [] then [] else 46 :: D.drop 1) ++ 101 :: Lib.itoa x)
theorem itoa_len (x : Int) (h1 : -100000 ≤ x) (h2 : x ≤ 100000) : (Lib.itoa x).length ≤ 10 := by
  have e : (10 : Nat) ^ 6 = 1000000 := by decide
  unfold Lib.itoa
  split
  · rw [List.length_cons, decDigits_decs]
    have := decs_length_le (n := x.natAbs) (k := 6) (by omega) (by decide)
    omega
  · rw [decDigits_decs]
    have := decs_length_le (n := x.toNat) (k := 6) (by omega) (by decide)
    omega
set_option maxHeartbeats 8000000 in
set_option maxRecDepth 100000 in
theorem withExp_any (w : World) (S : ByteArray) (x : Int) (s1 : 0 < S.size) (s2 : S.size ≤ 100) (x1 : -100000 ≤ x) (x2 : x ≤ 100000) (htab : Lib.TabIs Tryz.prog w "internal/strconv.uint64pow10" .u64 Lib.pow10Tab) :
    Calls Tryz.prog 17 #[.string S, .int .i64 x] w fun e w' => (∃ R : ByteArray, e = .returned (.string R) ∧ R.data.toList = expL S.data.toList x) ∧ Below w.heap.size w w' := by
  have KI : ∀ k, Hid (Calls Tryz.prog 34 #[.int .i64 x] (w.drewN k) fun e w' => e = .returned (.string ⟨(Lib.itoa x).toArray⟩) ∧ Below w.heap.size w w') := fun k => hide (by
    refine (Tryz.strconv_Itoa x (by omega) (by omega) (w.drewN k) (tab_below htab (below_drewN (Below.refl _ _) k))).mono ?_
    rintro e w' ⟨rfl, i, os, hw⟩
    refine ⟨rfl, ?_⟩
    rw [hw]
    have h := Lib.below_grow (w.drewN k).heap.size (w.drewN k) (Nat.le_refl _) i os
    exact (below_drewN (Below.refl _ _) k).trans (h.mono (Nat.le_refl _)))
  have il := itoa_len x x1 x2
  obtain ⟨I, hI⟩ : ∃ I : ByteArray, I = ⟨(Lib.itoa x).toArray⟩ := ⟨_, rfl⟩
  have Is : I.size ≤ 10 := by rw [hI, bytes_len]; exact il
  have IL : I.data.toList = Lib.itoa x := by rw [hI]
  rw [← hI] at KI
  obtain ⟨F, hF⟩ : ∃ F : ByteArray, S.extract 0 1 = F := ⟨_, rfl⟩
  obtain ⟨T, hT⟩ : ∃ T : ByteArray, S.extract 1 S.size = T := ⟨_, rfl⟩
  have Fs : F.size = 1 := by rw [← hF, cut_size _ _ _ (by omega)]
  have Ts : T.size = S.size - 1 := by rw [← hT, cut_size _ _ _ (by omega)]
  have FL : F.data.toList = S.data.toList.take 1 := by rw [← hF, cut_front]
  have TL : T.data.toList = S.data.toList.drop 1 := by rw [← hT, cut_rear]
  have q0 : (1 : Int) ≤ (S.size : Int) := by omega
  have d1 : (⟨#[46]⟩ : ByteArray).size = 1 := rfl
  have d2 : (⟨#[101]⟩ : ByteArray).size = 1 := rfl
  have c1 := cat_run ⟨#[46]⟩ T (by omega)
  have c2 := cat_run F (⟨#[46]⟩ ++ T) (by rw [ByteArray.size_append]; omega)
  have c3 := cat_run (F ++ (⟨#[46]⟩ ++ T)) ⟨#[101]⟩ (by rw [ByteArray.size_append, ByteArray.size_append]; omega)
  have c4 := cat_run ((F ++ (⟨#[46]⟩ ++ T)) ++ ⟨#[101]⟩) I (by rw [ByteArray.size_append, ByteArray.size_append, ByteArray.size_append]; omega)
  have c5 := cat_run F ⟨#[101]⟩ (by omega)
  have c6 := cat_run (F ++ ⟨#[101]⟩) I (by rw [ByteArray.size_append]; omega)
  have R1 : Hid (T.data.toList ≠ [] → (((F ++ (⟨#[46]⟩ ++ T)) ++ ⟨#[101]⟩) ++ I).data.toList = expL S.data.toList x) := hide (fun h => by
    unfold expL
    rw [cat_list, cat_list, cat_list, cat_list, IL, FL, TL, if_neg (by rw [← TL]; exact h)]
    simp)
  have R2 : Hid (T.data.toList = [] → ((F ++ ⟨#[101]⟩) ++ I).data.toList = expL S.data.toList x) := hide (fun h => by
    unfold expL
    rw [cat_list, cat_list, IL, FL, if_pos (by rw [← TL]; exact h)]
    simp)
  generalize hA4 : ((F ++ (⟨#[46]⟩ ++ T)) ++ ⟨#[101]⟩) ++ I = A4 at *
  generalize hA3 : (F ++ (⟨#[46]⟩ ++ T)) ++ ⟨#[101]⟩ = A3 at *
  generalize hA2 : F ++ (⟨#[46]⟩ ++ T) = A2 at *
  generalize hA1 : (⟨#[46]⟩ : ByteArray) ++ T = A1 at *
  generalize hA6 : (F ++ ⟨#[101]⟩) ++ I = A6 at *
  generalize hA5 : F ++ (⟨#[101]⟩ : ByteArray) = A5 at *
  have TN := hide (blen_list T)
  clear htab hI IL FL TL hA1 hA2 hA3 hA4 hA5 hA6 d1 d2 Fs il
  by_cases c : S.size = 1
  · have T0 : T.toList = [] := by
      rw [ByteArray.toList_eq]
      exact List.eq_nil_of_length_eq_zero (by rw [unhide TN]; omega)
    have R := hide (unhide R2 (by rw [← ByteArray.toList_eq]; exact T0))
    clear R1 R2 Ts TN c1 c2 c3 c4 c
    go_enter Tryz.func17, Tryz.ntmps17
    go_wp2_with fail
    go_quiet (fail)
    go_wp2_with fail
    refine (unhide (KI _)).mono ?_
    rintro _ w2 ⟨rfl, b2⟩
    have B := hide b2
    clear b2 KI
    go_wp2
    go_ret
    exact ⟨⟨A6, rfl, unhide R⟩, unhide B⟩
  · have T1 : T.data.toList ≠ [] := fun e => by
      have h := unhide TN
      rw [e] at h
      simp at h
      omega
    have T0 : T.toList.isEmpty = false := by
      rw [ByteArray.toList_eq]
      cases hl : T.data.toList with
      | nil => exact absurd hl T1
      | cons a r => rfl
    have R := hide (unhide R1 T1)
    clear R1 R2 Ts TN c5 c6 c T1
    go_enter Tryz.func17, Tryz.ntmps17
    go_wp2_with fail
    go_quiet (fail)
    go_wp2_with fail
    refine (unhide (KI _)).mono ?_
    rintro _ w2 ⟨rfl, b2⟩
    have B := hide b2
    clear b2 KI
    go_wp2
    go_ret
    exact ⟨⟨A4, rfl, unhide R⟩, unhide B⟩
end Go.Proofs.YtobbbhmkcmbekabGreatDoor.bigs
/- The walks of package float: layOut, Text. -/
set_option linter.unusedVariables false
namespace Go.Proofs.YtobbbhmkcmbekabGreatDoor.bigs
open Go.RowKit Go.Sort
/-- Digits laid out, the point behind the first p of them. -/
def layL (D : List UInt8) (p : Int) : List UInt8 :=
  if p < -3 ∨ 17 < p then expL D (p - 1) else if p ≤ 0 then [48, 46] ++ (List.replicate (-p).toNat 48 ++ D) else if p < (D.length : Int) then D.take p.toNat ++ 46 :: D.drop p.toNat else D ++ (List.replicate (p - (D.length : Int)).toNat 48 ++ [46, 48])
theorem i64_keep (x : Int) (h1 : -1000000000 ≤ x) (h2 : x ≤ 1000000000) : IntKind.i64.wrap x = x := by
  simp [IntKind.wrap, IntKind.bits, IntKind.signed]
  omega
set_option maxHeartbeats 8000000 in
set_option maxRecDepth 100000 in
theorem layOut_any (w : World) (S : ByteArray) (p : Int) (s1 : 0 < S.size) (s2 : S.size ≤ 100) (x1 : -10000 ≤ p) (x2 : p ≤ 10000) (htab : Lib.TabIs Tryz.prog w "internal/strconv.uint64pow10" .u64 Lib.pow10Tab) :
    Calls Tryz.prog 10 #[.string S, .int .i64 p] w fun e w' => (∃ R : ByteArray, e = .returned (.string R) ∧ R.data.toList = layL S.data.toList p) ∧ Below w.heap.size w w' := by
  have SN := blen_list S
  by_cases cA : p < -3 ∨ 17 < p
  · have K := hide (withExp_any w S (p - 1) s1 s2 (by omega) (by omega) htab)
    have y := i64_keep (p - 1) (by omega) (by omega)
    have E : Hid (layL S.data.toList p = expL S.data.toList (p - 1)) := hide (by unfold layL; rw [if_pos cA])
    obtain ⟨q, hq⟩ : ∃ q, q = p - 1 := ⟨_, rfl⟩
    rw [← hq] at K E
    have y' : IntKind.i64.wrap (p - 1) = q := by rw [hq]; exact y
    clear htab SN y hq
    rcases cA with c | c
    · go_enter Tryz.func10, Tryz.ntmps10
      go_wp2_with fail
      refine (unhide K).mono ?_
      rintro _ w1 ⟨⟨R, rfl, hR⟩, b1⟩
      have B := hide b1
      have HR := hide hR
      clear b1 hR K
      go_wp2
      go_ret
      exact ⟨⟨R, rfl, by rw [unhide HR, unhide E]⟩, unhide B⟩
    · have c' : ¬ p < -3 := by omega
      have c2 : p > 17 := c
      go_enter Tryz.func10, Tryz.ntmps10
      go_wp2_with fail
      refine (unhide K).mono ?_
      rintro _ w1 ⟨⟨R, rfl, hR⟩, b1⟩
      have B := hide b1
      have HR := hide hR
      clear b1 hR K
      go_wp2
      go_ret
      exact ⟨⟨R, rfl, by rw [unhide HR, unhide E]⟩, unhide B⟩
  · have i1 : ¬ p < -3 := by omega
    have i2 : ¬ p > 17 := by omega
    by_cases cB : p ≤ 0
    · obtain ⟨n, hn⟩ : ∃ n : Nat, p = -(n : Int) := ⟨(-p).toNat, by omega⟩
      have K := hide (noughtsP_any w n (by omega))
      obtain ⟨Z, hZ⟩ : ∃ Z : ByteArray, Z = zeros n := ⟨_, rfl⟩
      have Zs : Z.size = n := by rw [hZ, zeros_size]
      have y : IntKind.i64.wrap (-p) = (n : Int) := by rw [i64_keep _ (by omega) (by omega)]; omega
      have d1 : (⟨#[48, 46]⟩ : ByteArray).size = 2 := rfl
      have c1 := cat_run ⟨#[48, 46]⟩ Z (by omega)
      have c2 := cat_run (⟨#[48, 46]⟩ ++ Z) S (by rw [ByteArray.size_append]; omega)
      have R : Hid (((⟨#[48, 46]⟩ ++ Z) ++ S).data.toList = layL S.data.toList p) := hide (by
        unfold layL
        rw [if_neg cA, if_pos cB, cat_list, cat_list, hZ, zeros_list, show (-p).toNat = n by omega]
        simp)
      rw [← hZ] at K
      generalize (⟨#[48, 46]⟩ ++ Z) ++ S = A2 at *
      generalize (⟨#[48, 46]⟩ : ByteArray) ++ Z = A1 at *
      clear htab SN hZ hn d1 cA
      go_enter Tryz.func10, Tryz.ntmps10
      go_wp2_with fail
      refine (unhide K).mono ?_
      rintro _ w1 ⟨rfl, b1⟩
      have B := hide b1
      clear b1 K
      go_wp2
      go_ret
      exact ⟨⟨A2, rfl, unhide R⟩, unhide B⟩
    · by_cases cC : p < (S.size : Int)
      · obtain ⟨n, rfl⟩ : ∃ n : Nat, p = (n : Int) := ⟨p.toNat, by omega⟩
        obtain ⟨F, hF⟩ : ∃ F : ByteArray, S.extract 0 n = F := ⟨_, rfl⟩
        obtain ⟨T, hT⟩ : ∃ T : ByteArray, S.extract n S.size = T := ⟨_, rfl⟩
        have Fs : F.size = n := by rw [← hF, cut_size _ _ _ (by omega)]; omega
        have Ts : T.size = S.size - n := by rw [← hT, cut_size _ _ _ (by omega)]
        have FL : F.data.toList = S.data.toList.take n := by rw [← hF, cut_front]
        have TL : T.data.toList = S.data.toList.drop n := by rw [← hT, cut_rear]
        have d1 : (⟨#[46]⟩ : ByteArray).size = 1 := rfl
        have c1 := cat_run F ⟨#[46]⟩ (by omega)
        have c2 := cat_run (F ++ ⟨#[46]⟩) T (by rw [ByteArray.size_append]; omega)
        have R : Hid (((F ++ ⟨#[46]⟩) ++ T).data.toList = layL S.data.toList (n : Int)) := hide (by
          unfold layL
          rw [if_neg cA, if_neg cB, SN, if_pos cC, cat_list, cat_list, FL, TL, Int.toNat_natCast]
          simp)
        have q0 : (0 : Int) ≤ (n : Int) := by omega
        have q1 : (n : Int) ≤ (S.size : Int) := by omega
        generalize (F ++ ⟨#[46]⟩) ++ T = A2 at *
        generalize F ++ (⟨#[46]⟩ : ByteArray) = A1 at *
        clear htab SN FL TL d1 cA Fs Ts
        go_enter Tryz.func10, Tryz.ntmps10
        go_wp2_with fail
        go_quiet (fail)
        go_wp2
        go_ret
        exact ⟨⟨A2, rfl, unhide R⟩, below_drewN (Below.refl _ _) _⟩
      · obtain ⟨n, hn⟩ : ∃ n : Nat, p - (S.size : Int) = (n : Int) := ⟨(p - (S.size : Int)).toNat, by omega⟩
        have K := hide (noughtsP_any w n (by omega))
        obtain ⟨Z, hZ⟩ : ∃ Z : ByteArray, Z = zeros n := ⟨_, rfl⟩
        have Zs : Z.size = n := by rw [hZ, zeros_size]
        have y : IntKind.i64.wrap (p - (S.size : Int)) = (n : Int) := by rw [i64_keep _ (by omega) (by omega)]; omega
        have d1 : (⟨#[46, 48]⟩ : ByteArray).size = 2 := rfl
        have c1 := cat_run S Z (by omega)
        have c2 := cat_run (S ++ Z) ⟨#[46, 48]⟩ (by rw [ByteArray.size_append]; omega)
        have R : Hid (((S ++ Z) ++ ⟨#[46, 48]⟩).data.toList = layL S.data.toList p) := hide (by
          unfold layL
          rw [if_neg cA, if_neg cB, SN, if_neg cC, cat_list, cat_list, hZ, zeros_list, hn, Int.toNat_natCast]
          simp)
        rw [← hZ] at K
        generalize (S ++ Z) ++ ⟨#[46, 48]⟩ = A2 at *
        generalize S ++ Z = A1 at *
        clear htab SN hZ hn d1 cA
        go_enter Tryz.func10, Tryz.ntmps10
        go_wp2_with fail
        refine (unhide K).mono ?_
        rintro _ w1 ⟨rfl, b1⟩
        have B := hide b1
        clear b1 K
        go_wp2
        go_ret
        exact ⟨⟨A2, rfl, unhide R⟩, unhide B⟩
end Go.Proofs.YtobbbhmkcmbekabGreatDoor.bigs
/- The walk of package float: Text. -/
set_option linter.unusedVariables false
namespace Go.Proofs.YtobbbhmkcmbekabGreatDoor.bigs
open Go.RowKit Go.Sort
def sgL (b : Nat) : List UInt8 := if 9223372036854775808 ≤ b then [45] else []
/-- The text of a fraction. -/
def TextIs (b : Nat) (T : List UInt8) : Prop :=
  ((fparts b).2.2 = 2 ∧ T = [110, 97, 110]) ∨ ((fparts b).2.2 = 1 ∧ T = sgL b ++ [105, 110, 102]) ∨ ((fparts b).2.2 = 0 ∧ (fparts b).1 = 0 ∧ T = sgL b ++ [48, 46, 48]) ∨
  ((fparts b).2.2 = 0 ∧ (fparts b).1 ≠ 0 ∧ ∃ (d j : Nat) (ten : Int), d % 10 ≠ 0 ∧ -1080 ≤ ten ∧ Best (b % 9223372036854775808) j (d * 10 ^ (ten + 1080).toNat) ∧ T = sgL b ++ layL (decs d) (((decs d).length : Int) + ten))
theorem textIs_unique {b : Nat} {T U : List UInt8} (h : TextIs b T) (k : TextIs b U) : T = U := by
  rcases h with ⟨a, h⟩ | ⟨a, h⟩ | ⟨a, a2, h⟩ | ⟨a, a2, d, j, ten, h1, h2, h3, h⟩ <;> rcases k with ⟨c, k⟩ | ⟨c, k⟩ | ⟨c, c2, k⟩ | ⟨c, c2, d', j', ten', k1, k2, k3, k⟩ <;> first | (rw [h, k]; done) | omega | skip
  obtain ⟨e1, e2⟩ := short_same h3 k3 h1 k1 h2 k2
  rw [h, k, e1, e2]
theorem and_top (b : Nat) (hb : b < 18446744073709551616) : Go.bits .and .u64 (b : Int) 9223372036854775808 = if 9223372036854775808 ≤ b then 9223372036854775808 else 0 := by
  have h := bits_and_u64_nat b 9223372036854775808 hb (by decide)
  have e : (9223372036854775808 : Nat) = 2 ^ 63 := by decide
  have h2 : b &&& 9223372036854775808 = if 9223372036854775808 ≤ b then 9223372036854775808 else 0 := by
    have top : b.testBit 63 = decide (9223372036854775808 ≤ b) := by
      rw [Nat.testBit_eq_decide_div_mod_eq, ← e, decide_eq_decide]
      omega
    apply Nat.eq_of_testBit_eq
    intro i
    rw [Nat.testBit_and, e, Nat.testBit_two_pow, ← e]
    by_cases c : 9223372036854775808 ≤ b
    · rw [if_pos c, e, Nat.testBit_two_pow]
      by_cases hi : 63 = i
      · rw [← hi, top, decide_eq_true c]; rfl
      · rw [decide_eq_false hi]; simp
    · rw [if_neg c, Nat.zero_testBit]
      by_cases hi : 63 = i
      · rw [← hi, top, decide_eq_false c]; rfl
      · rw [decide_eq_false hi]; simp
  rw [h2] at h
  split at h
  · rw [if_pos (by assumption)]; exact h
  · rw [if_neg (by assumption)]; exact h
/-- What a sign makes of the walk. -/
def SgOf (b : Nat) (G : ByteArray) : Prop := (9223372036854775808 ≤ b ∧ G = ⟨#[45]⟩) ∨ (b < 9223372036854775808 ∧ G = ⟨#[]⟩)
theorem sgOf_list {b : Nat} {G : ByteArray} (h : SgOf b G) : G.data.toList = sgL b ∧ G.size ≤ 1 := by
  unfold sgL
  rcases h with ⟨h, rfl⟩ | ⟨h, rfl⟩
  · rw [if_pos h]; exact ⟨rfl, by decide⟩
  · rw [if_neg (by omega)]; exact ⟨rfl, by decide⟩
set_option maxHeartbeats 8000000 in
set_option maxRecDepth 100000 in
theorem textW_plain (w : World) (b kd : Nat) (hb : b < 18446744073709551616) (hk : (fparts b).2.2 = (kd : Int)) (hkd : (kd = 2) ∨ (kd = 1) ∨ (kd = 0 ∧ (fparts b).1 = 0)) :
    Calls Tryz.prog 6 #[.int .u64 (b : Int)] w fun e w' => (∃ R : ByteArray, e = .returned (.string R) ∧ TextIs b R.data.toList) ∧ Below w.heap.size w w' := by
  have kp := partsW_any w b hb
  have an := and_top b hb
  have TI : ∀ (G : ByteArray), SgOf b G → (kd = 2 → Hid (TextIs b [110, 97, 110])) ∧ (kd = 1 → Hid (TextIs b (G ++ ⟨#[105, 110, 102]⟩).data.toList)) ∧ (kd = 0 → (fparts b).1 = 0 → Hid (TextIs b (G ++ ⟨#[48, 46, 48]⟩).data.toList)) := fun G hG => by
    obtain ⟨g1, _⟩ := sgOf_list hG
    refine ⟨fun h => hide (.inl ⟨by rw [hk, h]; rfl, rfl⟩), fun h => hide (.inr (.inl ⟨by rw [hk, h]; rfl, by rw [cat_list, g1]⟩)), fun h h2 => hide (.inr (.inr (.inl ⟨by rw [hk, h]; rfl, h2, by rw [cat_list, g1]⟩)))⟩
  rw [hk] at kp
  generalize (fparts b).2.1 = ex at *
  generalize (fparts b).1 = mt at *
  have KP := hide kp
  clear kp hk
  by_cases sg : 9223372036854775808 ≤ b
  · rw [if_pos sg] at an
    obtain ⟨t2, t1, t0⟩ := TI ⟨#[45]⟩ (.inl ⟨sg, rfl⟩)
    have d0 : (⟨#[45]⟩ : ByteArray).size = 1 := rfl
    have d1 : (⟨#[105, 110, 102]⟩ : ByteArray).size = 3 := rfl
    have d2 : (⟨#[48, 46, 48]⟩ : ByteArray).size = 3 := rfl
    have c1 := cat_run ⟨#[45]⟩ ⟨#[105, 110, 102]⟩ (by omega)
    have c2 := cat_run ⟨#[45]⟩ ⟨#[48, 46, 48]⟩ (by omega)
    generalize (⟨#[45]⟩ : ByteArray) ++ ⟨#[105, 110, 102]⟩ = A1 at *
    generalize (⟨#[45]⟩ : ByteArray) ++ ⟨#[48, 46, 48]⟩ = A2 at *
    clear TI d0 d1 d2 sg hb
    rcases hkd with rfl | rfl | ⟨rfl, rfl⟩
    · have T := t2 rfl
      clear t2 t1 t0
      go_enter Tryz.func6, Tryz.ntmps6
      go_wp2_with fail
      refine (unhide KP).mono ?_
      rintro _ w1 ⟨rfl, rfl⟩
      clear KP
      go_wp2
      go_ret
      exact ⟨⟨_, rfl, unhide T⟩, Below.refl _ _⟩
    · have T := t1 rfl
      clear t2 t1 t0
      go_enter Tryz.func6, Tryz.ntmps6
      go_wp2_with fail
      refine (unhide KP).mono ?_
      rintro _ w1 ⟨rfl, rfl⟩
      clear KP
      go_wp2
      go_ret
      exact ⟨⟨A1, rfl, unhide T⟩, Below.refl _ _⟩
    · have T := t0 rfl rfl
      clear t2 t1 t0
      go_enter Tryz.func6, Tryz.ntmps6
      go_wp2_with fail
      refine (unhide KP).mono ?_
      rintro _ w1 ⟨rfl, rfl⟩
      clear KP
      go_wp2
      go_ret
      exact ⟨⟨A2, rfl, unhide T⟩, Below.refl _ _⟩
  · rw [if_neg sg] at an
    obtain ⟨t2, t1, t0⟩ := TI ⟨#[]⟩ (.inr ⟨by omega, rfl⟩)
    have d0 : (⟨#[]⟩ : ByteArray).size = 0 := rfl
    have d1 : (⟨#[105, 110, 102]⟩ : ByteArray).size = 3 := rfl
    have d2 : (⟨#[48, 46, 48]⟩ : ByteArray).size = 3 := rfl
    have c1 := cat_run ⟨#[]⟩ ⟨#[105, 110, 102]⟩ (by omega)
    have c2 := cat_run ⟨#[]⟩ ⟨#[48, 46, 48]⟩ (by omega)
    generalize (⟨#[]⟩ : ByteArray) ++ ⟨#[105, 110, 102]⟩ = A1 at *
    generalize (⟨#[]⟩ : ByteArray) ++ ⟨#[48, 46, 48]⟩ = A2 at *
    clear TI d0 d1 d2 sg hb
    rcases hkd with rfl | rfl | ⟨rfl, rfl⟩
    · have T := t2 rfl
      clear t2 t1 t0
      go_enter Tryz.func6, Tryz.ntmps6
      go_wp2_with fail
      refine (unhide KP).mono ?_
      rintro _ w1 ⟨rfl, rfl⟩
      clear KP
      go_wp2
      go_ret
      exact ⟨⟨_, rfl, unhide T⟩, Below.refl _ _⟩
    · have T := t1 rfl
      clear t2 t1 t0
      go_enter Tryz.func6, Tryz.ntmps6
      go_wp2_with fail
      refine (unhide KP).mono ?_
      rintro _ w1 ⟨rfl, rfl⟩
      clear KP
      go_wp2
      go_ret
      exact ⟨⟨A1, rfl, unhide T⟩, Below.refl _ _⟩
    · have T := t0 rfl rfl
      clear t2 t1 t0
      go_enter Tryz.func6, Tryz.ntmps6
      go_wp2_with fail
      refine (unhide KP).mono ?_
      rintro _ w1 ⟨rfl, rfl⟩
      clear KP
      go_wp2
      go_ret
      exact ⟨⟨A2, rfl, unhide T⟩, Below.refl _ _⟩
theorem exp_len {D : List UInt8} {x : Int} (hD : D.length ≤ 100) (h1 : -100000 ≤ x) (h2 : x ≤ 100000) : (expL D x).length ≤ 500 := by
  unfold expL
  have h := itoa_len x h1 h2
  rw [List.length_append, List.length_append, List.length_take, List.length_cons]
  split
  · simp; omega
  · rw [List.length_cons, List.length_drop]; omega
theorem lay_len {D : List UInt8} {p : Int} (hD : D.length ≤ 100) (h1 : -10000 ≤ p) (h2 : p ≤ 10000) : (layL D p).length ≤ 500 := by
  unfold layL
  split
  · exact exp_len hD (by omega) (by omega)
  · split
    · rw [List.length_append, List.length_append, List.length_replicate]; simp; omega
    · split
      · rw [List.length_append, List.length_take, List.length_cons, List.length_drop]; omega
      · rw [List.length_append, List.length_append, List.length_replicate]; simp; omega
set_option maxHeartbeats 8000000 in
set_option maxRecDepth 100000 in
theorem textW_num (w : World) (b r : Nat) (hb : b < 18446744073709551616) (hr : r = b % 9223372036854775808) (h0 : 0 < r) (hi : r < 9218868437227405312) (htab : Lib.TabIs Tryz.prog w "internal/strconv.uint64pow10" .u64 Lib.pow10Tab) :
    Calls Tryz.prog 6 #[.int .u64 (b : Int)] w fun e w' => (∃ R : ByteArray, e = .returned (.string R) ∧ TextIs b R.data.toList) ∧ Below w.heap.size w w' := by
  obtain ⟨e1, e2, e3⟩ := parts_sign b r hb hr h0 hi
  have KS := hide (short_any w b r hb hr h0 hi htab)
  have mp : 0 < mant r := by unfold mant; split <;> omega
  have TI : ∀ (G R : ByteArray) (d j : Nat) (ten : Int), SgOf b G → d % 10 ≠ 0 → -1080 ≤ ten → Best r j (d * 10 ^ (ten + 1080).toNat) → R.data.toList = layL (decs d) (((decs d).length : Int) + ten) → TextIs b (G ++ R).data.toList := fun G R d j ten hG hd ht hB hR => by
    obtain ⟨g1, _⟩ := sgOf_list hG
    refine .inr (.inr (.inr ⟨e3, by rw [e1]; omega, d, j, ten, hd, ht, by rw [← hr]; exact hB, ?_⟩))
    rw [cat_list, g1, hR]
  have kp := partsW_any w b hb
  rw [e1, e2, e3] at kp
  have an := and_top b hb
  have HI := hide (And.intro h0 hi)
  have HTI := hide TI
  have HT := hide htab
  obtain ⟨m, hm⟩ : ∃ m, m = mant r := ⟨_, rfl⟩
  obtain ⟨ex, hex⟩ : ∃ ex : Int, ex = ((r / 4503599627370496 - 1 : Nat) : Int) - 1074 := ⟨_, rfl⟩
  rw [← hm, ← hex] at kp
  rw [← hm] at mp
  have m0 : ((m : Int) == 0) = false := beq_false_of_ne (by omega)
  have KP := hide kp
  obtain ⟨G, hG, hsg⟩ : ∃ G, SgOf b G ∧ ((Go.bits .and .u64 (b : Int) 9223372036854775808 = 9223372036854775808 ∧ G = ⟨#[45]⟩) ∨ (Go.bits .and .u64 (b : Int) 9223372036854775808 = 0 ∧ G = ⟨#[]⟩)) := by
    by_cases sg : 9223372036854775808 ≤ b
    · rw [if_pos sg] at an
      exact ⟨_, .inl ⟨sg, rfl⟩, .inl ⟨an, rfl⟩⟩
    · rw [if_neg sg] at an
      exact ⟨_, .inr ⟨by omega, rfl⟩, .inr ⟨an, rfl⟩⟩
  have HG := hide hG
  clear kp TI e1 e2 e3 hr h0 hi htab hm hex an hG
  rcases hsg with ⟨an, rfl⟩ | ⟨an, rfl⟩
  all_goals
    go_enter Tryz.func6, Tryz.ntmps6
    go_wp2_with fail
    refine (unhide KP).mono ?_
    rintro _ w1 ⟨rfl, e1⟩
    rw [e1]
    clear KP e1
    go_wp2_with fail
    refine (unhide KS).mono ?_
    rintro _ w2 ⟨⟨d, ten, rfl, hd10, hd64, t1, t2, j, hB⟩, b2⟩
    have h17 := best_17 (unhide HI).1 hB rfl hd10
    have L17 : (decs d).length ≤ 17 := decs_length_le h17 (by decide)
    have L1 : 0 < (decs d).length := List.length_pos_iff.2 (decs_form d).1
    rw [decDigits_decs]
    obtain ⟨S, hS⟩ : ∃ S : ByteArray, S = ⟨(decs d).toArray⟩ := ⟨_, rfl⟩
    have hSs : S.size = (decs d).length := by rw [hS, bytes_len]
    have hSl : S.data.toList = decs d := by rw [hS]
    rw [← hS]
    obtain ⟨p, hp⟩ : ∃ p : Int, p = (S.size : Int) + ten := ⟨_, rfl⟩
    have y : IntKind.i64.wrap ((S.size : Int) + ten) = p := by rw [hp, i64_keep _ (by omega) (by omega)]
    have KL := hide (layOut_any w2 S p (by omega) (by omega) (by omega) (by omega) (tab_below (unhide HT) b2))
    have HTT := hide (fun (R : ByteArray) (hR : R.data.toList = layL S.data.toList p) => unhide HTI _ R d j ten (unhide HG) hd10 (by omega) hB (by rw [hR, hSl, hp, hSs]))
    have B2 := hide b2
    have SB : Hid (S.size ≤ 100 ∧ -10000 ≤ p ∧ p ≤ 10000) := hide ⟨by omega, by omega, by omega⟩
    clear KS hB b2 hS hSs hSl hp HTI HG HI HT h17 L17 L1
    go_wp2_with fail
    refine (unhide KL).mono ?_
    rintro _ w3 ⟨⟨R, rfl, hR⟩, b3⟩
    have HTX := hide (unhide HTT R hR)
    have B3 := hide ((unhide B2).trans (b3.mono (unhide B2).size))
    have Rs : R.size ≤ 500 := by
      have h := lay_len (D := S.data.toList) (p := p) (by rw [blen_list]; exact (unhide SB).1) (unhide SB).2.1 (unhide SB).2.2
      rw [← hR, blen_list] at h
      exact h
    have d0 : (⟨#[45]⟩ : ByteArray).size = 1 := rfl
    have d00 : (⟨#[]⟩ : ByteArray).size = 0 := rfl
    have c1 := cat_run ⟨#[45]⟩ R (by omega)
    have c2 := cat_run ⟨#[]⟩ R (by omega)
    clear KL hR b3 HTT B2 d0 d00 SB
    generalize (⟨#[45]⟩ : ByteArray) ++ R = A1 at *
    generalize (⟨#[]⟩ : ByteArray) ++ R = A2 at *
    go_wp2
    go_ret
    exact ⟨⟨_, rfl, unhide HTX⟩, unhide B3⟩
theorem kind_cases (b : Nat) (hb : b < 18446744073709551616) : (∃ kd : Nat, (fparts b).2.2 = (kd : Int) ∧ (kd = 2 ∨ kd = 1 ∨ (kd = 0 ∧ (fparts b).1 = 0))) ∨ (0 < b % 9223372036854775808 ∧ b % 9223372036854775808 < 9218868437227405312) := by
  by_cases h : b % 9223372036854775808 = 0 ∨ 9218868437227405312 ≤ b % 9223372036854775808
  · left
    rcases back_none_plain rfl hb h with e | e | ⟨e1, e2⟩
    · exact ⟨1, e, .inr (.inl rfl)⟩
    · exact ⟨2, e, .inl rfl⟩
    · exact ⟨0, e1, .inr (.inr ⟨rfl, e2⟩)⟩
  · right; omega
theorem textW_any (w : World) (b : Nat) (hb : b < 18446744073709551616) (htab : Lib.TabIs Tryz.prog w "internal/strconv.uint64pow10" .u64 Lib.pow10Tab) :
    Calls Tryz.prog 6 #[.int .u64 (b : Int)] w fun e w' => (∃ R : ByteArray, e = .returned (.string R) ∧ TextIs b R.data.toList) ∧ Below w.heap.size w w' := by
  rcases kind_cases b hb with ⟨kd, h1, h2⟩ | ⟨h1, h2⟩
  · exact textW_plain w b kd hb h1 h2
  · exact textW_num w b _ hb rfl h1 h2 htab
end Go.Proofs.YtobbbhmkcmbekabGreatDoor.bigs
/- The document's FloatText. -/
set_option linter.unusedVariables false
namespace Go.Proofs.YtobbbhmkcmbekabGreatDoor.bigs
open Go.RowKit Go.Sort
theorem best_ten {r j d t : Nat} (hi : r < 9218868437227405312) (h : Best r j (d * 10 ^ t)) (hd : d ≠ 0) : t ≤ 4001 := by
  obtain ⟨h1, h2, _⟩ := h
  have hX := len_X r hi
  have hlt := dec_lt (decs_form (fX r)).2.1
  rw [dec_decs] at hlt
  obtain ⟨K, hK⟩ : ∃ K, K = (decs (fX r)).length := ⟨_, rfl⟩
  rw [← hK] at hX hlt
  have hu : d * 10 ^ t ≤ fX r + 10 ^ j := by
    have u1 := lowOf_le (fX r) j
    have u2 : upOf (fX r) j ≤ fX r + 10 ^ j := by
      unfold upOf
      split
      · exact Nat.le_trans u1 (Nat.le_add_right _ _)
      · exact Nat.add_le_add_right u1 _
    have u3 : lowOf (fX r) j ≤ fX r + 10 ^ j := Nat.le_trans u1 (Nat.le_add_right _ _)
    unfold Pick at h2
    rcases h2 with ⟨_, _, e⟩ | ⟨_, _, e⟩ | ⟨_, _, ⟨_, e⟩ | ⟨_, e⟩⟩ <;> rw [e] <;> first | exact u2 | exact u3
  have h3 : 1 * 10 ^ t ≤ d * 10 ^ t := Nat.mul_le_mul_right _ (by omega)
  have h4 : (10 : Nat) ^ (K + 1) = 10 ^ K * 10 := Nat.pow_succ ..
  have h5 : (10 : Nat) ^ t < 10 ^ (K + 1) := by omega
  have := (Nat.pow_lt_pow_iff_right (a := 10) (by decide)).1 h5
  omega
theorem quo_top (b : Nat) (hb : b < 18446744073709551616) (s : Int) (hs : (9223372036854775808 ≤ b ∧ s = 1) ∨ (b < 9223372036854775808 ∧ s = 0)) : IntKind.u64.wrap ((b : Int).tdiv 9223372036854775808) = s ∧ IntKind.u64.wrap ((b : Int) / 9223372036854775808) = s ∧ (b : Int) / 9223372036854775808 = s := by
  have e : (b : Int) / 9223372036854775808 = s := by omega
  have e2 : (b : Int).tdiv 9223372036854775808 = s := by rw [Int.tdiv_eq_ediv_of_nonneg (by omega), e]
  have e3 : IntKind.u64.wrap s = s := by
    simp [IntKind.wrap, IntKind.bits, IntKind.signed]
    omega
  rw [e2, e, e3]
  exact ⟨rfl, rfl, rfl⟩
end Go.Proofs.YtobbbhmkcmbekabGreatDoor.bigs
