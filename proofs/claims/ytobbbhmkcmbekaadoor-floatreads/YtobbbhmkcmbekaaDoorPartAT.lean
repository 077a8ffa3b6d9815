/- The walk of the document's answer: ReadFloat. -/
import Derived.Test.YtobbbhmkcmbekaaDoorPartAS
import Derived.Test.YtobbbhmkcmbekaaDoorPartAE
import Derived.BigQuiet
import Derived.Deep.CutRange
set_option linter.unusedVariables false
namespace Go.Proofs.YtobbbhmkcmbekaaDoor.bigs
open Go.RowKit

/-- Is there a digit at a place? -/
def DigAt (l : List UInt8) (k : Nat) : Prop := ∃ c, l[k]? = some c ∧ 48 ≤ c.toNat ∧ c.toNat ≤ 57
theorem isDigit_any (w : World) (s : ByteArray) (k : Nat) (hs : s.size ≤ 80) (hk : k ≤ 1000) (b : Bool) (hb : Hid (b = true ↔ DigAt s.data.toList k)) :
    Calls Tryd.prog 37 #[.string s, .int .i64 k] w fun e w' => e = .returned (.bool b) ∧ w' = w := by
  by_cases h : k < s.size
  · refine isDigit_in w s k (by omega) h b (hide ?_)
    rw [unhide hb]
    unfold DigAt
    rw [byte_get s k h]
    simp
  · have e : b = false := by
      cases hbe : b with
      | false => rfl
      | true =>
        obtain ⟨c, hc, _⟩ := (unhide hb).1 hbe
        have := (List.getElem?_eq_some_iff.1 hc).1
        rw [blen_list] at this
        omega
    rw [e]
    exact isDigit_past w s k (by omega) (by omega) (by omega)
theorem drop_nonD {l : List UInt8} {k : Nat} (h : ¬ DigAt l k) : NonD (l.drop k) := by
  intro b r e hb
  refine h ⟨b, ?_, hb⟩
  have : (l.drop k)[0]? = some b := by rw [e]; rfl
  rwa [List.getElem?_drop, Nat.add_zero] at this
theorem digAt_take {l : List UInt8} {k : Nat} (hd : Dig10 (l.take k)) (h : DigAt l k) : Dig10 (l.take (k + 1)) := by
  obtain ⟨c, hc, h2⟩ := h
  exact take_dig hd hc h2
theorem digAt_lt {l : List UInt8} {k : Nat} (h : DigAt l k) : k < l.length := by
  obtain ⟨c, hc, _⟩ := h
  exact (List.getElem?_eq_some_iff.1 hc).1
theorem ext_one (s : ByteArray) (k : Nat) (h : k < s.size) : (s.extract k (k + 1)).data.toList = [s[k]'h] := by
  rw [ext_toList, List.take_add_one, byte_get s k h, List.drop_append_of_le_length (by rw [List.length_take, blen_list]; omega), List.drop_eq_nil_of_le (by rw [List.length_take]; omega)]
  rfl
theorem app_take (s d : ByteArray) (k : Nat) (h : k < s.size) (pre : List UInt8) (hd : d.data.toList = pre ++ s.data.toList.take k) : (d ++ s.extract k (k + 1)).data.toList = pre ++ s.data.toList.take (k + 1) := by
  rw [app_list, hd, ext_one s k h, List.take_add_one, byte_get s k h, List.append_assoc]
  rfl
theorem drop_cons {l : List UInt8} {k : Nat} {c : UInt8} (h : l[k]? = some c) : l.drop k = c :: l.drop (k + 1) := by
  obtain ⟨hl, he⟩ := List.getElem?_eq_some_iff.1 h
  rw [← he, List.getElem_cons_drop]
def After (l W P R : List UInt8) : Prop := ∀ W' P' x, Num l W' P' x ↔ W' = W ∧ P' = P ∧ ((R = [] ∧ P ≠ [] ∧ x = 0) ∨ ∃ Z, R = 101 :: Z ∧ Exp Z x)
theorem after_plain {l : List UInt8} {k : Nat} {c : UInt8} (hc : l[k]? = some c) (h46 : c ≠ 46) (dW : Dig10 (l.take k)) (wn : l.take k ≠ []) (ld : (l.take k).length = 1 ∨ (l.take k).getD 0 0 ≠ 48) (nd : NonD (l.drop k)) : After l (l.take k) [] (l.drop k) := by
  intro W' P' x
  have e := drop_cons hc
  constructor
  · intro h
    obtain ⟨e1, r⟩ := num_split (List.take_append_drop k l).symm dW nd h
    by_cases h101 : c = 101
    · subst h101
      rw [e] at r
      obtain ⟨p, ex⟩ := rest_exp r
      exact ⟨e1, p, .inr ⟨_, e, ex⟩⟩
    · rw [e] at r
      exact absurd r (fun r => rest_other h46 h101 r)
  · rintro ⟨rfl, rfl, ⟨_, h, _⟩ | ⟨Z, hZ, ex⟩⟩
    · exact absurd rfl h
    · exact ⟨l.drop k, (List.take_append_drop k l).symm, ⟨wn, dW⟩, ld, .inr (.inr ⟨Z, hZ, rfl, ex⟩)⟩
theorem after_point {l : List UInt8} {k j : Nat} (hc : l[k]? = some 46) (dW : Dig10 (l.take k)) (wn : l.take k ≠ []) (ld : (l.take k).length = 1 ∨ (l.take k).getD 0 0 ≠ 48) (nd : NonD (l.drop k)) (dP : Dig10 ((l.drop (k + 1)).take j)) (nP : NonD ((l.drop (k + 1)).drop j)) (pn : (l.drop (k + 1)).take j ≠ []) :
    After l (l.take k) ((l.drop (k + 1)).take j) ((l.drop (k + 1)).drop j) := by
  intro W' P' x
  have e := drop_cons hc
  have e2 : l.drop (k + 1) = (l.drop (k + 1)).take j ++ (l.drop (k + 1)).drop j := (List.take_append_drop j _).symm
  constructor
  · intro h
    obtain ⟨e1, r⟩ := num_split (List.take_append_drop k l).symm dW nd h
    rw [e, e2] at r
    obtain ⟨p, _, q⟩ := rest_point dP nP r
    refine ⟨e1, p, ?_⟩
    rcases q with ⟨q1, q2⟩ | q
    · exact .inl ⟨q1, pn, q2⟩
    · exact .inr q
  · rintro ⟨rfl, rfl, q⟩
    refine ⟨l.drop k, (List.take_append_drop k l).symm, ⟨wn, dW⟩, ld, ?_⟩
    rw [e]
    rcases q with ⟨q1, _, rfl⟩ | ⟨Z, hZ, ex⟩
    · refine .inl ⟨?_, ⟨pn, dP⟩, rfl⟩
      have : l.drop (k + 1) = (l.drop (k + 1)).take j := by
        have h := e2
        rw [q1, List.append_nil] at h
        exact h
      rw [← this]
    · refine .inr (.inl ⟨Z, ?_, ⟨pn, dP⟩, ex⟩)
      rw [← hZ, ← e2]
theorem no_point {l : List UInt8} {k : Nat} (hc : l[k]? = some 46) (dW : Dig10 (l.take k)) (nd : NonD (l.drop k)) (nP : NonD (l.drop (k + 1))) : ¬ ∃ W P x, Num l W P x := by
  rintro ⟨W', P', x, h⟩
  obtain ⟨e1, r⟩ := num_split (List.take_append_drop k l).symm dW nd h
  rw [drop_cons hc] at r
  have := rest_point (P := []) (R := l.drop (k + 1)) (fun b hb => by cases hb) nP r
  exact this.2.1 rfl
theorem app_drop (s d : ByteArray) (a j : Nat) (h : a + j < s.size) (pre : List UInt8) (hd : d.data.toList = pre ++ (s.data.toList.drop a).take j) : (d ++ s.extract (a + j) (a + j + 1)).data.toList = pre ++ (s.data.toList.drop a).take (j + 1) := by
  rw [app_list, hd, ext_one s (a + j) h, List.take_add_one, List.getElem?_drop, byte_get s (a + j) h, List.append_assoc]
  rfl
theorem digAt_drop {l : List UInt8} {a j : Nat} (hd : Dig10 ((l.drop a).take j)) (h : DigAt l (a + j)) : Dig10 ((l.drop a).take (j + 1)) := by
  obtain ⟨c, hc, h2⟩ := h
  exact take_dig hd (by rw [List.getElem?_drop]; exact hc) h2
theorem drop_nonD2 {l : List UInt8} {a j : Nat} (h : ¬ DigAt l (a + j)) : NonD ((l.drop a).drop j) := by
  rw [List.drop_drop]
  exact drop_nonD h
theorem nearestOf_all (w : World) (v : Value) (m : Nat) (x : Int) (h0 : m ≠ 0) (hm : (dig m).length ≤ 20) (hv : Lies w v m) (h1 : -500 ≤ x) (h2 : x ≤ 400) :
    Calls Tryd.prog 38 #[v, .int .i64 x] w fun e w' => ∃ r : Nat, e = .returned (.int .u64 r) ∧ NearD m x r ∧ Below w.heap.size w w' := by
  by_cases c : 0 ≤ x
  · obtain ⟨N, rfl⟩ : ∃ N : Nat, x = N := ⟨x.toNat, by omega⟩
    refine (nearestOf_up w v m N (by omega) h0 (by omega) hv).mono ?_
    rintro e w' ⟨r, rfl, hr, _, b⟩
    refine ⟨r, rfl, .inr ⟨h0, ?_⟩, b⟩
    rw [show ((N : Int)).toNat = N by omega, show (-(N : Int)).toNat = 0 by omega, Nat.pow_zero]
    exact hr
  · obtain ⟨N, rfl⟩ : ∃ N : Nat, x = -(N : Int) := ⟨(-x).toNat, by omega⟩
    refine (nearestOf_down w v m N (by omega) h0 (by omega) (by omega) hv).mono ?_
    rintro e w' ⟨r, rfl, hr, _, b⟩
    refine ⟨r, rfl, .inr ⟨h0, ?_⟩, b⟩
    rw [show (-(N : Int)).toNat = 0 by omega, show (-(-(N : Int))).toNat = N by omega, Nat.pow_zero, Nat.mul_one]
    exact hr
theorem dig_ne0 {m : Nat} (h : m ≠ 0) : (dig m).length ≠ 0 := by
  rw [dig_pos h]
  simp
theorem not_allD {l : List UInt8} (n : NonD l) (a : AllD l) : False := by
  cases l with
  | nil => exact a.1 rfl
  | cons b r => exact n b r rfl (a.2 b (by simp))
theorem not_allD2 {l : List UInt8} {j : Nat} (h : j < l.length) (n : NonD (l.drop j)) (a : AllD l) : False := by
  cases hl : l.drop j with
  | nil =>
    have := List.length_drop (i := j) (l := l)
    rw [hl] at this
    simp at this
    omega
  | cons b r => exact n b r hl (a.2 b (List.mem_of_mem_drop (by rw [hl]; simp)))
theorem dec_next {l : List UInt8} {a j : Nat} {c : UInt8} (h : l[a + j]? = some c) : dec ((l.drop a).take (j + 1)) = dec ((l.drop a).take j) * 10 + (c.toNat - 48) := dec_take (by rw [List.getElem?_drop]; exact h)
/-- The document's count of an exponent. -/
def CapN (n E : Nat) : Prop := E = n ∨ (10000 ≤ n ∧ 10000 ≤ E)
/-- An exponent as the document caps it. -/
def CapD (x E : Int) : Prop := x = E ∨ (10000 ≤ x ∧ 10000 ≤ E) ∨ (x ≤ -10000 ∧ E ≤ -10000)
theorem capN_D {n E : Nat} {mn : Int} (h : CapN n E) (hm : mn = 1 ∨ mn = -1) : CapD (mn * (n : Int)) ((E : Int) * mn) := by
  unfold CapN at h
  unfold CapD
  rcases hm with rfl | rfl <;> omega
theorem capD_alike {x E : Int} {p : Nat} (h : CapD x E) (hp : p ≤ 80) : Alike (E - (p : Int)) (x - (p : Int)) := by
  unfold CapD at h
  unfold Alike
  omega
set_option maxHeartbeats 16000000 in
set_option maxRecDepth 100000 in
theorem refRead_core (w : World) (s t : ByteArray) (sg : Nat) (hs : s.size ≤ 80) (ht : t.size ≤ 80) (hnan : (s.toList == [110, 97, 110]) = false) (hinf : (t.toList == [105, 110, 102]) = false) (hsg : (s.data.toList = 45 :: t.data.toList ∧ sg = 9223372036854775808) ∨ ((∀ r, s.data.toList ≠ 45 :: r) ∧ t = s ∧ sg = 0)) :
    Calls Tryd.prog 15 #[.string s] w fun e w' => ∃ (v : Nat) (x : Int), e = .returned (.tuple #[.int .u64 v, .int .i64 x]) ∧ Res t.data.toList sg v x ∧ Below w.heap.size w w' := by
  have i1 : ¬ (80 : Int) < (s.size : Int) := by omega
  have HSG := hide hsg
  clear hsg
  go_enter Tryd.func15, Tryd.ntmps15
  go_upto_region 6 with fail
  obtain ⟨neg, hneg⟩ : ∃ neg : Bool, neg = true ↔ ∃ r, s.data.toList = 45 :: r := by
    classical
    exact ⟨decide (∃ r, s.data.toList = 45 :: r), by simp⟩
  have HNEG := hide hneg
  clear hneg
  go_cut [23] from 17 to 22 (fun s23 wx => s23 = .bool neg ∧ wx = w)
  case first =>
    by_cases h0 : 0 < s.size
    · obtain ⟨ie1, ie2⟩ := isEmpty_false h0
      have li : (0 : Int) < (s.size : Int) := by omega
      have F : Hid (neg = decide (((s[0]'h0).toNat : Int) = 45)) := hide (by
        have hb := byte_get s 0 h0
        rw [Bool.eq_iff_iff, unhide HNEG, decide_eq_true_iff]
        constructor
        · rintro ⟨r, hr⟩
          rw [hr] at hb
          have e : (45 : UInt8) = s[0]'h0 := by simpa using hb
          rw [← e]
          rfl
        · intro h
          refine ⟨s.data.toList.drop 1, ?_⟩
          have e : (s[0]'h0) = 45 := UInt8.toNat_inj.1 (by show (s[0]'h0).toNat = 45; omega)
          rw [e] at hb
          have := List.getElem?_eq_some_iff.1 hb
          obtain ⟨hl, he⟩ := this
          rw [← he, List.getElem_cons_drop, List.drop_zero])
      clear HNEG HSG
      go_wp2
      go_meet
      case rel => exact ⟨by rw [unhide F]; first | rfl | simp, by trivial⟩
    · have ie : s.toList = [] := by
        rw [ByteArray.toList_eq]
        exact List.eq_nil_of_length_eq_zero (by rw [blen_list]; omega)
      have F : Hid (neg = false) := hide (by
        cases hh : neg with
        | false => rfl
        | true =>
          obtain ⟨r, hr⟩ := (unhide HNEG).1 hh
          rw [ByteArray.toList_eq, hr] at ie
          cases ie)
      clear HNEG HSG
      go_wp2
      go_meet
      case rel => exact ⟨by rw [unhide F], by trivial⟩
  case rest =>
  obtain ⟨rfl, rfl⟩ := hcut
  go_upto_if 23 with fail
  go_cut [0, 4] from 24 to 25 (fun s0 s4 wx => s0 = .string t ∧ s4 = .int .u64 sg ∧ Below wc.heap.size wc wx)
  case first =>
    cases hn : neg with
    | false =>
      subst hn
      have F : Hid (t = s ∧ sg = 0) := hide (by
        rcases unhide HSG with ⟨e1, e2⟩ | ⟨e1, e2, e3⟩
        · exact absurd ((unhide HNEG).2 ⟨_, e1⟩) (by decide)
        · exact ⟨e2, e3⟩)
      clear HNEG HSG
      go_wp2
      go_meet
      case rel =>
        obtain ⟨e1, e2⟩ := unhide F
        subst e2
        exact ⟨by rw [e1], rfl, Below.refl _ _⟩
    | true =>
      subst hn
      obtain ⟨r, hr⟩ := (unhide HNEG).1 rfl
      have F : Hid (t = s.extract 1 s.size ∧ sg = 9223372036854775808) := hide (by
        rcases unhide HSG with ⟨e1, e2⟩ | ⟨e1, e2, e3⟩
        · refine ⟨?_, e2⟩
          apply ByteArray.ext
          apply Array.toList_inj.1
          rw [ext_toList, ← blen_list, List.take_length, e1]
          rfl
        · exact absurd hr (e1 r))
      have li : (1 : Int) ≤ (s.size : Int) := by
        have := blen_list s
        rw [hr, List.length_cons] at this
        omega
      clear HNEG HSG hr
      go_wp2_with fail
      go_quiet (fail)
      go_wp2
      go_meet
      case rel =>
        obtain ⟨e1, e2⟩ := unhide F
        subst e2
        exact ⟨by rw [e1], rfl, below_drewN (Below.refl _ _) _⟩
  case rest =>
  rename_i wc0
  obtain ⟨rfl, rfl, bw⟩ := hcut
  have hsg2 : sg ≤ 9223372036854775808 := by rcases unhide HSG with ⟨_, e⟩ | ⟨_, _, e⟩ <;> omega
  clear HSG hnan i1 hs
  generalize hSI : (sg : Int) = sI at *
  have b1 : (0 : Int) ≤ sI := by omega
  have b2 : sI ≤ 9223372036854775808 := by omega
  have HSI := hide hSI
  clear hSI
  go_wp2_with fail
  go_loopw [5, 6] (fun i d wr => ∃ (k : Nat) (ds : ByteArray), k ≤ t.size ∧ i = .int .i64 k ∧ d = .string ds ∧ ds.data.toList = t.data.toList.take k ∧ Dig10 (t.data.toList.take k) ∧ wr = wc) (fun i _ _ => t.size - (intOf i).toNat)
  case atStart => exact ⟨0, ⟨#[]⟩, Nat.zero_le _, rfl, rfl, rfl, (fun b hb => by simp at hb), rfl⟩
  case round =>
    obtain ⟨k, ds, hk, rfl, rfl, hds, hdg, rfl⟩ := hrel
    have hdl : ds.size ≤ 80 := by rw [← blen_list, hds, List.length_take]; omega
    have HDS := hide hds
    have HDG := hide hdg
    clear hds hdg
    classical
    have K := hide (isDigit_any wr t k ht (by omega) (decide (DigAt t.data.toList k)) (hide (by simp)))
    by_cases hd : DigAt t.data.toList k
    · rw [decide_eq_true hd] at K
      have hlt : k < t.size := by have := digAt_lt hd; rwa [blen_list] at this
      have N1 := hide (app_take t ds k hlt [] (by rw [List.nil_append]; exact unhide HDS))
      have N2 := hide (digAt_take (unhide HDG) hd)
      have l1 : (k : Int) + 1 ≤ (t.size : Int) := by omega
      have l2 : (k : Int) ≤ (k : Int) + 1 := by omega
      clear HDS HDG hd
      go_wp2_with fail
      refine (unhide K).mono ?_
      rintro e w2 ⟨rfl, rfl⟩
      go_wp2
      go_roundw
      case rel => exact ⟨k + 1, _, by omega, by go_num, rfl, by rw [unhide N1, List.nil_append], unhide N2, by trivial⟩
      case measure => simp [intOf]; omega
    · rw [decide_eq_false hd] at K
      have ND := hide (drop_nonD hd)
      clear hd
      go_wp2_with fail
      refine (unhide K).mono ?_
      rintro e w2 ⟨rfl, rfl⟩
      clear K
      have NS : ∀ W' P' x, Num t.data.toList W' P' x → Hid (W' = t.data.toList.take k ∧ Rest (t.data.toList.drop k) P' x) := fun W' P' x h => hide (num_split (List.take_append_drop k _).symm (unhide HDG) (unhide ND) h)
      by_cases k0 : k = 0
      · subst k0
        have FR : Hid (Res t.data.toList sg 0 4) := hide (.inr ⟨fun ⟨W', P', x, h⟩ => by
          obtain ⟨e1, _⟩ := unhide (NS W' P' x h)
          obtain ⟨R, _, a, _⟩ := h
          exact a.1 (by rw [e1]; rfl), rfl, rfl⟩)
        clear NS HDS HDG ND
        go_wp2
        go_ret2
        exact ⟨0, 4, rfl, unhide FR, bw⟩
      · have k0' : ((k : Int) == 0) = false := beq_false_of_ne (by omega)
        have t0 : 0 < t.size := by omega
        have ti : (0 : Int) < (t.size : Int) := by omega
        have g0 : (t.data.toList.take k).getD 0 0 = t[0]'t0 := by
          have := byte_get t 0 t0
          rw [List.getD, List.getElem?_take, if_pos (by omega), this]
          rfl
        have gl : (t.data.toList.take k).length = k := by rw [List.length_take, blen_list]; omega
        by_cases lead : 1 < k ∧ (t[0]'t0).toNat = 48
        · have FR : Hid (Res t.data.toList sg 0 4) := hide (.inr ⟨fun ⟨W', P', x, h⟩ => by
            obtain ⟨e1, _⟩ := unhide (NS W' P' x h)
            obtain ⟨R, _, _, z, _⟩ := h
            rw [e1, g0, gl] at z
            rcases z with z | z
            · omega
            · exact z (UInt8.toNat_inj.1 lead.2), rfl, rfl⟩)
          have l1 : (1 : Int) < (k : Int) := by omega
          have l2 : ((t[0]'t0).toNat : Int) = 48 := by omega
          clear NS HDS HDG ND lead g0 gl
          go_wp2
          go_ret2
          exact ⟨0, 4, rfl, unhide FR, bw⟩
        · by_cases ke : k = t.size
          · subst ke
            have FR : Hid (Res t.data.toList sg 0 4) := hide (.inr ⟨fun ⟨W', P', x, h⟩ => by
              obtain ⟨_, e2⟩ := unhide (NS W' P' x h)
              rw [List.drop_eq_nil_of_le (by rw [blen_list]; omega)] at e2
              exact rest_nil e2, rfl, rfl⟩)
            clear NS HDS HDG ND lead g0 gl
            go_wp2
            all_goals (go_ret2; exact ⟨0, 4, rfl, unhide FR, bw⟩)
          · have kl : k < t.size := by omega
            have ki : (k : Int) < (t.size : Int) := by omega
            have kne : ((k : Int) == (t.size : Int)) = false := beq_false_of_ne (by omega)
            have LD : Hid ((t.data.toList.take k).length = 1 ∨ (t.data.toList.take k).getD 0 0 ≠ 48) := hide (by
              rw [g0, gl]
              by_cases q : k = 1
              · exact .inl q
              · right
                intro e
                exact lead ⟨by omega, by rw [e]; rfl⟩)
            have ld : ¬ (1 : Int) < (k : Int) ∨ ((t[0]'t0).toNat : Int) ≠ 48 := by omega
            have WN : Hid (t.data.toList.take k ≠ []) := hide (fun e => by rw [e] at gl; simp at gl; omega)
            clear lead g0 gl
            go_upto_region 15 with fail
            go_cut [58] from 42 to 57 (fun s58 wx => s58 = .bool false ∧ w2 = wx)
            case first =>
              go_wp2
              all_goals (go_meet; exact ⟨by first | rfl | trivial | simp_all, by first | rfl | trivial⟩)
            case rest =>
            obtain ⟨rfl, rfl⟩ := hcut
            have hb := byte_get t k kl
            have HB := hide hb
            clear hb ld k0 k0' ke kne
            go_upto_if 62 with fail
            go_cut [5, 6, 7] from 59 to 80 (fun s5 s6 s7 wx => ∃ (i : Nat) (es : ByteArray) (P : List UInt8), s5 = .int .i64 i ∧ s6 = .string es ∧ s7 = .int .i64 ((P.length : Nat) : Int) ∧ i ≤ t.size ∧ P.length ≤ 80 ∧ es.data.toList = t.data.toList.take k ++ P ∧ Dig10 P ∧ Hid (After t.data.toList (t.data.toList.take k) P (t.data.toList.drop i)) ∧ Hid (i = t.size → P ≠ []) ∧ w2 = wx)
            case first =>
              by_cases c46 : (t[k]'kl).toNat = 46
              · have c46' : (((t[k]'kl).toNat : Int) == 46) = true := by simp; omega
                have e46 : t[k]'kl = 46 := UInt8.toNat_inj.1 c46
                have HC : Hid (t.data.toList[k]? = some 46) := hide (by rw [unhide HB, e46])
                clear NS e46 c46
                rw [c46']
                clear c46'
                go_wp2_with fail
                go_loopw [5, 6, 7] (fun i d n wr => ∃ (j q : Nat) (es : ByteArray), Hid (k + 1 + j = q) ∧ q ≤ t.size ∧ i = .int .i64 q ∧ d = .string es ∧ n = .int .i64 j ∧ es.data.toList = t.data.toList.take k ++ (t.data.toList.drop (k + 1)).take j ∧ Dig10 ((t.data.toList.drop (k + 1)).take j) ∧ wr = w2) (fun i _ _ _ => t.size - (intOf i).toNat)
                case atStart => exact ⟨0, k + 1, ds, hide rfl, by omega, by go_num, rfl, rfl, by rw [List.take_zero, List.append_nil]; exact unhide HDS, (fun b hb => by simp at hb), rfl⟩
                case round =>
                  obtain ⟨j, q, es, HQ, hj, rfl, rfl, rfl, hes, hdp, rfl⟩ := hrel
                  have hel : es.size ≤ 200 := by rw [← blen_list, hes, List.length_append, List.length_take, List.length_take, List.length_drop, blen_list]; have := unhide HQ; omega
                  have HES := hide hes
                  have HDP := hide hdp
                  clear hes hdp
                  have K := hide (isDigit_any wr t q ht (by omega) (decide (DigAt t.data.toList q)) (hide (by simp)))
                  by_cases hd : DigAt t.data.toList q
                  · rw [decide_eq_true hd] at K
                    have hlt : q < t.size := by have := digAt_lt hd; rwa [blen_list] at this
                    have N1 : Hid ((es ++ t.extract q (q + 1)).data.toList = t.data.toList.take k ++ (t.data.toList.drop (k + 1)).take (j + 1)) := hide (by rw [← unhide HQ]; exact app_drop t es (k + 1) j (by rw [unhide HQ]; exact hlt) _ (unhide HES))
                    have N2 := hide (digAt_drop (a := k + 1) (unhide HDP) (by rw [unhide HQ]; exact hd))
                    clear HES HDP hd HDS HDG ND LD WN HB HC
                    have jb : j ≤ 80 := by have := unhide HQ; omega
                    have l1 : (q : Int) + 1 ≤ (t.size : Int) := by omega
                    have l2 : (q : Int) ≤ (q : Int) + 1 := by omega
                    go_wp2_with fail
                    refine (unhide K).mono ?_
                    rintro e w3 ⟨rfl, rfl⟩
                    go_wp2
                    go_roundw
                    case rel => exact ⟨j + 1, q + 1, _, hide (by have := unhide HQ; omega), by omega, by go_num, rfl, by go_num, unhide N1, unhide N2, by trivial⟩
                    case measure => simp [intOf]; omega
                  · rw [decide_eq_false hd] at K
                    have N3 := hide (drop_nonD2 (a := k + 1) (j := j) (by rw [unhide HQ]; exact hd))
                    clear hd
                    by_cases j0 : j = 0
                    · subst j0
                      have FR : Hid (Res t.data.toList sg 0 4) := hide (.inr ⟨no_point (unhide HC) (unhide HDG) (unhide ND) (by have := unhide N3; rwa [List.drop_zero] at this), rfl, rfl⟩)
                      clear HES HDP HDS HDG ND LD WN HB HC N3
                      go_wp2_with fail
                      refine (unhide K).mono ?_
                      rintro e w3 ⟨rfl, rfl⟩
                      go_wp2
                      go_ret2
                      exact ⟨0, 4, rfl, unhide FR, bw⟩
                    · have j0' : ((j : Int) == 0) = false := beq_false_of_ne (by omega)
                      have pl : ((t.data.toList.drop (k + 1)).take j).length = j := by rw [List.length_take, List.length_drop, blen_list]; have := unhide HQ; omega
                      have AF := after_point (unhide HC) (unhide HDG) (unhide WN) (unhide LD) (unhide ND) (unhide HDP) (unhide N3) (fun e => by rw [e] at pl; simp at pl; omega)
                      rw [List.drop_drop, unhide HQ] at AF
                      have AFH := hide AF
                      have PL := hide pl
                      clear AF pl HDS ND LD WN HB HC N3 HDG
                      go_wp2_with fail
                      refine (unhide K).mono ?_
                      rintro e w3 ⟨rfl, rfl⟩
                      go_wp2
                      go_meet
                      case rel => exact ⟨q, es, (t.data.toList.drop (k + 1)).take j, rfl, rfl, by rw [unhide PL], by omega, by rw [unhide PL]; have := unhide HQ; omega, unhide HES, unhide HDP, unhide AFH, hide (fun _ e => by have := unhide PL; rw [e] at this; simp at this; omega), by trivial⟩
              · have c46' : (((t[k]'kl).toNat : Int) == 46) = false := beq_false_of_ne (by omega)
                have AF := after_plain (unhide HB) (fun e => c46 (by rw [e]; rfl)) (unhide HDG) (unhide WN) (unhide LD) (unhide ND)
                have AFH := hide AF
                clear AF NS
                go_wp2
                go_meet
                case rel => exact ⟨k, ds, [], rfl, rfl, rfl, by omega, by simp, by rw [List.append_nil]; exact unhide HDS, (fun b hb => by cases hb), unhide AFH, hide (fun e => by omega), by trivial⟩
            case rest =>
            obtain ⟨i, es, P, rfl, rfl, rfl, hi, hP, hes, hdP, AF, PN, rfl⟩ := hcut
            have HES := hide hes
            have HDP := hide hdP
            have hel : es.size ≤ 200 := by rw [← blen_list, hes, List.length_append, List.length_take]; omega
            clear hes hdP HDS ND NS LD WN HB
            go_upto_if 84 with fail
            go_cut [5, 8, 9] from 81 to 138 (fun s5 s8 s9 wx => ∃ (E x : Int), s8 = .int .i64 E ∧ Hid (Num t.data.toList (t.data.toList.take k) P x ∧ CapD x E) ∧ -100000 ≤ E ∧ E ≤ 100000 ∧ w2 = wx)
            case first =>
              by_cases hlt : i < t.size
              · have il : (i : Int) < (t.size : Int) := by omega
                have HC := hide (drop_cons (byte_get t i hlt))
                by_cases c101 : (t[i]'hlt).toNat = 101
                · have e101 : t[i]'hlt = 101 := UInt8.toNat_inj.1 c101
                  have HZ : Hid (t.data.toList.drop i = 101 :: t.data.toList.drop (i + 1)) := hide (by rw [unhide HC, e101])
                  have AX : ∀ x, Hid (Num t.data.toList (t.data.toList.take k) P x ↔ Exp (t.data.toList.drop (i + 1)) x) := fun x => hide (by
                    constructor
                    · intro h
                      rcases ((unhide AF _ _ _).1 h).2.2 with ⟨q, _⟩ | ⟨Z, q, ex⟩
                      · rw [unhide HZ] at q; cases q
                      · rw [unhide HZ] at q
                        injection q with _ q2
                        rw [q2]
                        exact ex
                    · intro ex
                      exact (unhide AF _ _ _).2 ⟨rfl, rfl, .inr ⟨_, unhide HZ, ex⟩⟩)
                  have AN : Hid ((¬ ∃ x, Exp (t.data.toList.drop (i + 1)) x) → Res t.data.toList sg 0 4) := hide (fun hno => .inr ⟨fun ⟨W', P', x, h⟩ => by
                    obtain ⟨q1, q2, _⟩ := (unhide AF _ _ _).1 h
                    subst q1 q2
                    exact hno ⟨x, (unhide (AX x)).1 h⟩, rfl, rfl⟩)
                  have c101' : (((t[i]'hlt).toNat : Int) != 101) = false := by simp; omega
                  clear AF PN HC HZ HES HDP HDG c101 e101
                  go_upto_region 30 with fail
                  go_cut [5] from 81 to 90 (fun s5 wx => ∃ p : Nat, s5 = .int .i64 p ∧ Hid (i + 1 = p) ∧ w2 = wx)
                  case first =>
                    go_wp2
                    go_meet
                    case rel => exact ⟨i + 1, by go_num, hide rfl, by trivial⟩
                  case rest =>
                  obtain ⟨p, rfl, HP, rfl⟩ := hcut
                  have hp : p ≤ t.size := by have := unhide HP; omega
                  rw [unhide HP] at AN AX
                  clear HP
                  obtain ⟨sb, hsb⟩ : ∃ sb : Bool, sb = true ↔ ∃ X, t.data.toList.drop p = 45 :: X ∨ t.data.toList.drop p = 43 :: X := ⟨decide (∃ X, t.data.toList.drop p = 45 :: X ∨ t.data.toList.drop p = 43 :: X), by simp⟩
                  have HSB := hide hsb
                  clear hsb
                  go_upto_region 32 with fail
                  go_cut [106] from 81 to 105 (fun s106 wx => s106 = .bool sb ∧ w2 = wx)
                  case first =>
                    by_cases pl : p < t.size
                    · have pi : (p : Int) < (t.size : Int) := by omega
                      have HC := hide (drop_cons (byte_get t p pl))
                      by_cases c45 : (t[p]'pl).toNat = 45
                      · have F : Hid (sb = true) := hide ((unhide HSB).2 ⟨_, .inl (by rw [unhide HC, UInt8.toNat_inj.1 (show (t[p]'pl).toNat = (45 : UInt8).toNat from c45)])⟩)
                        have c45' : (((t[p]'pl).toNat : Int) == 45) = true := by simp; omega
                        clear HSB HC AN AX c45
                        go_wp2
                        go_meet
                        case rel => exact ⟨by rw [unhide F], by trivial⟩
                      · have c45' : (((t[p]'pl).toNat : Int) == 45) = false := beq_false_of_ne (by omega)
                        by_cases c43 : (t[p]'pl).toNat = 43
                        · have F : Hid (sb = true) := hide ((unhide HSB).2 ⟨_, .inr (by rw [unhide HC, UInt8.toNat_inj.1 (show (t[p]'pl).toNat = (43 : UInt8).toNat from c43)])⟩)
                          have c43' : (((t[p]'pl).toNat : Int) == 43) = true := by simp; omega
                          clear HSB HC AN AX c45 c43
                          go_wp2
                          go_meet
                          case rel => exact ⟨by rw [unhide F], by trivial⟩
                        · have c43' : (((t[p]'pl).toNat : Int) == 43) = false := beq_false_of_ne (by omega)
                          have F : Hid (sb = false) := hide (by
                            cases hh : sb with
                            | false => rfl
                            | true =>
                              obtain ⟨X, q | q⟩ := (unhide HSB).1 hh
                              · rw [unhide HC] at q; injection q with q1 _; exact absurd (by rw [q1]; rfl) c45
                              · rw [unhide HC] at q; injection q with q1 _; exact absurd (by rw [q1]; rfl) c43)
                          clear HSB HC AN AX c45 c43
                          go_wp2
                          go_meet
                          case rel => exact ⟨by rw [unhide F], by trivial⟩
                    · have pi : ¬ (p : Int) < (t.size : Int) := by omega
                      have F : Hid (sb = false) := hide (by
                        cases hh : sb with
                        | false => rfl
                        | true =>
                          obtain ⟨X, q⟩ := (unhide HSB).1 hh
                          rw [List.drop_eq_nil_of_le (by rw [blen_list]; omega)] at q
                          rcases q with q | q <;> cases q)
                      clear HSB AN AX
                      go_wp2
                      go_meet
                      case rel => exact ⟨by rw [unhide F], by trivial⟩
                  case rest =>
                  obtain ⟨rfl, rfl⟩ := hcut
                  go_upto_if 106 with fail
                  go_cut [5, 9] from 107 to 112 (fun s5 s9 wx => ∃ (q : Nat) (mn : Int), s5 = .int .i64 q ∧ s9 = .int .i64 mn ∧ q ≤ t.size ∧ (mn = 1 ∨ mn = -1) ∧ Hid (∀ x, Exp (t.data.toList.drop p) x ↔ AllD (t.data.toList.drop q) ∧ x = mn * ((dec (t.data.toList.drop q) : Nat) : Int)) ∧ w2 = wx)
                  case first =>
                    cases hh : sb with
                    | false =>
                      subst hh
                      have F : Hid (∀ x, Exp (t.data.toList.drop p) x ↔ AllD (t.data.toList.drop p) ∧ x = 1 * ((dec (t.data.toList.drop p) : Nat) : Int)) := hide (fun x => by
                        rw [Int.one_mul]
                        constructor
                        · intro ex
                          exact exp_digits ex (fun X => ⟨fun e => absurd ((unhide HSB).2 ⟨X, .inl e⟩) (by decide), fun e => absurd ((unhide HSB).2 ⟨X, .inr e⟩) (by decide)⟩)
                        · intro h
                          exact .inr (.inr h))
                      clear HSB AN AX
                      go_wp2
                      go_meet
                      case rel => exact ⟨p, 1, rfl, rfl, hp, .inl rfl, F, by trivial⟩
                    | true =>
                      subst hh
                      obtain ⟨X, hX⟩ := (unhide HSB).1 rfl
                      have pl : p < t.size := by
                        rcases Nat.lt_or_ge p t.size with h | h
                        · exact h
                        · rw [List.drop_eq_nil_of_le (by rw [blen_list]; exact h)] at hX
                          rcases hX with q | q <;> cases q
                      have pi : (p : Int) < (t.size : Int) := by omega
                      have hc := drop_cons (byte_get t p pl)
                      rcases hX with q | q
                      · have c45 : t[p]'pl = 45 := by rw [hc] at q; injection q
                        have c45' : (((t[p]'pl).toNat : Int) == 45) = true := by rw [c45]; rfl
                        have F : Hid (∀ x, Exp (t.data.toList.drop p) x ↔ AllD (t.data.toList.drop (p + 1)) ∧ x = -1 * ((dec (t.data.toList.drop (p + 1)) : Nat) : Int)) := hide (fun x => by
                          rw [hc, c45, Int.neg_one_mul]
                          exact ⟨exp_minus, fun h => .inl ⟨_, rfl, h⟩⟩)
                        clear HSB AN AX hc q c45
                        go_wp2
                        go_meet
                        case rel => exact ⟨p + 1, -1, by go_num, rfl, by omega, .inr rfl, F, by trivial⟩
                      · have c43 : t[p]'pl = 43 := by rw [hc] at q; injection q
                        have c45' : (((t[p]'pl).toNat : Int) == 45) = false := by rw [c43]; rfl
                        have F : Hid (∀ x, Exp (t.data.toList.drop p) x ↔ AllD (t.data.toList.drop (p + 1)) ∧ x = 1 * ((dec (t.data.toList.drop (p + 1)) : Nat) : Int)) := hide (fun x => by
                          rw [hc, c43, Int.one_mul]
                          exact ⟨exp_plus, fun h => .inr (.inl ⟨_, rfl, h⟩)⟩)
                        clear HSB AN AX hc q c43
                        go_wp2
                        go_meet
                        case rel => exact ⟨p + 1, 1, by go_num, rfl, by omega, .inl rfl, F, by trivial⟩
                  case rest =>
                  obtain ⟨q, mn, rfl, rfl, hq, hmn, EX, rfl⟩ := hcut
                  clear HSB
                  have K := hide (isDigit_any w2 t q ht (by omega) (decide (DigAt t.data.toList q)) (hide (by simp)))
                  by_cases hd0 : DigAt t.data.toList q
                  · rw [decide_eq_true hd0] at K
                    have q1 : q < t.size := by have := digAt_lt hd0; rwa [blen_list] at this
                    clear hd0
                    go_wp2_with fail
                    refine (unhide K).mono ?_
                    rintro e w3 ⟨rfl, rfl⟩
                    clear K
                    go_wp2_with fail
                    go_loopw [5, 8] (fun i a wr => ∃ (j p2 E : Nat), Hid (q + j = p2) ∧ p2 ≤ t.size ∧ i = .int .i64 p2 ∧ a = .int .i64 E ∧ E ≤ 99999 ∧ Hid (CapN (dec ((t.data.toList.drop q).take j)) E ∧ Dig10 ((t.data.toList.drop q).take j)) ∧ wr = w3) (fun i _ _ => t.size - (intOf i).toNat)
                    case atStart => exact ⟨0, q, 0, hide rfl, hq, rfl, rfl, by omega, hide ⟨.inl rfl, (fun b hb => by simp at hb)⟩, rfl⟩
                    case round =>
                      obtain ⟨j, p2, E, HQ, hp2, rfl, rfl, hE, HC, rfl⟩ := hrel
                      have K := hide (isDigit_any wr t p2 ht (by omega) (decide (DigAt t.data.toList p2)) (hide (by simp)))
                      by_cases hd : DigAt t.data.toList p2
                      · rw [decide_eq_true hd] at K
                        have hlt2 : p2 < t.size := by have := digAt_lt hd; rwa [blen_list] at this
                        have l2 : (p2 : Int) < (t.size : Int) := by omega
                        have hb := byte_get t p2 hlt2
                        have dg : 48 ≤ (t[p2]'hlt2).toNat ∧ (t[p2]'hlt2).toNat ≤ 57 := by
                          obtain ⟨c, hc, h2⟩ := hd
                          rw [hb] at hc
                          injection hc with hc
                          rw [hc]
                          exact h2
                        have N1 := dec_next (a := q) (j := j) (by rw [unhide HQ]; exact hb)
                        have N2 := digAt_drop (a := q) (unhide HC).2 (by rw [unhide HQ]; exact hd)
                        have cn := (unhide HC).1
                        have d1 : (48 : Int) ≤ ((t[p2]'hlt2).toNat : Int) := by omega
                        have d2 : ((t[p2]'hlt2).toNat : Int) ≤ 57 := by omega
                        by_cases hE2 : E < 10000
                        · have hE3 : (E : Int) < 10000 := by omega
                          have N3 : Hid (CapN (dec ((t.data.toList.drop q).take (j + 1))) (E * 10 + ((t[p2]'hlt2).toNat - 48)) ∧ Dig10 ((t.data.toList.drop q).take (j + 1))) := hide ⟨by
                            rw [N1]
                            unfold CapN at *
                            omega, N2⟩
                          have bE : E * 10 + ((t[p2]'hlt2).toNat - 48) ≤ 99999 := by omega
                          have vE : Hid (((E * 10 + ((t[p2]'hlt2).toNat - 48) : Nat) : Int) = (E : Int) * 10 + (((t[p2]'hlt2).toNat : Int) - 48)) := hide (by omega)
                          clear HC hb hd N1 N2 cn dg AN AX EX
                          go_wp2_with fail
                          refine (unhide K).mono ?_
                          rintro e w4 ⟨rfl, rfl⟩
                          go_wp2
                          go_roundw
                          case rel => exact ⟨j + 1, p2 + 1, _, hide (by have := unhide HQ; omega), by omega, by go_num, by rw [unhide vE], bE, N3, by trivial⟩
                          case measure => simp [intOf]; omega
                        · have hE3 : ¬ (E : Int) < 10000 := by omega
                          have N3 : Hid (CapN (dec ((t.data.toList.drop q).take (j + 1))) E ∧ Dig10 ((t.data.toList.drop q).take (j + 1))) := hide ⟨by
                            rw [N1]
                            unfold CapN at *
                            omega, N2⟩
                          clear HC hb hd N1 N2 cn dg AN AX EX
                          go_wp2_with fail
                          refine (unhide K).mono ?_
                          rintro e w4 ⟨rfl, rfl⟩
                          go_wp2
                          go_roundw
                          case rel => exact ⟨j + 1, p2 + 1, E, hide (by have := unhide HQ; omega), by omega, by go_num, rfl, hE, N3, by trivial⟩
                          case measure => simp [intOf]; omega
                      · rw [decide_eq_false hd] at K
                        have ql : (t.data.toList.drop q).length = t.size - q := by rw [List.length_drop, blen_list]
                        by_cases pe : p2 < t.size
                        · have pe' : (p2 : Int) < (t.size : Int) := by omega
                          have G : Hid (Res t.data.toList sg 0 4) := hide (unhide AN (fun ⟨x, ex⟩ => by
                            obtain ⟨a, _⟩ := (unhide EX x).1 ex
                            refine not_allD2 (j := j) (by rw [ql]; have := unhide HQ; omega) ?_ a
                            exact drop_nonD2 (by rw [unhide HQ]; exact hd)))
                          clear AN AX EX hd HC ql
                          go_wp2_with fail
                          refine (unhide K).mono ?_
                          rintro e w4 ⟨rfl, rfl⟩
                          go_wp2
                          go_ret2
                          exact ⟨0, 4, rfl, unhide G, bw⟩
                        · have pe' : ¬ (p2 : Int) < (t.size : Int) := by omega
                          have et : (t.data.toList.drop q).take j = t.data.toList.drop q := List.take_of_length_le (by rw [ql]; have := unhide HQ; omega)
                          have G : Hid (Num t.data.toList (t.data.toList.take k) P (mn * ((dec (t.data.toList.drop q) : Nat) : Int)) ∧ CapD (mn * ((dec (t.data.toList.drop q) : Nat) : Int)) ((E : Int) * mn)) := hide (by
                            have hc := unhide HC
                            rw [et] at hc
                            refine ⟨(unhide (AX _)).2 ((unhide EX _).2 ⟨⟨fun e => ?_, hc.2⟩, rfl⟩), capN_D hc.1 hmn⟩
                            rw [e] at ql
                            simp at ql
                            omega)
                          have eb : -99999 ≤ (E : Int) * mn ∧ (E : Int) * mn ≤ 99999 := by rcases hmn with rfl | rfl <;> omega
                          clear AN AX EX hd HC ql et hmn
                          go_wp2_with fail
                          refine (unhide K).mono ?_
                          rintro e w4 ⟨rfl, rfl⟩
                          go_wp2
                          go_meet
                          case rel => exact ⟨(E : Int) * mn, _, by first | rfl | trace_state, G, by omega, by omega, by trivial⟩
                  · rw [decide_eq_false hd0] at K
                    have G : Hid (Res t.data.toList sg 0 4) := hide (unhide AN (fun ⟨x, ex⟩ => by
                      obtain ⟨a, _⟩ := (unhide EX x).1 ex
                      exact not_allD (drop_nonD hd0) a))
                    clear AN AX EX hd0
                    go_wp2_with fail
                    refine (unhide K).mono ?_
                    rintro e w3 ⟨rfl, rfl⟩
                    go_wp2
                    go_ret2
                    exact ⟨0, 4, rfl, unhide G, bw⟩
                · have c101' : (((t[i]'hlt).toNat : Int) != 101) = true := by simp; omega
                  have FR : Hid (Res t.data.toList sg 0 4) := hide (.inr ⟨fun ⟨W', P', x, h⟩ => by
                    rcases ((unhide AF _ _ _).1 h).2.2 with ⟨q, _⟩ | ⟨Z, q, _⟩
                    · rw [unhide HC] at q; cases q
                    · rw [unhide HC] at q
                      injection q with q1 _
                      exact c101 (by rw [q1]; rfl), rfl, rfl⟩)
                  clear AF PN HC HES HDP HDG c101
                  go_wp2
                  go_ret2
                  exact ⟨0, 4, rfl, unhide FR, bw⟩
              · have ie : ¬ (i : Int) < (t.size : Int) := by omega
                have FN : Hid (Num t.data.toList (t.data.toList.take k) P 0 ∧ CapD 0 0) := hide ⟨(unhide AF _ _ _).2 ⟨rfl, rfl, .inl ⟨List.drop_eq_nil_of_le (by rw [blen_list]; omega), unhide PN (by omega), rfl⟩⟩, .inl rfl⟩
                clear AF PN HES HDP HDG
                go_wp2
                go_meet
                case rel => exact ⟨0, 0, rfl, FN, by omega, by omega, by trivial⟩
            case rest =>
            obtain ⟨E, x, rfl, NC, e1, e2, rfl⟩ := hcut
            have NUM := hide (unhide NC).1
            have al := hide (capD_alike (unhide NC).2 hP)
            have dW := hide (num_len (unhide NC).1)
            clear NC AF hel PN
            have m80 : Hid (dec es.data.toList < 10 ^ 80) := hide (by
              rw [unhide HES]
              refine Nat.lt_of_lt_of_le (dec_lt (unhide dW).2) (Nat.pow_le_pow_right (by decide) ?_)
              have := (unhide dW).1
              rw [blen_list] at this
              omega)
            have esz : es.size ≤ 80 := by
              have := (unhide dW).1
              rw [← unhide HES, blen_list, blen_list] at this
              omega
            have K := hide (ofDigits_any w2 es (by omega) (by rw [unhide HES]; exact (unhide dW).2))
            have FR : ∀ r, NearD (dec es.data.toList) (E - (P.length : Int)) r → Hid (Res t.data.toList sg (if r = 9218868437227405312 then 0 else sg + r) (if r = 9218868437227405312 then 7 else 0)) := fun r h => hide (by
              refine .inl ⟨_, P, x, r, unhide NUM, ?_, ?_⟩
              · rw [← unhide HES]; exact alike_near (unhide m80) (unhide al) h
              · by_cases c : r = 9218868437227405312
                · exact .inl ⟨c, by rw [if_pos c], by rw [if_pos c]⟩
                · exact .inr ⟨c, by rw [if_neg c], by rw [if_neg c]⟩)
            have F0 : Hid (E - (P.length : Int) < -500 → NearD (dec es.data.toList) (E - (P.length : Int)) 0) := hide (nearD_none (unhide m80))
            have F1 : Hid (dec es.data.toList ≠ 0 → 400 < E - (P.length : Int) → NearD (dec es.data.toList) (E - (P.length : Int)) 9218868437227405312) := hide nearD_all
            have md : (dig (dec es.data.toList)).length ≤ 20 := dig_length_le (Nat.lt_of_lt_of_le (unhide m80) (by decide))
            clear m80 al dW NUM HES HDP HDG
            generalize dec es.data.toList = m at *
            generalize hpl : P.length = pl at *
            clear hpl
            go_wp2_with fail
            refine (unhide K).mono ?_
            rintro e w3 ⟨v3, rfl, h3, b3⟩
            have bw3 := bw.trans (b3.mono bw.size)
            clear K b3 bw
            by_cases m0 : m = 0
            · subst m0
              have G := FR 0 (.inl ⟨rfl, rfl⟩)
              obtain ⟨a3, c3, rfl, _, _⟩ := h3
              have dz : (dig 0).length = 0 := by rw [dig_zero]; rfl
              rw [dz]
              clear FR F0 F1 dz
              go_wp2
              go_ret2
              exact ⟨_, _, by rw [if_neg (by decide), if_neg (by decide), Nat.add_zero, unhide HSI]; rfl, unhide G, bw3⟩
            · have K2' := hide (nearestOf_all w3 v3 m (E - (pl : Int)) m0 md h3)
              have dl : ((((dig m).length : Nat) : Int) == 0) = false := beq_false_of_ne (by have := dig_ne0 m0; omega)
              obtain ⟨a3, c3, rfl, _, _⟩ := h3
              generalize (dig m).length = dn at *
              by_cases y1 : E - (pl : Int) < -500
              · have G := FR 0 (unhide F0 y1)
                clear FR F0 F1 K2'
                go_wp2
                go_ret2
                exact ⟨_, _, by rw [if_neg (by decide), if_neg (by decide), Nat.add_zero, unhide HSI]; rfl, unhide G, bw3⟩
              · by_cases y2 : 400 < E - (pl : Int)
                · have G := FR _ (unhide F1 m0 y2)
                  rw [if_pos rfl, if_pos rfl] at G
                  clear FR F0 F1 K2'
                  go_wp2
                  go_ret2
                  exact ⟨0, 7, rfl, unhide G, bw3⟩
                · have K3 := hide (unhide K2' (by omega) (by omega))
                  clear F0 F1 K2'
                  go_wp2_with fail
                  refine (unhide K3).mono ?_
                  rintro e w4 ⟨r, rfl, hr, b4⟩
                  have hrr := nearD_range hr
                  have G := FR r hr
                  have bw4 := bw3.trans (b4.mono bw3.size)
                  clear FR hr b4 bw3 K3
                  by_cases hi : r = 9218868437227405312
                  · subst hi
                    rw [if_pos rfl, if_pos rfl] at G
                    go_wp2
                    go_ret2
                    exact ⟨_, _, rfl, unhide G, bw4⟩
                  · rw [if_neg hi, if_neg hi] at G
                    have hne : ((r : Int) == 9218868437227405312) = false := beq_false_of_ne (by omega)
                    have u1 : (0 : Int) ≤ (r : Int) := by omega
                    have u2 : (r : Int) < 9218868437227405312 := by omega
                    have FV : Hid (((sg + r : Nat) : Int) = sI + (r : Int)) := hide (by rw [← unhide HSI]; omega)
                    clear hi hrr
                    generalize (r : Int) = rI at *
                    go_wp2
                    go_ret2
                    exact ⟨_, _, by rw [unhide FV]; rfl, unhide G, bw4⟩
end Go.Proofs.YtobbbhmkcmbekaaDoor.bigs
/- The document's ReadFloat, whatever is handed in; the walk of the law. -/
set_option linter.unusedVariables false
namespace Go.Proofs.YtobbbhmkcmbekaaDoor.bigs
open Go.RowKit

set_option maxHeartbeats 8000000 in
set_option maxRecDepth 100000 in
theorem refRead_large (w : World) (s : ByteArray) (hs : 80 < s.size) (hs2 : s.size ≤ 140737488355328) :
    Calls Tryd.prog 15 #[.string s] w fun e w' => e = .returned (.tuple #[.int .u64 0, .int .i64 2]) ∧ Below w.heap.size w w' := by
  have i1 : (80 : Int) < (s.size : Int) := by omega
  go_enter Tryd.func15, Tryd.ntmps15
  go_wp2
  go_ret2
  exact ⟨rfl, Below.refl _ _⟩
set_option maxHeartbeats 8000000 in
set_option maxRecDepth 100000 in
theorem refRead_nan (w : World) (s : ByteArray) (hs : s.size ≤ 80) (hn : (s.toList == [110, 97, 110]) = true) :
    Calls Tryd.prog 15 #[.string s] w fun e w' => e = .returned (.tuple #[.int .u64 9221120237041090561, .int .i64 0]) ∧ Below w.heap.size w w' := by
  have i1 : ¬ (80 : Int) < (s.size : Int) := by omega
  go_enter Tryd.func15, Tryd.ntmps15
  go_wp2
  go_ret2
  exact ⟨rfl, Below.refl _ _⟩
set_option maxHeartbeats 8000000 in
set_option maxRecDepth 100000 in
theorem refRead_inf (w : World) (s : ByteArray) (hn : (s.toList == [110, 97, 110]) = false) (hi : s.data.toList = [105, 110, 102]) :
    Calls Tryd.prog 15 #[.string s] w fun e w' => e = .returned (.tuple #[.int .u64 9218868437227405312, .int .i64 0]) ∧ Below w.heap.size w w' := by
  have hsz : s.size = 3 := by rw [← blen_list, hi]; rfl
  have h0 : 0 < s.size := by omega
  have i1 : ¬ (80 : Int) < (s.size : Int) := by omega
  have li : (0 : Int) < (s.size : Int) := by omega
  obtain ⟨ie1, ie2⟩ := isEmpty_false h0
  have hii : (s.toList == [105, 110, 102]) = true := by rw [list_beq]; exact decide_eq_true hi
  have hb := byte_get s 0 h0
  rw [hi] at hb
  have e0 : (105 : UInt8) = s[0]'h0 := by simpa using hb
  have c45 : (((s[0]'h0).toNat : Int) == 45) = false := by rw [← e0]; rfl
  clear hb e0 hi hsz
  go_enter Tryd.func15, Tryd.ntmps15
  go_wp2
  go_ret2
  exact ⟨rfl, Below.refl _ _⟩
set_option maxHeartbeats 8000000 in
set_option maxRecDepth 100000 in
theorem refRead_neginf (w : World) (s : ByteArray) (hn : (s.toList == [110, 97, 110]) = false) (hi : s.data.toList = [45, 105, 110, 102]) :
    Calls Tryd.prog 15 #[.string s] w fun e w' => e = .returned (.tuple #[.int .u64 18442240474082181120, .int .i64 0]) ∧ Below w.heap.size w w' := by
  have hsz : s.size = 4 := by rw [← blen_list, hi]; rfl
  have h0 : 0 < s.size := by omega
  have i1 : ¬ (80 : Int) < (s.size : Int) := by omega
  have li : (0 : Int) < (s.size : Int) := by omega
  have li1 : (1 : Int) ≤ (s.size : Int) := by omega
  obtain ⟨ie1, ie2⟩ := isEmpty_false h0
  have hii : ((s.extract 1 s.size).toList == [105, 110, 102]) = true := by
    rw [list_beq]
    refine decide_eq_true ?_
    rw [ext_toList, ← blen_list, List.take_length, hi]
    rfl
  have hb := byte_get s 0 h0
  rw [hi] at hb
  have e0 : (45 : UInt8) = s[0]'h0 := by simpa using hb
  have c45 : (((s[0]'h0).toNat : Int) == 45) = true := by rw [← e0]; rfl
  clear hb e0 hi hsz
  go_enter Tryd.func15, Tryd.ntmps15
  go_wp2_with fail
  go_quiet (fail)
  go_wp2
  go_ret2
  exact ⟨rfl, below_drewN (Below.refl _ _) _⟩
theorem refRead_any (w : World) (s : ByteArray) (hs2 : s.size ≤ 140737488355328) :
    Calls Tryd.prog 15 #[.string s] w fun e w' => ∃ (v : Nat) (x : Int), e = .returned (.tuple #[.int .u64 v, .int .i64 x]) ∧ ReadsTo s.data.toList v x ∧ Below w.heap.size w w' := by
  have sl := blen_list s
  by_cases h1 : 80 < s.size
  · refine (refRead_large w s h1 hs2).mono ?_
    rintro e w' ⟨rfl, b⟩
    exact ⟨0, 2, rfl, .inl ⟨by omega, rfl, rfl⟩, b⟩
  · by_cases h2 : s.data.toList = [110, 97, 110]
    · refine (refRead_nan w s (by omega) (by rw [list_beq]; exact decide_eq_true h2)).mono ?_
      rintro e w' ⟨rfl, b⟩
      exact ⟨9221120237041090561, 0, rfl, .inr (.inl ⟨by omega, h2, rfl, rfl⟩), b⟩
    · have n2 : (s.toList == [110, 97, 110]) = false := by rw [list_beq]; exact decide_eq_false h2
      obtain ⟨t, sg, S, tl, _⟩ := sign_exists s.data.toList
      have tsz : (⟨t.toArray⟩ : ByteArray).size ≤ 80 := by rw [arr_size]; omega
      by_cases h3 : t = [105, 110, 102]
      · subst h3
        rcases S with ⟨e1, e2⟩ | ⟨e0, e1, e2⟩
        · refine (refRead_neginf w s n2 e1).mono ?_
          rintro e w' ⟨rfl, b⟩
          exact ⟨18442240474082181120, 0, rfl, .inr (.inr ⟨by omega, h2, _, sg, .inl ⟨e1, e2⟩, .inl ⟨rfl, by rw [e2], rfl⟩⟩), b⟩
        · refine (refRead_inf w s n2 e1.symm).mono ?_
          rintro e w' ⟨rfl, b⟩
          exact ⟨9218868437227405312, 0, rfl, .inr (.inr ⟨by omega, h2, _, sg, .inr ⟨e0, e1, e2⟩, .inl ⟨rfl, by rw [e2], rfl⟩⟩), b⟩
      · have hsg : (s.data.toList = 45 :: (⟨t.toArray⟩ : ByteArray).data.toList ∧ sg = 9223372036854775808) ∨ ((∀ r, s.data.toList ≠ 45 :: r) ∧ (⟨t.toArray⟩ : ByteArray) = s ∧ sg = 0) := by
          rcases S with ⟨e1, e2⟩ | ⟨e0, e1, e2⟩
          · exact .inl ⟨e1, e2⟩
          · exact .inr ⟨e0, by rw [e1], e2⟩
        refine (refRead_core w s ⟨t.toArray⟩ sg (by omega) tsz n2 (by rw [list_beq]; exact decide_eq_false h3) hsg).mono ?_
        rintro e w' ⟨v, x, rfl, r, b⟩
        exact ⟨v, x, rfl, .inr (.inr ⟨by omega, h2, t, sg, S, .inr ⟨h3, r⟩⟩), b⟩
set_option maxHeartbeats 8000000 in
set_option maxRecDepth 100000 in
theorem lawReads (w : World) (s : ByteArray) (hs : s.size ≤ 140737488355328) :
    Calls Tryd.prog 5 #[.string s] w fun e w' => e = .returned (.bool true) ∧ Below w.heap.size w w' := by
  have K1 := hide (readW_any w s hs)
  have K2 : ∀ w, Hid _ := fun w => hide (refRead_any w s hs)
  go_enter Tryd.func5, Tryd.ntmps5
  go_wp2_with fail
  refine (unhide K1).mono ?_
  rintro e w1 ⟨v, x, rfl, r1, b1⟩
  have R1 := hide r1
  clear r1 K1
  go_wp2_with fail
  refine (unhide (K2 w1)).mono ?_
  rintro e w2 ⟨v', x', rfl, r2, b2⟩
  obtain ⟨q1, q2⟩ := reads_unique (unhide R1) r2
  subst q1 q2
  have bw := b1.trans (b2.mono b1.size)
  clear R1 r2 K2 b1 b2
  generalize (v : Int) = vI at *
  go_wp2
  go_ret
  exact ⟨rfl, bw⟩
end Go.Proofs.YtobbbhmkcmbekaaDoor.bigs
