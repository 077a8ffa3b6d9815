/- The walk of the law that what is ahead of a wrong token goes on to be a document. -/
import Derived.Test.YtoikdjbgeebadaaTreeTopW
set_option linter.unusedVariables false
namespace Go.Proofs.Ytoikdjbgeebadaa.trees
open Go.RowKit
open toks

theorem Lies.node {ok : Nat → Prop} {f : Nat} {w : World} {u0 u1 u2 u3 : Value} {k a e : Nat} {l : List T} (h : Lies ok f w [u0, u1, u2, u3] (nd k a e l)) : u0 = .int .i64 (k : Int) ∧ u1 = .int .i64 (a : Int) ∧ u2 = .int .i64 (e : Int) ∧ ∃ p c, u3 = .slice p l.length c ∧ l.length ≤ c := by
  cases f with
  | zero => exact h.elim
  | succ f =>
    obtain ⟨k', a', e', l', p, cap, ht, hv, hc, _⟩ := h
    obtain ⟨rfl, rfl, rfl, rfl⟩ := nd_inj ht
    injection hv with h0 hv
    injection hv with h1 hv
    injection hv with h2 hv
    injection hv with h3 _
    exact ⟨h0, h1, h2, p, cap, h3, hc⟩
theorem docR_cases (n : Nat) (ts : List Sym) : (∃ c te, docR n ts = .inl (c, te) ∧ pd ts = .inl (c, te) ∧ (c = 4 ∨ (c = 5 ∧ te ≠ []))) ∨ (∃ t, docR n ts = .inr (nd 6 0 n [t], []) ∧ pd ts = .inr (t, [])) := by
  cases h : pd ts with
  | inl e =>
    obtain ⟨c, te⟩ := e
    obtain ⟨p, _, _, h3⟩ := pd_bad h
    exact .inl ⟨c, te, by unfold docR; rw [h], rfl, h3⟩
  | inr tr =>
    obtain ⟨t, r⟩ := tr
    obtain ⟨rfl, _⟩ := pd_val h
    exact .inr ⟨t, by unfold docR; rw [h], rfl⟩
theorem trees_plain : docR (toksL [49]).length (sols [49]) = .inr (nd 6 0 1 [nd 1 0 1 []], []) := by kernel_rfl
set_option maxHeartbeats 1000000 in
set_option maxRecDepth 100000 in
theorem trees_any (w : World) (hM : MaxOk w) : Calls Try.prog 13 #[] w fun e w' => e = .returned (.bool true) ∧ Below w.heap.size w w' := by
  have K1 := hide (parse_any w ⟨#[49]⟩ (by decide) hM)
  have E : docR (toksL (ByteArray.mk #[49]).data.toList).length (sols (ByteArray.mk #[49]).data.toList) = .inr (nd 6 0 1 [nd 1 0 1 []], []) := trees_plain
  rw [E] at K1
  clear hM E
  go_enter Try.func13, Try.ntmps13
  go_wp2_with fail
  refine (unhide K1).mono ?_
  rintro e w1 ⟨b1, u0, u1, u2, u3, rfl, hL⟩
  dsimp only
  obtain ⟨rfl, rfl, rfl, p, c, rfl, _⟩ := hL.node
  have B1 := hide (b1.alloc b1.size (.cells #[.int .i64 6, .int .i64 0, .int .i64 1, .slice p 1 c] 24))
  clear K1 hL b1
  go_wp2
  go_ret
  exact ⟨rfl, unhide B1⟩
theorem first_plain {L : List UInt8} {x : Sym} {r : List Sym} (h : pd (sols L) = .inl (4, x :: r)) : ∃ t, (toksL L)[x.2]? = some t ∧ t.fro < L.length ∧ (pd (sols (L.take t.fro)) = .inl (4, []) ∨ ∃ t', pd (sols (L.take t.fro)) = .inr (t', [])) := by
  obtain ⟨p, e, h1, _⟩ := pd_bad h
  obtain ⟨t, h2, h3, h4⟩ := sols_ahead L p r x e
  exact ⟨t, h2, h3, by rw [h4]; exact h1 rfl⟩
theorem place_le {s : ByteArray} {l : List Tk} (g : Good s l) (te : List Sym) : placeOf s l te ≤ s.size := by
  cases te with
  | nil => exact Nat.le_refl _
  | cons x r =>
    show (l.getD x.2 ⟨0, 0, 0⟩).fro ≤ _
    rw [List.getD_eq_getElem?_getD]
    rcases Nat.lt_or_ge x.2 l.length with h | h
    · rw [List.getElem?_eq_getElem h]
      exact Nat.le_of_lt (g.fro _ h)
    · rw [List.getElem?_eq_none h]
      exact Nat.zero_le _
set_option maxHeartbeats 4000000 in
set_option maxRecDepth 100000 in
theorem lawFirst (w : World) (s : ByteArray) (hM : MaxOk w) :
    Calls Try.prog 7 #[.string s] w fun e w' => e = .returned (.bool true) ∧ Below w.heap.size w w' := by
  have K0 := hide (trees_any w hM)
  by_cases hs : 20000 < s.size
  · have K1 : ∀ u, Hid _ := fun u => hide (parse_large u s hs)
    have i1 : ¬ (s.size : Int) < 0 := by omega
    clear hM
    go_enter Try.func7, Try.ntmps7
    go_wp2_with fail
    refine (unhide K0).mono ?_
    rintro e w1 ⟨rfl, b1⟩
    dsimp only
    have B1 := hide b1
    clear K0 b1
    go_wp2_with fail
    refine (unhide (K1 w1)).mono ?_
    rintro e w2 ⟨rfl, b2⟩
    dsimp only
    have B2 := hide ((((unhide B1).trans (b2.mono (unhide B1).size))).alloc (Nat.le_trans (unhide B1).size b2.size) (.cells #[.int .i64 0, .int .i64 0, .int .i64 0, .slice none 0 0] 24))
    clear K1 b2 B1
    go_wp2
    go_ret
    exact ⟨rfl, unhide B2⟩
  have hs : s.size ≤ 20000 := by omega
  have K1 : ∀ u, Below w.heap.size w u → Hid _ := fun u hu => hide (parse_any u s hs (hM.below (Nat.le_refl _) hu))
  have hpl := place_le (good s hs)
  rcases docR_cases (toksL s.data.toList).length (sols s.data.toList) with ⟨c, te, hd, hp, hc⟩ | ⟨t, hd, _⟩
  · rw [hd] at K1
    by_cases hc4 : c = 4 ∧ te ≠ []
    · obtain ⟨rfl, hte⟩ := hc4
      cases te with
      | nil => exact absurd rfl hte
      | cons x r =>
        obtain ⟨t, h1, h2, h3⟩ := first_plain hp
        have EP : placeOf s (toksL s.data.toList) (x :: r) = t.fro := by
          show ((toksL s.data.toList).getD x.2 ⟨0, 0, 0⟩).fro = _
          rw [List.getD_eq_getElem?_getD, h1]
          rfl
        rw [len_list] at h2
        have HEP := hide EP
        have e2 : (s.extract 0 t.fro).size = t.fro := by rw [ByteArray.size_extract]; omega
        have e3 : (s.extract 0 t.fro).data.toList = s.data.toList.take t.fro := ext_take s t.fro
        have K2 : ∀ u, Below w.heap.size w u → Hid _ := fun u hu => hide (parse_any u (s.extract 0 t.fro) (by omega) (hM.below (Nat.le_refl _) hu))
        have hd2 : (docR (toksL (s.extract 0 t.fro).data.toList).length (sols (s.extract 0 t.fro).data.toList) = .inl (4, [])) ∨ ∃ t', docR (toksL (s.extract 0 t.fro).data.toList).length (sols (s.extract 0 t.fro).data.toList) = .inr (nd 6 0 (toksL (s.extract 0 t.fro).data.toList).length [t'], []) := by
          rw [e3]
          rcases h3 with h3 | ⟨t', h3⟩
          · exact .inl (by unfold docR; rw [h3])
          · exact .inr ⟨t', by unfold docR; rw [h3]⟩
        clear hpl hd hp hc hte h1 h3 EP e3 hM
        have E2 := hide e2
        clear e2
        generalize t.fro = z at *
        have i1 : ¬ (z : Int) < 0 := by omega
        have i2 : ¬ (z : Int) > (s.size : Int) := by omega
        have j2 : ((z : Int) == (s.size : Int)) = false := beq_false_of_ne (by omega)
        have j3 : (z == s.size) = false := beq_false_of_ne (by omega)
        go_enter Try.func7, Try.ntmps7
        go_wp2_with fail
        refine (unhide K0).mono ?_
        rintro e w1 ⟨rfl, b1⟩
        dsimp only
        have K1a := K1 w1 b1
        have B1 := hide b1
        clear K0 b1 K1
        go_wp2_with fail
        refine (unhide K1a).mono ?_
        rintro e w2 ⟨b2, rfl⟩
        dsimp only
        rw [unhide HEP]
        have b3 := (((unhide B1).trans (b2.mono (unhide B1).size))).alloc (Nat.le_trans (unhide B1).size b2.size) (.cells #[.int .i64 0, .int .i64 0, .int .i64 0, .slice none 0 0] 24)
        have K2a := K2 _ b3
        have B3 := hide b3
        clear K1a K2 b2 B1 b3
        go_wp2_with fail
        rcases hd2 with hd2 | ⟨t', hd2⟩
        · rw [hd2] at K2a
          refine (unhide K2a).mono ?_
          rintro e w4 ⟨b4, rfl⟩
          dsimp only
          have ez : placeOf (s.extract 0 z) (toksL (s.extract 0 z).data.toList) [] = z := unhide E2
          rw [ez]
          have B4 := hide ((((unhide B3).trans (b4.mono (unhide B3).size))).alloc (Nat.le_trans (unhide B3).size b4.size) (.cells #[.int .i64 0, .int .i64 0, .int .i64 0, .slice none 0 0] 24))
          clear K2a b4 B3 ez
          go_wp2
          go_ret
          exact ⟨rfl, unhide B4⟩
        · rw [hd2] at K2a
          refine (unhide K2a).mono ?_
          rintro e w4 ⟨b4, u0, u1, u2, u3, rfl, hL⟩
          dsimp only
          obtain ⟨rfl, rfl, rfl, p, c, rfl, _⟩ := hL.node
          have B4 := hide (fun o => (((unhide B3).trans (b4.mono (unhide B3).size))).alloc (Nat.le_trans (unhide B3).size b4.size) o)
          clear K2a b4 B3 hL hd2
          go_wp2
          go_ret
          exact ⟨rfl, unhide B4 _⟩
    · have hz := hpl te
      have hce : (c = 5) ∨ (c = 4 ∧ placeOf s (toksL s.data.toList) te = s.size) := by
        rcases hc with rfl | ⟨rfl, _⟩
        · right
          refine ⟨rfl, ?_⟩
          cases te with
          | nil => rfl
          | cons x r => exact absurd ⟨rfl, by simp⟩ hc4
        · exact .inl rfl
      clear hpl hd hp hc hc4 hM
      obtain ⟨z, ez⟩ : ∃ z, placeOf s (toksL s.data.toList) te = z := ⟨_, rfl⟩
      rw [ez] at hz hce
      have EZ := hide ez
      clear ez
      have i1 : ¬ (z : Int) < 0 := by omega
      have i2 : ¬ (z : Int) > (s.size : Int) := by omega
      have d2 : decide (s.size < z) = false := decide_eq_false (by omega)
      have j5 : ((z : Int) == (s.size : Int)) = (z == s.size) := by rw [Bool.eq_iff_iff, beq_iff_eq, beq_iff_eq]; omega
      rcases hce with rfl | ⟨rfl, rfl⟩
      all_goals
        go_enter Try.func7, Try.ntmps7
        go_wp2_with fail
        refine (unhide K0).mono ?_
        rintro e w1 ⟨rfl, b1⟩
        dsimp only
        have K1a := K1 w1 b1
        have B1 := hide b1
        clear K0 b1 K1
        go_wp2_with fail
        refine (unhide K1a).mono ?_
        rintro e w2 ⟨b2, rfl⟩
        dsimp only
        rw [unhide EZ]
        have B3 := hide ((((unhide B1).trans (b2.mono (unhide B1).size))).alloc (Nat.le_trans (unhide B1).size b2.size) (.cells #[.int .i64 0, .int .i64 0, .int .i64 0, .slice none 0 0] 24))
        clear K1a b2 B1
        go_wp2
        go_ret
        exact ⟨rfl, unhide B3⟩
  · rw [hd] at K1
    clear hpl hd hM
    go_enter Try.func7, Try.ntmps7
    go_wp2_with fail
    refine (unhide K0).mono ?_
    rintro e w1 ⟨rfl, b1⟩
    dsimp only
    have K1a := K1 w1 b1
    have B1 := hide b1
    clear K0 b1 K1
    go_wp2_with fail
    refine (unhide K1a).mono ?_
    rintro e w2 ⟨b2, u0, u1, u2, u3, rfl, hL⟩
    dsimp only
    obtain ⟨rfl, rfl, rfl, p, c, rfl, _⟩ := hL.node
    have B3 := hide (fun o => (((unhide B1).trans (b2.mono (unhide B1).size))).alloc (Nat.le_trans (unhide B1).size b2.size) o)
    clear K1a b2 B1 hL
    go_wp2
    go_ret
    exact ⟨rfl, unhide B3 _⟩
end Go.Proofs.Ytoikdjbgeebadaa.trees
