/- The walks of the document's answer: Over. -/
import Derived.Test.YtgfleflfahabeaaBigBy
set_option linter.unusedVariables false
namespace Go.Proofs.Ytgfleflfahabeaa.bigs
open Go.RowKit

theorem append_types (w : World) (ty : TypeId) (b a : Option Addr) (n c m d : Nat) :
    (Builtin.append_ #[23, 24] ty #[.slice b n c, .slice a m d]).run Try.prog w = (Builtin.append_ #[23, 23] ty #[.slice b n c, .slice a m d]).run Try.prog w := by
  simp [Builtin.append_, Sem.run_bind, run_underlying Try.underlying23, run_underlying Try.underlying24]
theorem own_slice {w : World} {base e n : Nat} {v : Value} {xs : List Value} (h : w.ownsRow base e 1 v n xs) : ∃ b c, v = .slice b n c := by
  rcases h.2 with ⟨rfl, rfl⟩ | ⟨g, cap, cur, rfl, _⟩
  · exact ⟨_, _, rfl⟩
  · exact ⟨_, _, rfl⟩

theorem run_append_row (w : World) (ty : TypeId) (base : Nat) (v : Value) (n : Nat) (xs : List Value) (hown : w.ownsRow base 3 1 v n xs) (a : Option Addr) (l : List Nat) (c : Nat) (hr : Row w a l)
    (hb : (n + l.length) * 8 ≤ 140737488355328) (hbase : base ≤ w.heap.size) :
    ∃ v' w', (Builtin.append_ #[23, 24] ty #[v, .slice a l.length c]).run Try.prog w = .ok v' w' ∧ w'.ownsRow base 3 1 v' (n + l.length) (xs ++ l.map num) ∧ w.grownBy w' v.ownBlock := by
  obtain ⟨i0, hi, hz0, hz1, hz2⟩ := info_parts infoInt
  obtain ⟨vb, vc, rfl⟩ := own_slice hown
  rw [append_types]
  cases a with
  | none =>
    have hl : l = [] := by
      by_cases h : l = []
      · exact h
      · obtain ⟨b, o, e, _⟩ := hr h
        cases e
    subst hl
    refine ⟨.slice vb n vc, w, ?_, by simpa using hown, ⟨rfl, rfl, rfl, Nat.le_refl _, fun _ _ _ => rfl⟩⟩
    rcases hown.2 with ⟨e, rfl⟩ | ⟨g, cap, cur, e, hbg, hg, hnc, _⟩
    · rw [e]
      simp [Builtin.append_, run_underlying Try.underlying23, sizeOf, typeInfo, hi, Builtin.lenOf, Builtin.firstCells]
    · rw [e]
      simp [Builtin.append_, run_underlying Try.underlying23, sizeOf, typeInfo, hi, Builtin.lenOf, Builtin.firstCells, hnc, storeCells]
  | some ad =>
    obtain ⟨v', w', h1, h2, h3, _⟩ := run_append_own (P := Try.prog) w base 23 ty 3 i0 (.int .i64 0) 1 8 Try.underlying23 hi hz0 hz1 hz2 rfl (by decide) _ n xs hown ad l.length c (l.map num) (by simp) (fun j u hu => by
      have hj : j < l.length := by
        have := (List.getElem?_eq_some_iff.1 hu).1
        simpa using this
      obtain ⟨b, o, e, _, hc⟩ := hr (by intro e; rw [e] at hj; simp at hj)
      cases e
      have hcj := hc j hj
      have hu' : u = .int .i64 ((l.getD j 0 : Nat) : Int) := by
        rw [List.getElem?_map, List.getElem?_eq_getElem hj] at hu
        simp at hu
        rw [← hu]
        simp [num, List.getD, List.getElem?_eq_getElem hj]
      rw [hu']
      have hadd : (⟨b, o, none⟩ : Addr).add j = ⟨b, o + j, none⟩ := by unfold Addr.add; split <;> simp_all
      rw [hadd]
      exact hcj) (fun u hu => by
        obtain ⟨x, _, rfl⟩ := List.mem_map.1 hu
        rfl) (by unfold maxLen; omega) hb hbase
    exact ⟨v', w', h1, h2, h3⟩

theorem wpList_append_row (w : World) {ops : Array Oper} {rest : List Oper} {o : Oper} {a : Act} {Q : Exit → Act → World → Prop} (hgd : o.guard = none) (s x : Operand)
    (ho : o.op = .call { callee := .builtin .append, args := #[s, x], argTypes := #[23, 24] }) (base : Nat) (v : Value) (n : Nat) (xs : List Value) (hs : a.eval s = v) (hown : w.ownsRow base 3 1 v n xs)
    (ad : Option Addr) (l : List Nat) (c : Nat) (hx : a.eval x = .slice ad l.length c) (hr : Row w ad l) (hb : (n + l.length) * 8 ≤ 140737488355328) (hbase : base ≤ w.heap.size)
    (h : ∀ v' w', w'.ownsRow base 3 1 v' (n + l.length) (xs ++ l.map num) → w.grownBy w' v.ownBlock → wpList Try.prog ops Q rest (a.put o.dst v') w') : wpList Try.prog ops Q (o :: rest) a w := by
  refine wpList_plain hgd fun K hK => ?_
  obtain ⟨v', w', h1, h2, h3⟩ := run_append_row w o.type base v n xs hown ad l c hr hb hbase
  unfold Oper.wp execOp
  simp only [ho, resolve, invoke, builtin, Sem.run_bind, Sem.run_pure, Result.andThen_ok, List.map_toArray, List.map_cons, List.map_nil, hs, hx, h1]
  exact hK _ _ (h v' w' h2 h3)

theorem own_heap {w : World} {base e n c g : Nat} {xs : List Value} (h : w.ownsRow base e 1 (.slice (some ⟨g, 0, none⟩) n c) n xs) : ∃ cur, w.heap[g]? = some (.cells cur e (0, 0)) := by
  rcases h.2 with ⟨h, _⟩ | ⟨g', cap, cur, h, _, hg, _⟩
  · cases h
  · simp only [Value.slice.injEq, Option.some.injEq, Addr.mk.injEq, and_true, true_and] at h
    obtain ⟨rfl, _⟩ := h
    exact ⟨cur, hg⟩
theorem own_below {w w' : World} {base e n : Nat} {v : Value} {xs : List Value} (h : w.ownsRow base e 1 v n xs) (hb : Below w.heap.size w w') : w'.ownsRow base e 1 v n xs := by
  refine ⟨h.1, ?_⟩
  rcases h.2 with hn | ⟨g, cap, cur, e, h1, hg, rest⟩
  · exact .inl hn
  · refine .inr ⟨g, cap, cur, e, h1, ?_, rest⟩
    rw [hb.block g (Array.getElem?_eq_some_iff.1 hg).1]
    exact hg
theorem Lies.setCell {w : World} {v : Value} {n : Nat} (h : Lies w v n) (g k : Nat) (u : Value) (hne : ∀ b, v.ownBlock = some b → b ≠ g) : Lies (w.setCell ⟨g, k, none⟩ u) v n := by
  obtain ⟨a, cap, rfl, hc, hr⟩ := h
  refine ⟨a, cap, rfl, hc, fun h0 => ?_⟩
  obtain ⟨b, o, rfl, hb, hcell⟩ := hr h0
  have hbg := hne b rfl
  refine ⟨b, o, rfl, by simpa using hb, fun j hj => ?_⟩
  rw [← hcell j hj]
  exact World.cell?_of_block (Below.heap_setCell w ⟨g, k, none⟩ u b hbg)
theorem dig_mul_len {n d : Nat} (h : d < 10000) : (dig (n * d)).length ≤ (dig n).length + 1 := by
  apply dig_length_le
  rw [Nat.pow_succ]
  have h1 := lt_pow_dig n
  by_cases h0 : d = 0
  · subst h0
    have : 0 < 10000 ^ (dig n).length := Nat.pow_pos (by omega)
    omega
  · have h2 : n * d < 10000 ^ (dig n).length * d := Nat.mul_lt_mul_of_pos_right h1 (by omega)
    have h3 : 10000 ^ (dig n).length * d ≤ 10000 ^ (dig n).length * 10000 := Nat.mul_le_mul_left _ (by omega)
    omega
theorem dig_lt_len {n R : Nat} (h : R < n * 10000) : (dig R).length ≤ (dig n).length + 1 := by
  apply dig_length_le
  rw [Nat.pow_succ]
  have h1 := lt_pow_dig n
  exact Nat.lt_of_lt_of_le h (Nat.mul_le_mul_right _ (Nat.le_of_lt h1))
theorem dig_one_len {d : Nat} (h : d < 10000) : (dig d).length ≤ 1 := dig_length_le (by simpa using h)
theorem drop_set_val (l : List Nat) (k d : Nat) (h : k < l.length) : val ((l.set k d).drop k) = d + 10000 * val (l.drop (k + 1)) := by
  rw [drop_val]
  have e1 : (l.set k d).getD k 0 = d := by simp [List.getD, h]
  have e2 : (l.set k d).drop (k + 1) = l.drop (k + 1) := by rw [List.drop_set_of_lt (by omega)]
  rw [e1, e2]
/-- A round of the division. -/
theorem over_round {H Q r n a lo : Nat} (h : H = Q * n + r) (hlo : n * lo ≤ a + 10000 * r) : a + 10000 * H = (lo + 10000 * Q) * n + (a + 10000 * r - n * lo) := by
  rw [h, Nat.add_mul, Nat.mul_comm lo n, Nat.mul_assoc]
  omega
theorem over_end {m n Q r : Nat} (h : m = Q * n + r) (hr : r < n) : m / n = Q ∧ m % n = r := by
  refine (Nat.div_mod_unique (by omega)).2 ⟨?_, hr⟩
  rw [h, Nat.mul_comm]
  omega

set_option maxHeartbeats 8000000 in
set_option maxRecDepth 100000 in
theorem over_any (w : World) (va vb : Value) (m n : Nat) (hm : (dig m).length ≤ 1000000) (hn : (dig n).length ≤ 1000000) (hn0 : n ≠ 0) (ha : Lies w va m) (hb : Lies w vb n) :
    Calls Try.prog 24 #[va, vb] w fun e w' => ∃ v1 v2, e = .returned (.tuple #[v1, v2]) ∧ Lies w' v1 (m / n) ∧ Lies w' v2 (m % n) ∧ Fresh w.heap.size v1 ∧ Fresh w.heap.size v2 ∧ Below w.heap.size w w' := by
  obtain ⟨i0, hi, hz0, hz1, hz2⟩ := info_parts infoInt
  obtain ⟨aa, ca, rfl, hca, ra⟩ := ha
  have sa := small_dig m
  have HE : Hid (∀ Q r, val ((dig m).drop 0) = Q * n + r → r < n → m / n = Q ∧ m % n = r) := fun Q r h1 h2 => by
    rw [List.drop_zero, val_dig] at h1
    exact over_end h1 h2
  generalize dig m = A at *
  go_enter Try.func24, Try.ntmps24
  go_wp2_with (at_make; refine wpList_make_full _ rfl _ _ 23 rfl w.heap.size 3 i0 (.int .i64 0) 1 Try.underlying23 hi hz0 hz1 _ _ _ _ A.length rfl rfl (by omega) (by omega) ?b2 ?b3 ?b4 ?_)
  case b2 => rw [hz2]; omega
  case b3 => unfold maxLen; omega
  case b4 => exact Nat.le_refl _
  intro w1 hown1 hgrow1
  rw [made_zero] at hown1
  have hbw1 : Below w.heap.size w w1 := (Below.refl _ w).grown hgrow1 (Nat.le_refl _) (fun k h => by cases h)
  clear hgrow1
  go_wp2
  go_loopw [7, 8] (fun vr i wr => ∃ (k r : Nat) (l : List Nat), i = .int .i64 ((k : Int) - 1) ∧ k ≤ A.length ∧ Lies wr vr r ∧ Fresh (w.heap.size + 1) vr ∧ r < n ∧ l.length = A.length ∧ Hid (Small10 l) ∧ Hid (val (A.drop k) = val (l.drop k) * n + r) ∧
    wr.ownsRow w.heap.size 3 1 (.slice (some ⟨w.heap.size, 0, none⟩) A.length A.length) A.length (l.map num) ∧ Below w.heap.size w wr) (fun _ i _ => (intOf i + 1).toNat)
  case atStart =>
    refine ⟨A.length, 0, List.replicate A.length 0, rfl, Nat.le_refl _, ⟨none, 0, by rw [dig_zero]; rfl, by rw [dig_zero]; simp, by rw [dig_zero]; exact fun h => absurd rfl h⟩, (fun g h => by cases h), by omega, by simp, small_zero _, ?_, hown1, hbw1⟩
    show _ = _
    rw [List.drop_of_length_le (Nat.le_refl _), List.drop_of_length_le (by simp)]
    simp [val]
  case round =>
    obtain ⟨k, r, l, rfl, hk, hr, hfr, hrn, hll, hsm, hval, hown, hbw⟩ := hrel
    clear hown1 hbw1
    cases k with
    | zero =>
      obtain ⟨e1, e2⟩ := HE.out (val l) r (by have h := hval.out; rw [List.drop_zero (l := l)] at h; exact h) hrn
      have E1 := hide e1
      have E2 := hide e2
      obtain ⟨g, cap, hv, hc, hr'⟩ := row_own (l := l) (w := wr) (base := w.heap.size) (v := .slice (some ⟨w.heap.size, 0, none⟩) A.length A.length) (by rw [hll]; exact hown)
      have k1 := cut_any wr g l cap (by omega) hc hr' hsm.out
      rw [← hv] at k1
      have K1 := hide k1
      have HF := hide hfr
      clear k1 hval hown hr' hsm hv hc e1 e2 hfr
      go_wp2_with fail
      refine (unhide K1).mono ?_
      rintro e w2 ⟨v, rfl, hL, hob, rfl⟩
      have HO := hide hob
      clear hob
      go_wp2
      go_ret2
      refine ⟨_, _, rfl, ?_, ?_, ?_, ?_, hbw⟩
      · rw [unhide E1]; exact hL
      · rw [unhide E2]; exact hr
      · intro g hg
        have h := (unhide HO).symm.trans hg
        simp [Value.ownBlock] at h
        omega
      · intro g hg
        have := unhide HF g hg
        omega
    | succ k =>
      have e0 : ((k + 1 : Nat) : Int) - 1 = (k : Int) := by omega
      rw [e0]
      obtain ⟨b, o, rfl, hba, hca'⟩ := ra (by intro e; rw [e] at hk; simp at hk)
      have c1 : wr.cell? ⟨b, o + k, none⟩ = some (.int .i64 ((A.getD k 0 : Nat) : Int)) := by rw [hbw.cell (p := ⟨b, o + k, none⟩) hba]; exact hca' k (by omega)
      have xa := small_getD sa k
      have HV : Hid (val (A.drop k) = A.getD k 0 + 10000 * val (A.drop (k + 1))) := drop_val A k
      clear hca'
      generalize A.getD k 0 = x at *
      obtain ⟨ar, cr, rfl, hcr, rr⟩ := hr
      have i1 : (k : Int) < (A.length : Int) := by omega
      have hlr : (dig r).length ≤ 1000000 := Nat.le_trans (dig_len_mono (by omega)) hn
      have rr2 := rr.below ((Below.refl _ wr).alloc (Nat.le_refl _) (.cells #[.int .i64 (x : Int)] 3))
      have hlit := World.ownsRow_lit (base := wr.heap.size) (e := 3) (size := 1) wr #[.int .i64 (x : Int)] 1 (Nat.le_refl _) (by decide) rfl
      go_wp2_with (at_builtin; refine wpList_append_row _ rfl _ _ rfl wr.heap.size _ 1 [.int .i64 (x : Int)] rfl hlit ar (dig r) cr rfl rr2 ?c1 ?c2 ?_)
      case c1 => omega
      intro v2 w2 hown2 hgrow2
      have hb2 : Below wr.heap.size wr w2 := ((Below.refl _ wr).alloc (Nat.le_refl _) _).grown hgrow2 (by simp) (fun j h => by simp [Value.ownBlock] at h; omega)
      clear hgrow2 hlit rr2
      have hbw2 : Below w.heap.size w w2 := hbw.trans (hb2.mono hbw.size)
      have hq2 := own_below hown hb2
      have hz1' : w.heap.size + 1 ≤ wr.heap.size := by
        obtain ⟨cur, hg⟩ := own_heap hown
        have := (Array.getElem?_eq_some_iff.1 hg).1
        omega
      have hfr2 := own_ge hown2
      obtain ⟨a2, cp2, hv2, hcp2, hr2⟩ := row_own (l := x :: dig r) (w := w2) (base := wr.heap.size) (v := v2) (by simpa [num, Nat.add_comm] using hown2)
      have hlen2 : (x :: dig r).length = 1 + (dig r).length := by rw [List.length_cons]; omega
      have k1 := cut_any w2 a2 (x :: dig r) cp2 (by omega) hcp2 hr2 (small_cons.2 ⟨xa, small_dig r⟩)
      have ev : val (x :: dig r) = x + 10000 * r := by rw [val, val_dig]
      rw [ev, ← hv2] at k1
      have K1 := hide k1
      clear hown2 hr2 ev hcp2 k1 hv2 hlen2 hown hb2 rr hcr hfr c1
      go_wp2_with fail
      refine (unhide K1).mono ?_
      rintro e w3 ⟨vR, rfl, hLR, hob, rfl⟩
      have hfR : Fresh (w.heap.size + 1) vR := fun g hg => by
        have := hfr2 g (by rw [← hob]; exact hg)
        omega
      have hbb := hb.below hbw2
      have hRn : x + 10000 * r < n * 10000 := by omega
      have HRH : Hid (∀ lo, n * lo ≤ x + 10000 * r → val (A.drop k) = (lo + 10000 * val (l.drop (k + 1))) * n + (x + 10000 * r - n * lo)) := fun lo h => by
        rw [HV.out]
        exact over_round hval.out h
      clear K1 hob hfr2 HV hval
      generalize x + 10000 * r = R at *
      have hlR := dig_lt_len hRn
      go_wp2_with fail
      go_loopw [9, 10] (fun lo hi wq => ∃ p q : Nat, lo = .int .i64 p ∧ hi = .int .i64 q ∧ p < q ∧ q ≤ 10000 ∧ Hid (n * p ≤ R ∧ R < n * q) ∧ Below w3.heap.size w3 wq) (fun lo hi _ => (intOf hi - intOf lo).toNat)
      case atStart => exact ⟨0, 10000, rfl, rfl, by omega, by omega, ⟨by simp, hRn⟩, Below.refl _ _⟩
      case round =>
        obtain ⟨p, q, rfl, rfl, hpq, hq, hbin, hbq⟩ := hrel
        by_cases hgo : p + 1 < q
        · have hmid : (p + q) / 2 < 10000 := by omega
          have hmid0 : p < (p + q) / 2 := by omega
          have hmid1 : (p + q) / 2 < q := by omega
          have K2 := hide (small_any ((p + q) / 2) wr (by omega))
          have em : ((p : Int) + (q : Int)) / 2 = (((p + q) / 2 : Nat) : Int) := by omega
          generalize (p + q) / 2 = d at *
          have hd1 := dig_one_len hmid
          have hd2 := dig_mul_len (n := n) hmid
          by_cases hle : n * d ≤ R
          · have ts : sgn (n * d) R ≤ 0 := by unfold sgn; split; (· omega); (split; (· omega); exact Int.le_refl _)
            have HB : Hid (n * d ≤ R ∧ R < n * q) := ⟨hle, hbin.out.2⟩
            have K3 : ∀ (u : World) vp, Lies u vp (n * d) → Lies u vR R → Hid _ := fun u vp h1 h2 => hide (against_any u vp vR (n * d) R (by omega) (by omega) h1 h2)
            clear hbin hle
            generalize sgn (n * d) R = z at *
            go_wp2_with fail
            refine (unhide K2).mono ?_
            rintro e w4 ⟨vs, rfl, hLs, _, b4⟩
            have b34 := hbq.trans (b4.mono hbq.size)
            go_wp2_with fail
            refine (by_any w4 vb vs n d (by omega) (by omega) (hbb.below b34) hLs).mono ?_
            rintro e w5 ⟨vp, rfl, hLp, _, b5⟩
            have b35 := b34.trans (b5.mono b34.size)
            go_wp2_with fail
            refine (unhide (K3 w5 vp hLp (hLR.below b35))).mono ?_
            rintro e w6 ⟨rfl, rfl⟩
            clear K3 K2 hLp hLs
            go_wp2
            go_roundw
            case rel => exact ⟨d, q, by go_num, by go_num, hmid1, hq, HB, b35⟩
            case measure => simp only [intOf]; omega
          · have ts : ¬ sgn (n * d) R ≤ 0 := by unfold sgn; rw [if_neg (by omega), if_pos (by omega)]; omega
            have HB : Hid (n * p ≤ R ∧ R < n * d) := ⟨hbin.out.1, by omega⟩
            have K3 : ∀ (u : World) vp, Lies u vp (n * d) → Lies u vR R → Hid _ := fun u vp h1 h2 => hide (against_any u vp vR (n * d) R (by omega) (by omega) h1 h2)
            clear hbin hle
            generalize sgn (n * d) R = z at *
            go_wp2_with fail
            refine (unhide K2).mono ?_
            rintro e w4 ⟨vs, rfl, hLs, _, b4⟩
            have b34 := hbq.trans (b4.mono hbq.size)
            go_wp2_with fail
            refine (by_any w4 vb vs n d (by omega) (by omega) (hbb.below b34) hLs).mono ?_
            rintro e w5 ⟨vp, rfl, hLp, _, b5⟩
            have b35 := b34.trans (b5.mono b34.size)
            go_wp2_with fail
            refine (unhide (K3 w5 vp hLp (hLR.below b35))).mono ?_
            rintro e w6 ⟨rfl, rfl⟩
            clear K3 K2 hLp hLs
            go_wp2
            go_roundw
            case rel => exact ⟨p, d, by go_num, by go_num, hmid0, by omega, HB, b35⟩
            case measure => simp only [intOf]; omega
        · have hqp : q = p + 1 := by omega
          subst hqp
          have hq4 := own_below hq2 hbq
          have cq : wr.cell? ⟨w.heap.size, k, none⟩ = some (.int .i64 ((l.getD k 0 : Nat) : Int)) := by
            rw [hq4.cellAt k (by omega)]
            simp [num, List.getD, show k < l.length by omega]
          have fq := hq4.frozenAt k
          have hst := (hq4.stored k (.int .i64 (p : Int))).1
          have bset : Below w.heap.size w (wr.setCell ⟨w.heap.size, k, none⟩ (.int .i64 (p : Int))) := (hbw2.trans (hbq.mono hbw2.size)).setCell (Nat.le_refl _) _
          have hLR2 : Lies (wr.setCell ⟨w.heap.size, k, none⟩ (.int .i64 (p : Int))) vR R := (hLR.below hbq).setCell _ _ _ (fun g hg => by have := hfR g hg; omega)
          have hbb2 : Lies (wr.setCell ⟨w.heap.size, k, none⟩ (.int .i64 (p : Int))) vb n := hb.below bset
          have hz3 : w.heap.size + 1 ≤ (wr.setCell ⟨w.heap.size, k, none⟩ (.int .i64 (p : Int))).heap.size := by
            have h := World.block_lt_of_cell? wr ⟨w.heap.size, k, none⟩ cq
            simp
            exact h
          have hrem : R - n * p < n := by
            have := hbin.out.2
            rw [Nat.mul_add, Nat.mul_one] at this
            omega
          have hle : n * p ≤ R := hbin.out.1
          have HV2 : Hid (val (A.drop k) = val ((l.set k p).drop k) * n + (R - n * p)) := by
            show _ = _
            rw [drop_set_val l k p (by omega)]
            exact unhide HRH p hle
          have hd1 := dig_one_len (d := p) (by omega)
          have HSM : Hid (Small10 (l.set k p)) := small_set hsm.out (by omega)
          clear hbin hq2 hLR hbb hbq hq4 HRH hsm
          go_wp2_with fail
          refine (small_any p _ (by omega)).mono ?_
          rintro e w4 ⟨vs, rfl, hLs, _, b4⟩
          go_wp2_with fail
          refine (by_any w4 vb vs n p (by omega) (by omega) (hbb2.below b4) hLs).mono ?_
          rintro e w5 ⟨vp, rfl, hLp, _, b5⟩
          go_wp2_with fail
          refine (minus_any w5 vR vp R (n * p) (by omega) hle ((hLR2.below b4).below b5) hLp).mono ?_
          rintro e w6 ⟨v6, rfl, hL6, hf6, b6⟩
          have b46 := (b4.trans (b5.mono b4.size)).trans (b6.mono (b4.trans (b5.mono b4.size)).size)
          have hst6 := own_below hst b46
          have bw6 := bset.trans (b46.mono bset.size)
          have hf7 : Fresh (w.heap.size + 1) v6 := fun g hg => by
            have := hf6 g hg
            have := (b4.trans (b5.mono b4.size)).size
            omega
          clear b4 b5 b6 hLs hLp hLR2 hbb2 bset hst hf6
          go_wp2
          go_roundw
          case rel =>
            refine ⟨k, R - n * p, l.set k p, rfl, by omega, hL6, hf7, hrem, by simp [hll], HSM, HV2, ?_, bw6⟩
            rw [List.map_set]
            exact hst6
          case measure => simp only [intOf]; omega
end Go.Proofs.Ytgfleflfahabeaa.bigs
