/- The walks of package big: Text; the second face. -/
import Derived.Test.YtgfleflfahabeaaWordTextPlain
set_option linter.unusedVariables false
namespace Go.Proofs.Ytgfleflfahabeaa.bigs
open Go.RowKit

set_option maxHeartbeats 4000000 in
set_option maxRecDepth 100000 in
theorem text_zero (w : World) (v : Value) (l : List Nat) (hv : WSl w v l) (sl : Words32 l) (ll : l.length ≤ 2000) (h0 : wval l = 0) :
    Calls Try.prog 29 #[v] w fun e w' => e = .returned (.string ⟨#[48]⟩) ∧ Below w.heap.size w w' := by
  have K1 := hide (trim_own w v l hv sl (by omega))
  rw [h0, wdig_zero] at K1
  go_enter Try.func29, Try.ntmps29
  go_wp2_with fail
  refine (unhide K1).mono ?_
  rintro e w1 ⟨v1, rfl, hown, b1⟩
  obtain ⟨a1, c1, rfl⟩ := own_slice hown
  clear hown K1 hv
  go_wp2_with fail
  go_loopw [3, 4] (fun vd vr wr => vd = .slice none 0 0 ∧ vr = .slice a1 0 c1 ∧ wr = w1) (fun _ _ _ => 0)
  case atStart => exact ⟨rfl, rfl, rfl⟩
  case round =>
    obtain ⟨rfl, rfl, rfl⟩ := hrel
    go_wp2_with fail
    go_loopw [3] (fun vd wq => vd = .slice none 0 0 ∧ wq = wr) (fun _ _ => 0)
    case atStart => exact ⟨rfl, rfl⟩
    case round =>
      obtain ⟨rfl, rfl⟩ := hrel
      go_wp2
      go_ret
      exact ⟨rfl, b1⟩

theorem keep_digits {w w' : World} {B g n : Nat} {v : Value} {xs : List Value} (h : w.ownsRow B 5 1 v n xs) (hg : w.grownBy w' (some g)) (hB : g < B) : w'.ownsRow B 5 1 v n xs :=
  h.kept hg (.inr fun e => by have := own_ge h g e; omega)
theorem row_apart {w : World} {B g n : Nat} {v : Value} {xs : List Value} (h : w.ownsRow B 5 1 v n xs) (hB : g < B) : some g ≠ v.ownBlock := fun e => by have := own_ge h g e.symm; omega
theorem words_ten (l : List Nat) (h : Words32 l) : wval l < 10 ^ (10 * l.length) := by
  have h1 := wval_lt h
  have h2 : 4294967296 ^ l.length ≤ (10 ^ 10) ^ l.length := Nat.pow_le_pow_left (by decide) _
  rw [← Nat.pow_mul] at h2
  omega
theorem cut_split {M : List Nat} (h : Words32 M) : M = wdig (wval M) ++ M.drop (wdig (wval M)).length := by
  have e := wdig_is_take M h
  have e2 := List.take_append_drop (wdig (wval M)).length M
  rw [e] at e2
  exact e2.symm

set_option maxHeartbeats 16000000 in
set_option maxRecDepth 100000 in
theorem text_pos (w : World) (v : Value) (l : List Nat) (hv : WSl w v l) (sl : Words32 l) (ll : l.length ≤ 2000) (h0 : wval l ≠ 0) :
    Calls Try.prog 29 #[v] w fun e w' => e = .returned (.string ⟨(decs (wval l)).toArray⟩) ∧ Below w.heap.size w w' := by
  obtain ⟨i0, hi, hz0, hz1, hz2⟩ := info_parts infoB
  have K1 := hide (trim_own w v l hv sl (by omega))
  have hlD := wdig_len_words sl
  have HT := hide (words_ten l sl)
  generalize wval l = n at *
  go_enter Try.func29, Try.ntmps29
  go_wp2_with fail
  refine (unhide K1).mono ?_
  rintro e w1 ⟨v1, rfl, hown, b1⟩
  obtain ⟨g, c, rfl, own1, hg⟩ := own_of hown (fun e => h0 (wdig_nil.1 e))
  have hg1 := own1.lt
  clear hown K1 hv sl
  go_wp2_with fail
  go_loopw [3, 4] (fun vd vr wr => ∃ (r : Nat) (L S : List Nat), vr = .slice (some ⟨g, 0, none⟩) (wdig r).length c ∧ Hid (Own wr g c (wdig r ++ S)) ∧ Hid (wr.ownsRow w1.heap.size 5 1 vd L.length (L.map byt)) ∧ Hid (Tens L) ∧ Hid (n = r * 10 ^ L.length + tval L) ∧
    L.length ≤ 20009 ∧ slen vd = L.length ∧ (wdig r).length ≤ 2000 ∧ Below w.heap.size w wr ∧ w1.heap.size ≤ wr.heap.size) (fun vd _ _ => 20018 - slen vd)
  case atStart => exact ⟨n, [], [], rfl, by show Own _ _ _ _; rw [List.append_nil]; exact own1, World.ownsRow_nil _ _ _ _, fun b hb => absurd hb (by simp), by show _ = _; simp [tval], by simp, rfl, by omega, b1, Nat.le_refl _⟩
  case round =>
    clear own1
    obtain ⟨r, L, S, rfl, hoR, hoD, hT, hn, hL, hsl, hlr, hbw, hbs⟩ := hrel
    by_cases hr : r = 0
    · subst hr
      rw [wdig_zero, List.length_nil]
      have hnL : tval L = n := by have h := hn.out; rw [Nat.zero_mul, Nat.zero_add] at h; exact h.symm
      have hL0 : L ≠ [] := fun e => h0 (by rw [← hnL, e]; rfl)
      obtain ⟨gd, cd, rfl, ownD, hgd⟩ := ownB_of hoD.out hL0
      have hcd : L.length ≤ cd := by
        rcases ownD.2 with h' | ⟨g', cap, cur, e, _, _, h, _⟩
        · simp at h'
        · simp only [Value.slice.injEq, Option.some.injEq, Addr.mk.injEq, and_true, true_and] at e
          obtain ⟨_, rfl⟩ := e
          exact h
      have HNL : Hid (tval (L.take L.length) = n) := by show _ = _; rw [List.take_length]; exact hnL
      clear hoR hoD hn hL0 hnL hlr
      go_wp2_with fail
      go_loopw [3] (fun vd wq => ∃ k, vd = .slice (some ⟨gd, 0, none⟩) k cd ∧ k ≤ L.length ∧ Hid (tval (L.take k) = n) ∧ wq = wr) (fun vd _ => slen vd)
      case atStart => exact ⟨L.length, rfl, Nat.le_refl _, HNL, rfl⟩
      case round =>
        obtain ⟨k, rfl, hk, hkn, rfl⟩ := hrel
        cases k with
        | zero => exact absurd hkn.out.symm (by rw [List.take_zero]; exact h0)
        | succ m =>
          have cm := ownD.cell m (by omega)
          by_cases h48 : L.getD m 0 = 48
          · have hkn2 : Hid (tval (L.take m) = n) := by
              have h := strip_next L m (by omega)
              rw [h48] at h
              have h2 := hkn.out
              show _ = _
              rw [← h2, h]
              simp
            rw [h48] at cm
            clear hkn h48
            go_wp2
            go_roundw
            case rel => exact ⟨m, rfl, by omega, hkn2, by trivial⟩
            case measure => simp only [slen]; omega
          · have h48' : (((L.getD m 0 : Nat) : Int) == 48) = false := beq_false_of_ne (by omega)
            have hsp : L = L.take (m + 1) ++ L.drop (m + 1) := (List.take_append_drop _ _).symm
            have htl : (L.take (m + 1)).length = m + 1 := by rw [List.length_take]; omega
            have k2 := reverse_any wr gd cd cd (L.take (m + 1)) (L.drop (m + 1)) (by omega) (by rw [← hsp]; exact ownD)
            rw [htl] at k2
            have K2 := hide k2
            have HE := hide (text_end hT.out hk h48 hkn.out)
            have hrl : (L.take (m + 1)).reverse.length = m + 1 := by rw [List.length_reverse]; exact htl
            have HRL := hide hrl
            have hz : (((m + 1 : Nat) : Int) == 0) = false := beq_false_of_ne (by omega)
            clear k2 hkn hsp htl h48 hrl ownD
            generalize L.getD m 0 = x at *
            go_wp2_with fail
            refine (unhide K2).mono ?_
            rintro e w2 ⟨rfl, own2, hgr2⟩
            have hcv := conv_row w2 gd cd cd (L.take (m + 1)).reverse (L.drop (m + 1)) own2
            rw [unhide HRL, unhide HE] at hcv
            have hb2 : Below w.heap.size w w2 := hbw.trans (below_of_grown hgr2 (by have := b1.size; omega) hbw.size)
            clear K2 own2 hgr2
            go_wp2
            go_ret
            exact ⟨rfl, hb2⟩
    · have hp := wdig_pos_len hr
      have hLb : L.length < 20000 := by
        have h1 := pow_less (text_big hn.out hr) HT.out
        omega
      have k1 := divideByWord_any wr g c c 1000000000 (wdig r) S (by omega) (words_wdig r) (by omega) (by omega) hoR.out
      rw [wval_wdig, show ((1000000000 : Nat) : Int) = 1000000000 from rfl] at k1
      have K1 := hide k1
      have hp0 : r % 1000000000 < 1000000000 := Nat.mod_lt _ (by omega)
      have HN0 : Hid (n = (r % 1000000000 + 10 ^ (9 - 0) * (r / 1000000000)) * 10 ^ L.length + tval L) := by
        show _ = _
        rw [show 10 ^ (9 - 0) = 1000000000 from rfl, Nat.mod_add_div]
        exact hn.out
      have HQ : Hid ((wdig (r / 1000000000)).length ≤ (wdig r).length) := wdig_mono (Nat.div_le_self _ _)
      clear k1 hn hoR hr
      generalize r % 1000000000 = p0 at *
      generalize r / 1000000000 = q at *
      generalize (wdig r).length = lr at *
      go_wp2_with fail
      refine (unhide K1).mono ?_
      rintro e w2 ⟨M', rfl, hM', sM', hvM', own2, hgr2⟩
      have hD2 := hide (keep_digits hoD.out hgr2 hg1)
      have hO2 := hide own2
      have hb2 : Below w.heap.size w w2 := hbw.trans (below_of_grown hgr2 (by have := b1.size; omega) hbw.size)
      have hbs2 : w1.heap.size ≤ w2.heap.size := Nat.le_trans hbs hgr2.size
      have HM' := hide hM'
      have HVM := hide hvM'
      have HSM := hide sM'
      clear K1 own2 hgr2 hoD hbw hbs hM' hvM' sM'
      go_wp2_with fail
      go_loopw [3, 5, 15] (fun vd vp vk wq => ∃ (k p : Nat) (D : List Nat), vk = .int .i64 k ∧ vp = .int .u32 p ∧ k ≤ 9 ∧ Hid (p < 10 ^ (9 - k)) ∧ p < 4294967296 ∧ D.length = L.length + k ∧ slen vd = D.length ∧ Hid (wq.ownsRow w1.heap.size 5 1 vd D.length (D.map byt)) ∧ Hid (Tens D) ∧
        Hid (n = (p + 10 ^ (9 - k) * q) * 10 ^ D.length + tval D) ∧ Hid (Own wq g c (M' ++ S)) ∧ Below w.heap.size w wq ∧ w1.heap.size ≤ wq.heap.size) (fun _ _ vk _ => 9 - (intOf vk).toNat)
      case atStart => exact ⟨0, p0, L, rfl, rfl, by omega, hp0, by omega, by omega, hsl, hD2, hT, HN0, hO2, hb2, hbs2⟩
      case round =>
        clear hD2 hO2 hb2 hbs2 HN0
        obtain ⟨k, p, D, rfl, rfl, hk9, hpk, hpW, hDl, hsd, hoD, hTD, hnD, hoM, hbq, hbsq⟩ := hrel
        by_cases hk : k < 9
        · obtain ⟨j, hj⟩ : ∃ j, 9 - k = j + 1 := ⟨9 - k - 1, by omega⟩
          have hn2 : Hid (n = (p / 10 + 10 ^ (9 - (k + 1)) * q) * 10 ^ (D ++ [48 + p % 10]).length + tval (D ++ [48 + p % 10])) := by
            have h := hnD.out
            rw [hj] at h
            rw [show 9 - (k + 1) = j by omega]
            exact text_step h
          have hpk2 : Hid (p / 10 < 10 ^ (9 - (k + 1))) := by
            have h := hpk.out
            rw [hj, Nat.pow_succ] at h
            show _ < _
            rw [show 9 - (k + 1) = j by omega]
            omega
          have hTD2 : Hid (Tens (D ++ [48 + p % 10])) := tens_snoc hTD.out (by omega) (by omega)
          have hoD' := unhide hoD
          have hap := row_apart hoD' hg1
          have hoM' := unhide hoM
          clear hoD hoM hpk hnD hTD hj
          go_wp2_with (at_builtin; refine wpList_append_own _ rfl _ _ 70 rfl w1.heap.size 5 i0 (.int .u8 0) 1 1 Try.underlying70 hi hz0 hz1 hz2 rfl (by decide) _ _ _ rfl (hoD'.alloc _) ⟨wr.heap.size, 0, none⟩ 1 1 [.int .u8 (48 + (p : Int) % 10)] rfl rfl ?c1 ?c2 ?c3 ?c4 ?c5 ?_)
          case c1 => exact cell_one_new _ _ _
          case c2 => intro u hu; simp at hu; subst hu; rfl
          case c3 => unfold maxLen; omega
          case c4 => omega
          case c5 => simp; omega
          intro v' w3 hown' hgrow _
          have hoM3 := hide ((hoM'.below ((Below.refl _ wr).alloc (Nat.le_refl _) (.cells #[.int .u8 (48 + (p : Int) % 10)] 5))).keep hgrow hap)
          have hb3 : Below w.heap.size w w3 := (hbq.alloc hbq.size _).grown hgrow (by have := hbq.size; simp; omega) (fun k e => by have := own_ge hoD' k e; have := b1.size; omega)
          have hbs3 : w1.heap.size ≤ w3.heap.size := by have := hgrow.size; simp at this; omega
          have HO : Hid (w3.ownsRow w1.heap.size 5 1 v' (D ++ [48 + p % 10]).length ((D ++ [48 + p % 10]).map byt)) := by
            show World.ownsRow _ _ _ _ _ _ _
            rw [← hDl] at hown'
            simpa [byt] using hown'
          have hs3 : slen v' = (D ++ [48 + p % 10]).length := by
            obtain ⟨vb, vc, e⟩ := own_slice (unhide HO)
            rw [e]
            rfl
          clear hgrow hown' hoD' hoM' hap
          go_wp2
          go_roundw
          case rel => exact ⟨k + 1, p / 10, D ++ [48 + p % 10], by go_num, by go_num, by omega, hpk2, by omega, by rw [List.length_append, List.length_singleton]; omega, hs3, HO, hTD2, hn2, hoM3, hb3, hbs3⟩
          case measure => simp only [intOf]; omega
        · have hk9' : k = 9 := by omega
          have hfin : Hid (n = q * 10 ^ D.length + tval D) := by
            have h := hnD.out
            have h2 := hpk.out
            rw [hk9'] at h h2
            have hp0' : p = 0 := by
              rw [show 10 ^ (9 - 9) = 1 from rfl] at h2
              omega
            rw [hp0', show 10 ^ (9 - 9) = 1 from rfl, Nat.one_mul, Nat.zero_add] at h
            exact h
          have hoM' := unhide hoM
          have hrowM : RowU wr (some ⟨g, 0, none⟩) M' := by
            have h := Own.mid (P := []) (M := M') (S := S) (by rw [List.nil_append]; exact hoM')
            exact h
          have hcapM := hoM'.cap
          rw [List.length_append] at hcapM
          have k4 := wcut_any wr (some ⟨g, 0, none⟩) M' c (by rw [unhide HM']; omega) (by omega) hrowM (unhide HSM)
          rw [unhide HM', unhide HVM] at k4
          have K4 := hide k4
          have HO4 : Hid (Own wr g c (wdig q ++ (M'.drop (wdig q).length ++ S))) := by
            have e := cut_split (unhide HSM)
            rw [unhide HVM] at e
            show Own _ _ _ _
            rw [← List.append_assoc, ← e]
            exact hoM'
          have hq2 : (wdig q).length ≤ 2000 := Nat.le_trans HQ.out hlr
          clear k4 hrowM hcapM hoM hoM' hnD hpk
          have hk9n : ¬ ((k : Int) < 9) := by omega
          go_wp2_with fail
          refine (unhide K4).mono ?_
          rintro e w4 ⟨rfl, rfl⟩
          go_wp2
          go_roundw
          case rel => exact ⟨q, D, M'.drop (wdig q).length ++ S, rfl, HO4, hoD, hTD, hfin, by omega, hsd, hq2, hbq, hbsq⟩
          case measure => omega
theorem text_any (w : World) (v : Value) (l : List Nat) (hv : WSl w v l) (sl : Words32 l) (ll : l.length ≤ 2000) :
    Calls Try.prog 29 #[v] w fun e w' => e = .returned (.string ⟨(decs (wval l)).toArray⟩) ∧ Below w.heap.size w w' := by
  by_cases h0 : wval l = 0
  · have h := text_zero w v l hv sl ll h0
    rw [h0]
    exact h
  · exact text_pos w v l hv sl ll h0

end Go.Proofs.Ytgfleflfahabeaa.bigs
