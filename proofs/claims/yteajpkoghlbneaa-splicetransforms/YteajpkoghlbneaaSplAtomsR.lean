/- The document's AtomsOf. -/
import Derived.Test.YteajpkoghlbneaaSplAtomW
set_option linter.unusedVariables false
namespace Go.Proofs.Yteajpkoghlbneaa.spls
open Go.RowKit

theorem act_splitG {α : Type} (pt : UInt8 → α) : ∀ (x y : List M) (s : List α), ov x ≤ s.length → act pt (x ++ y) s = act pt x (s.take (ov x)) ++ act pt y (s.drop (ov x))
  | [], y, s, h => by simp [act, ov]
  | none :: x, y, [], h => by simp [ov] at h
  | none :: x, y, a :: s, h => by
    show a :: act pt (x ++ y) s = _
    rw [act_splitG pt x y s (by simpa [ov] using h)]
    rfl
  | some none :: x, y, [], h => by simp [ov] at h
  | some none :: x, y, a :: s, h => by
    show act pt (x ++ y) s = _
    rw [act_splitG pt x y s (by simpa [ov] using h)]
    rfl
  | some (some b) :: x, y, s, h => by
    show pt b :: act pt (x ++ y) s = _
    rw [act_splitG pt x y s h]
    rfl
theorem act_next {l : List At} {L : List Pt} {j : Nat} (h : j < L.length) (hs : ov (exL L) ≤ l.length) :
    act ptA (exL (L.take (j + 1))) (l.take (ov (exL (L.take (j + 1))))) = act ptA (exL (L.take j)) (l.take (ov (exL (L.take j)))) ++ act ptA (ex L[j]) ((l.drop (ov (exL (L.take j)))).take (ov (ex L[j]))) ∧ ov (exL (L.take j)) + ov (ex L[j]) ≤ l.length := by
  rw [exL_take h, ov_app]
  have hle : ov (exL (L.take j)) + ov (ex L[j]) ≤ l.length := by
    have e : exL L = exL (L.take (j + 1)) ++ exL (L.drop (j + 1)) := by rw [← exL_app, List.take_append_drop]
    rw [e, exL_take h, ov_app, ov_app] at hs
    omega
  refine ⟨?_, hle⟩
  rw [act_splitG ptA _ _ _ (by rw [List.length_take]; omega)]
  congr 2
  · rw [List.take_take, Nat.min_eq_left (by omega)]
  · rw [List.drop_take, Nat.add_sub_cancel_left]
theorem add_at (b o j : Nat) : (⟨b, o, none⟩ : Addr).add j = ⟨b, o + j, none⟩ := by
  unfold Addr.add
  split <;> simp_all
theorem LiesA.cells {w : World} {B o : Nat} {l : List At} (h : LiesA w (some ⟨B, o, none⟩) l) : ∀ j u, (l.flatMap atC)[j]? = some u → w.cell? ((⟨B, o, none⟩ : Addr).add j) = some u := fun j u hu => by
  have hj : j < l.length * 2 := by rw [← at_len]; exact (List.getElem?_eq_some_iff.1 hu).1
  obtain ⟨B', o', e, _, hc⟩ := h (by omega)
  injection e with e
  injection e with e e'
  subst e e'
  obtain ⟨c0, c1⟩ := hc (j / 2) _ (List.getElem?_eq_getElem (by omega))
  obtain ⟨g0, g1⟩ := at_get l (j / 2) (by omega)
  rw [add_at]
  by_cases h2 : j % 2 = 0
  · have e2 : j = j / 2 * 2 := by omega
    rw [e2] at hu ⊢
    rw [g0] at hu
    rw [c0, hu]
  · have e2 : j = j / 2 * 2 + 1 := by omega
    rw [e2] at hu ⊢
    rw [g1] at hu
    rw [← Nat.add_assoc, c1, hu]
theorem LiesA.part {w : World} {B o : Nat} {l : List At} (h : LiesA w (some ⟨B, o, none⟩) l) (n : Nat) : LiesA w (some ⟨B, o, none⟩) (l.take n) := fun hn => by
  obtain ⟨B', o', e, hB, hc⟩ := h (fun e => hn (by rw [List.length_take, e, Nat.min_zero]))
  exact ⟨B', o', e, hB, fun j a ha => hc j a (by
    have hj := (List.getElem?_eq_some_iff.1 ha).1
    rw [List.length_take] at hj
    rwa [List.getElem?_take_of_lt (by omega)] at ha)⟩
theorem LiesA.rest {w : World} {B o : Nat} {l : List At} (h : LiesA w (some ⟨B, o, none⟩) l) (n : Nat) : LiesA w (some ⟨B, o + n * 2, none⟩) (l.drop n) := fun hn => by
  obtain ⟨B', o', e, hB, hc⟩ := h (fun e => hn (by rw [List.length_drop, e, Nat.zero_sub]))
  injection e with e
  injection e with e e'
  subst e e'
  refine ⟨B, o + n * 2, rfl, hB, fun j a ha => ?_⟩
  rw [List.getElem?_drop] at ha
  have := hc _ _ ha
  rw [show o + (n + j) * 2 = o + n * 2 + j * 2 from by omega] at this
  exact this
theorem run_nil_atoms (w : World) (ty : TypeId) (base : Nat) (v : Value) (l : List At) (h : OwnA w base v l) : (Builtin.append_ #[39, 39] ty #[v, .slice none 0 0]).run Try.prog w = .ok v w := by
  obtain ⟨i0, hi, hz0, hz1, hz2⟩ := info_parts infoAtom
  rcases h.2 with ⟨e, h0⟩ | ⟨g, cap, cur, e, hbg, hg, hnc, _⟩
  · rw [e]
    simp [Builtin.append_, run_underlying Try.underlying39, sizeOf, typeInfo, hi, Builtin.lenOf, Builtin.firstCells]
  · rw [e]
    simp [Builtin.append_, run_underlying Try.underlying39, sizeOf, typeInfo, hi, Builtin.lenOf, Builtin.firstCells, hnc, storeCells]
theorem drop_more (l : List At) (a n : Nat) : (l.drop a).drop n = l.drop (a + n) := by rw [List.drop_drop]
theorem put_step (s : List UInt8) (i : Nat) (h : i < s.length) : (s.take (i + 1)).map ptA = (s.take i).map ptA ++ [((-1 : Int), s[i])] := by
  rw [List.take_succ_eq_append_getElem h, List.map_append]
  rfl
set_option maxHeartbeats 16000000 in
set_option maxRecDepth 100000 in
theorem atomsOf_any (w : World) (p : Option Addr) (c : Nat) (l : List At) (hA : LiesA w p l) (hc : l.length ≤ c) (hm : c ≤ maxLen) (hnil : p = none → c = 0) (q : Option Addr) (d : Nat) (L : List Pt) (hL : LiesQ w q L) (hl : L.length ≤ 1000000) (hg : ∀ x ∈ L, chkP x = 0) (hov : ov (exL L) ≤ l.length) (hmk : mk (exL L) ≤ 100000) (hll : l.length ≤ 100000) :
    Calls Try.prog 32 #[.slice p l.length c, .slice q L.length d] w fun e w' => ∃ v, e = .returned v ∧ OwnA w' w.heap.size v (act ptA (exL L) (l.take (ov (exL L)))) ∧ Below w.heap.size w w' := by
  have HL := hide hL
  have HG := hide hg
  have HOV := hide hov
  have HMK := hide hmk
  have H0 : Hid (LiesA w p (l.drop 0)) := hide (by rw [List.drop_zero]; exact hA)
  have HM := hide hm
  have HN := hide hnil
  clear hL hg hA hov hmk hm hnil
  go_enter Try.func32, Try.ntmps32
  go_wp2_with fail
  go_loopw [0, 5, 11] (fun a v i wr => ∃ (j at' lr c' : Nat) (p' : Option Addr), i = .int .i64 j ∧ j ≤ L.length ∧ a = .slice p' lr c' ∧ Hid (lr + at' = l.length ∧ at' = ov (exL (L.take j)) ∧ LiesA w p' (l.drop at') ∧ c' ≤ maxLen ∧ (p' = none → c' = 0)) ∧ lr ≤ c' ∧ lr ≤ 100000 ∧ (∃ q m k, v = .slice q m k) ∧ Hid (OwnA wr w.heap.size v (act ptA (exL (L.take j)) (l.take at'))) ∧ Below w.heap.size w wr) (fun _ _ i _ => L.length - (intOf i).toNat)
  case atStart => exact ⟨0, 0, l.length, c, p, rfl, Nat.zero_le _, rfl, hide ⟨rfl, rfl, H0.out, HM.out, HN.out⟩, hc, hll, ⟨_, _, _, rfl⟩, hide (World.ownsRow_nil _ _ _ _), Below.refl _ _⟩
  case round =>
    obtain ⟨j, at', lr, c', p', rfl, hj, rfl, HS, hlc, hlr, ⟨vq, vm, vk, rfl⟩, HO, hbw⟩ := hrel
    by_cases hlt : j < L.length
    · obtain ⟨B, o, rfl, hB, hr, h3⟩ := HL.out.at hlt
      obtain ⟨c0, c1, c2⟩ := h3.below hbw hB
      have hx := chkP_ok (HG.out _ (List.getElem_mem hlt))
      have hsz := size_mk (L[j]).2.2
      obtain ⟨han, hle⟩ := act_next hlt HOV.out
      have hov1 : ov (exL (L.take (j + 1))) = ov (exL (L.take j)) + ov (ex L[j]) := by rw [exL_take hlt, ov_app]
      have hmk1 : mk (exL (L.take (j + 1))) ≤ 100000 := by
        have e : exL L = exL (L.take (j + 1)) ++ exL (L.drop (j + 1)) := by rw [← exL_app, List.take_append_drop]
        have := HMK.out
        rw [e, mk_app] at this
        omega
      have hal : (act ptA (exL (L.take (j + 1))) (l.take (ov (exL (L.take (j + 1)))))).length = mk (exL (L.take (j + 1))) := act_len ptA _ _ (by rw [List.length_take]; omega)
      obtain ⟨q1, q2, q3, q4, q5⟩ := HS.out
      rw [← q2] at han hov1 hle
      have hbA : Below w.heap.size w (wr.alloc (.cells #[.int .i64 (L[j]).1, .int .i64 (L[j]).2.1, .string ⟨(L[j]).2.2.toArray⟩] 46)) := hbw.alloc hbw.size _
      have hOA : OwnA (wr.alloc (.cells #[.int .i64 (L[j]).1, .int .i64 (L[j]).2.1, .string ⟨(L[j]).2.2.toArray⟩] 46)) w.heap.size _ _ := own_chg HO.out ((Chg.refl (fun _ => False) wr).alloc _) (fun _ _ h => h)
      have hbl := blk_alloc wr #[.int .i64 (L[j]).1, .int .i64 (L[j]).2.1, .string ⟨(L[j]).2.2.toArray⟩] 46
      clear h3 hr HS HO
      generalize hLj : L[j] = x at *
      obtain ⟨k, n, t⟩ := x
      dsimp only at hx c0 c1 c2 hsz hbA hbl hOA
      generalize hXX : act ptA (exL (L.take j)) (l.take at') = XX at *
      rcases hx with ⟨rfl, n0, n1, s0⟩ | ⟨rfl, n0, n1, s0⟩ | ⟨rfl, rfl, s1⟩
      · obtain ⟨m, rfl⟩ : ∃ m : Nat, n = (m : Int) := ⟨n.toNat, by omega⟩
        rw [ex_keep, Int.toNat_natCast, ov_keeps] at hov1 han hle
        have hkk : act ptA (keepsM m) ((l.drop at').take m) = (l.drop at').take m := by
          have := act_keeps ptA [] m ((l.drop at').take m) (by rw [List.length_take, List.length_drop]; omega)
          rw [List.append_nil] at this
          rw [this]
          show ((l.drop at').take m).take m ++ [] = _
          rw [List.append_nil, List.take_take, Nat.min_self]
        rw [hkk, hov1] at han
        have hlen : XX.length + m ≤ 100000 := by
          have := congrArg List.length han
          rw [← hov1, hal, List.length_append, List.length_take, List.length_drop] at this
          omega
        have HR : Hid (XX ++ (l.drop at').take m = act ptA (exL (L.take (j + 1))) (l.take (at' + m))) := hide han.symm
        have hmr : m ≤ lr := by omega
        have htl : ((l.drop at').take m).length = m := by rw [List.length_take, List.length_drop]; omega
        have HQ : Hid (lr + at' = l.length ∧ at' + m = ov (exL (L.take (j + 1))) ∧ c' ≤ maxLen) := hide ⟨q1, hov1.symm, q4⟩
        have hcm : c' ≤ 9223372036854775807 := by unfold maxLen at q4; omega
        have HB := hide hbA
        have HDR : Hid ((l.drop at').drop m = l.drop (at' + m)) := hide (drop_more l at' m)
        have hdl : (l.drop at').length = lr := by rw [List.length_drop]; omega
        clear hov1 han hkk q1 q2 hal hmk1 hle hLj hXX s0 q4
        generalize (⟨t.toArray⟩ : ByteArray) = T at *
        -- an empty rest
        by_cases hr0 : lr = 0
        · have hm0 : m = 0 := by omega
          subst hr0 hm0
          have HE : Hid (l.drop (at' + 0) = []) := hide (by rw [← HDR.out]; exact List.eq_nil_of_length_eq_zero (by rw [List.drop_zero]; exact hdl))
          have hnil2 : (l.drop at').take 0 = [] := rfl
          have HR2 : Hid (XX = act ptA (exL (L.take (j + 1))) (l.take (at' + 0))) := hide (by rw [← HR.out, hnil2, List.append_nil])
          cases p' with
          | none =>
            have hc0 := q5 rfl
            subst hc0
            have hrun := run_nil_atoms _ 39 w.heap.size _ _ hOA
            have HOA := hide hOA
            have d1 : (wr.alloc (.cells #[.int .i64 1, .int .i64 ((0 : Nat) : Int), .string T] 46)).cell? ⟨wr.heap.size, 1, none⟩ = some (.int .i64 0) := hbl.cell 1 _ rfl
            clear hOA hbl q3 q5 hbA hnil2 htl hdl hsz hlen
            go_wp2_with (at_builtin; refine Lib.wpList_append_run _ rfl _ _ _ _ rfl _ _ rfl rfl _ _ hrun ?_)
            go_roundw
            case rel => exact ⟨j + 1, at' + 0, _, _, _, by go_num, hlt, rfl, hide ⟨by have := HQ.out.1; omega, HQ.out.2.1, fun h => absurd (by rw [HE.out]; rfl) h, Nat.zero_le _, fun _ => rfl⟩, by omega, by omega, ⟨_, _, _, rfl⟩, hide (by rw [← HR2.out]; exact HOA.out), HB.out⟩
            case measure => simp only [intOf]; omega
          | some a =>
            obtain ⟨v', W', hrun, ho, ⟨e1, e2, e3, rfl⟩, hb', hch⟩ := push_atoms _ w.heap.size hbA.size _ _ [] hOA a c' (fun j u h => by simp at h) (by simp; omega) 39
            rw [List.append_nil] at ho
            have kb : Blk W' wr.heap.size #[.int .i64 1, .int .i64 ((0 : Nat) : Int), .string T] 46 := hbl.chg hch (fun e => own_type hOA hbl (by decide) _ e rfl)
            have d1 : W'.cell? ⟨wr.heap.size, 1, none⟩ = some (.int .i64 0) := kb.cell 1 _ rfl
            have hrun : (Builtin.append_ #[39, 39] 39 #[.slice vq vm vk, .slice (some a) 0 c']).run Try.prog (wr.alloc (.cells #[.int .i64 1, .int .i64 0, .string T] 46)) = .ok (.slice e1 e2 e3) W' := hrun
            have hb2 := HB.out.trans hb'
            have HOA := hide ho
            clear ho hb' hch kb
            have HN2 : Hid (∀ q'' : Option Addr, LiesA w q'' (l.drop (at' + 0))) := hide fun q'' h => absurd (by rw [HE.out]; rfl) h
            clear hOA hbl q3 q5 hbA hnil2 htl hdl hsz hlen
            by_cases hc0 : c' = 0
            · subst hc0
              go_wp2_with (at_builtin; refine Lib.wpList_append_run _ rfl _ _ _ _ rfl _ _ rfl rfl _ _ hrun ?_)
              go_roundw
              case rel => exact ⟨j + 1, at' + 0, _, _, _, by go_num, hlt, rfl, hide ⟨by have := HQ.out.1; omega, HQ.out.2.1, HN2.out _, HQ.out.2.2, fun e => by first | rfl | cases e⟩, by omega, by omega, ⟨_, _, _, rfl⟩, hide (by rw [← HR2.out]; exact HOA.out), hb2⟩
              case measure => simp only [intOf]; omega
            · have hc1 : ¬ (c' : Int) = 0 := by omega
              go_wp2_with (at_builtin; refine Lib.wpList_append_run _ rfl _ _ _ _ rfl _ _ rfl rfl _ _ hrun ?_)
              go_roundw
              case rel => exact ⟨j + 1, at' + 0, _, _, _, by go_num, hlt, rfl, hide ⟨by have := HQ.out.1; omega, HQ.out.2.1, HN2.out _, HQ.out.2.2, fun e => by first | rfl | cases e⟩, by omega, by omega, ⟨_, _, _, rfl⟩, hide (by rw [← HR2.out]; exact HOA.out), hb2⟩
              case measure => simp only [intOf]; omega
        · obtain ⟨B2, o2, hpe, hB2, _⟩ := q3 (by rw [hdl]; exact hr0)
          subst hpe
          have q3' : LiesA (wr.alloc (.cells #[.int .i64 1, .int .i64 (m : Int), .string T] 46)) (some ⟨B2, o2, none⟩) (l.drop at') := q3.keep hbA
          obtain ⟨v', W', hrun, ho, ⟨e1, e2, e3, rfl⟩, hb', hch⟩ := push_atoms _ w.heap.size hbA.size _ _ ((l.drop at').take m) hOA ⟨B2, o2, none⟩ c' (q3'.part m).cells (by rw [htl]; omega) 39
          rw [htl] at hrun
          have kb : Blk W' wr.heap.size #[.int .i64 1, .int .i64 (m : Int), .string T] 46 := hbl.chg hch (fun e => own_type hOA hbl (by decide) _ e rfl)
          have d1 : W'.cell? ⟨wr.heap.size, 1, none⟩ = some (.int .i64 (m : Int)) := kb.cell 1 _ rfl
          have hb2 := HB.out.trans hb'
          have HOA := hide ho
          clear ho hb' hch kb q3'
          have HLR : Hid (LiesA w (some ⟨B2, o2 + m * 2, none⟩) (l.drop (at' + m)) ∧ (lr = m → l.drop (at' + m) = [])) := hide ⟨by rw [← HDR.out]; exact q3.rest m, fun e => by rw [← HDR.out]; exact List.eq_nil_of_length_eq_zero (by rw [List.length_drop, hdl]; omega)⟩
          have i1 : (m : Int) ≤ (lr : Int) := by omega
          have i2 : (m : Int) ≤ (c' : Int) := by omega
          have i3 : (lr : Int) ≤ (c' : Int) := by omega
          clear hOA hbl q3 q5 hbA htl hdl hsz hlen
          by_cases hc0 : c' = m
          · have hlm : lr = m := by omega
            have HEM := hide (HLR.out.2 hlm)
            subst hc0
            subst hlm
            go_wp2_with (at_builtin; refine Lib.wpList_append_run _ rfl _ _ _ _ rfl _ _ rfl rfl _ _ hrun ?_)
            go_roundw
            case rel => exact ⟨j + 1, at' + lr, _, _, _, by go_num, hlt, rfl, hide ⟨by have := HQ.out.1; omega, HQ.out.2.1, fun h => absurd (by rw [HEM.out]; rfl) h, by have := HQ.out.2.2; omega, fun e => by first | omega | cases e⟩, by omega, by omega, ⟨_, _, _, rfl⟩, hide (by rw [← HR.out]; exact HOA.out), hb2⟩
            case measure => simp only [intOf]; omega
          · have hc1 : ¬ (c' : Int) - (m : Int) = 0 := by omega
            have hc2 : ¬ c' - m = 0 := by omega
            go_wp2_with (at_builtin; refine Lib.wpList_append_run _ rfl _ _ _ _ rfl _ _ rfl rfl _ _ hrun ?_)
            go_roundw
            case rel => exact ⟨j + 1, at' + m, _, _, _, by go_num, hlt, rfl, hide ⟨by have := HQ.out.1; omega, HQ.out.2.1, HLR.out.1, by have := HQ.out.2.2; omega, fun e => by cases e⟩, by omega, by omega, ⟨_, _, _, rfl⟩, hide (by rw [← HR.out]; exact HOA.out), hb2⟩
            case measure => simp only [intOf]; omega
      · obtain ⟨m, rfl⟩ : ∃ m : Nat, n = (m : Int) := ⟨n.toNat, by omega⟩
        rw [ex_cut, Int.toNat_natCast, ov_cuts] at hov1 han hle
        have hkk : act ptA (cutsM m) ((l.drop at').take m) = [] := mk_zero_act ptA _ _ (mk_cuts _)
        rw [hkk, hov1, List.append_nil] at han
        have HR : Hid (XX = act ptA (exL (L.take (j + 1))) (l.take (at' + m))) := hide han.symm
        have hmr : m ≤ lr := by omega
        have htl : ((l.drop at').take m).length = m := by rw [List.length_take, List.length_drop]; omega
        have HQ : Hid (lr + at' = l.length ∧ at' + m = ov (exL (L.take (j + 1))) ∧ c' ≤ maxLen) := hide ⟨q1, hov1.symm, q4⟩
        have hcm : c' ≤ 9223372036854775807 := by unfold maxLen at q4; omega
        have HB := hide hbA
        have HDR : Hid ((l.drop at').drop m = l.drop (at' + m)) := hide (drop_more l at' m)
        have hdl : (l.drop at').length = lr := by rw [List.length_drop]; omega
        clear hov1 han hkk q1 q2 hal hmk1 hle hLj hXX s0 q4
        generalize (⟨t.toArray⟩ : ByteArray) = T at *
        -- an empty rest
        by_cases hr0 : lr = 0
        · have hm0 : m = 0 := by omega
          subst hr0 hm0
          have HE : Hid (l.drop (at' + 0) = []) := hide (by rw [← HDR.out]; exact List.eq_nil_of_length_eq_zero (by rw [List.drop_zero]; exact hdl))
          have hnil2 : (l.drop at').take 0 = [] := rfl
          have HR2 : Hid (XX = act ptA (exL (L.take (j + 1))) (l.take (at' + 0))) := hide (by rw [← HR.out])
          cases p' with
          | none =>
            have hc0 := q5 rfl
            subst hc0
            have HOA := hide hOA
            have d1 : (wr.alloc (.cells #[.int .i64 2, .int .i64 ((0 : Nat) : Int), .string T] 46)).cell? ⟨wr.heap.size, 1, none⟩ = some (.int .i64 0) := hbl.cell 1 _ rfl
            clear hOA hbl q3 q5 hbA hnil2 htl hdl hsz
            go_wp2
            go_roundw
            case rel => exact ⟨j + 1, at' + 0, _, _, _, by go_num, hlt, rfl, hide ⟨by have := HQ.out.1; omega, HQ.out.2.1, fun h => absurd (by rw [HE.out]; rfl) h, Nat.zero_le _, fun _ => rfl⟩, by omega, by omega, ⟨_, _, _, rfl⟩, hide (by rw [← HR2.out]; exact HOA.out), HB.out⟩
            case measure => simp only [intOf]; omega
          | some a =>
            have HOA := hide hOA
            have hb2 := HB.out
            have HN2 : Hid (∀ q'' : Option Addr, LiesA w q'' (l.drop (at' + 0))) := hide fun q'' h => absurd (by rw [HE.out]; rfl) h
            clear hOA hbl q3 q5 hbA hnil2 htl hdl hsz
            by_cases hc0 : c' = 0
            · subst hc0
              go_wp2
              go_roundw
              case rel => exact ⟨j + 1, at' + 0, _, _, _, by go_num, hlt, rfl, hide ⟨by have := HQ.out.1; omega, HQ.out.2.1, HN2.out _, HQ.out.2.2, fun e => by first | rfl | cases e⟩, by omega, by omega, ⟨_, _, _, rfl⟩, hide (by rw [← HR2.out]; exact HOA.out), hb2⟩
              case measure => simp only [intOf]; omega
            · have hc1 : ¬ (c' : Int) = 0 := by omega
              go_wp2
              go_roundw
              case rel => exact ⟨j + 1, at' + 0, _, _, _, by go_num, hlt, rfl, hide ⟨by have := HQ.out.1; omega, HQ.out.2.1, HN2.out _, HQ.out.2.2, fun e => by first | rfl | cases e⟩, by omega, by omega, ⟨_, _, _, rfl⟩, hide (by rw [← HR2.out]; exact HOA.out), hb2⟩
              case measure => simp only [intOf]; omega
        · obtain ⟨B2, o2, hpe, hB2, _⟩ := q3 (by rw [hdl]; exact hr0)
          subst hpe
          have HOA := hide hOA
          have hb2 := HB.out
          have HLR : Hid (LiesA w (some ⟨B2, o2 + m * 2, none⟩) (l.drop (at' + m)) ∧ (lr = m → l.drop (at' + m) = [])) := hide ⟨by rw [← HDR.out]; exact q3.rest m, fun e => by rw [← HDR.out]; exact List.eq_nil_of_length_eq_zero (by rw [List.length_drop, hdl]; omega)⟩
          have i1 : (m : Int) ≤ (lr : Int) := by omega
          have i2 : (m : Int) ≤ (c' : Int) := by omega
          have i3 : (lr : Int) ≤ (c' : Int) := by omega
          clear hOA hbl q3 q5 hbA htl hdl hsz
          by_cases hc0 : c' = m
          · have hlm : lr = m := by omega
            have HEM := hide (HLR.out.2 hlm)
            subst hc0
            subst hlm
            go_wp2
            go_roundw
            case rel => exact ⟨j + 1, at' + lr, _, _, _, by go_num, hlt, rfl, hide ⟨by have := HQ.out.1; omega, HQ.out.2.1, fun h => absurd (by rw [HEM.out]; rfl) h, by have := HQ.out.2.2; omega, fun e => by first | omega | cases e⟩, by omega, by omega, ⟨_, _, _, rfl⟩, hide (by rw [← HR.out]; exact HOA.out), hb2⟩
            case measure => simp only [intOf]; omega
          · have hc1 : ¬ (c' : Int) - (m : Int) = 0 := by omega
            have hc2 : ¬ c' - m = 0 := by omega
            go_wp2
            go_roundw
            case rel => exact ⟨j + 1, at' + m, _, _, _, by go_num, hlt, rfl, hide ⟨by have := HQ.out.1; omega, HQ.out.2.1, HLR.out.1, by have := HQ.out.2.2; omega, fun e => by cases e⟩, by omega, by omega, ⟨_, _, _, rfl⟩, hide (by rw [← HR.out]; exact HOA.out), hb2⟩
            case measure => simp only [intOf]; omega
      · rw [ex_put, ov_puts] at hov1 han
        have hkk : act ptA (putsM t) ((l.drop at').take 0) = t.map ptA := by
          have := act_puts ptA [] ((l.drop at').take 0) t
          rw [List.append_nil] at this
          rw [this]
          show t.map ptA ++ [] = _
          rw [List.append_nil]
        rw [hkk, hov1, Nat.add_zero] at han
        have hlen : XX.length + t.length ≤ 100000 := by
          have := congrArg List.length han
          rw [List.length_append, List.length_map] at this
          rw [hov1, Nat.add_zero] at hal
          omega
        have HF : Hid (lr + at' = l.length ∧ at' = ov (exL (L.take (j + 1))) ∧ LiesA w p' (l.drop at') ∧ c' ≤ maxLen ∧ (p' = none → c' = 0)) := hide ⟨q1, hov1.symm, q3, q4, q5⟩
        have HR : Hid (XX ++ t.map ptA = act ptA (exL (L.take (j + 1))) (l.take at')) := hide han.symm
        have HB := hide hbA
        have HBL := hide hbl
        have HOA := hide hOA
        have HSL : Hid ((⟨t.toArray⟩ : ByteArray).data.toList = t) := hide rfl
        clear hov1 han hkk q1 q2 q3 q4 q5 hal hmk1 hle hbA hOA hbl hLj hXX s1
        rw [← hsz] at hlen
        have HSZ := hide hsz
        clear hsz
        generalize (⟨t.toArray⟩ : ByteArray) = T at *
        go_wp2_with fail
        generalize hW1 : wr.alloc (.cells #[.int .i64 3, .int .i64 0, .string T] 46) = w1 at *
        generalize hbp : wr.heap.size = bp at *
        have hbpw : Hid (w.heap.size ≤ bp) := hide (by have := hbw.size; omega)
        clear hbw
        go_loopw [5, 8] (fun v i wq => ∃ i' : Nat, i = .int .i64 i' ∧ i' ≤ T.size ∧ (∃ q m k, v = .slice q m k) ∧ Hid (OwnA wq w.heap.size v (XX ++ (t.take i').map ptA)) ∧ Hid (Blk wq bp #[.int .i64 3, .int .i64 0, .string T] 46 ∧ Below w.heap.size w wq)) (fun _ i _ => T.size - (intOf i).toNat)
        case atStart => exact ⟨0, rfl, Nat.zero_le _, ⟨_, _, _, rfl⟩, hide (by show OwnA _ _ _ (XX ++ []); rw [List.append_nil]; exact HOA.out), hide ⟨HBL.out, HB.out⟩⟩
        case round =>
          obtain ⟨i', rfl, hi', ⟨wq1, wq2, wq3, rfl⟩, HO, HX⟩ := hrel
          have d2 : wr.cell? ⟨bp, 2, none⟩ = some (.string T) := HX.out.1.cell 2 _ rfl
          by_cases hil : i' < T.size
          · have hit : i' < t.length := by rw [← HSZ.out]; exact hil
            have hbyte : T[i'] = t[i'] := by
              have := HSL.out
              subst this
              rfl
            obtain ⟨v', W', hrun, ho, ⟨e1, e2, e3, rfl⟩, hb', hch⟩ := push_atom wr w.heap.size HX.out.2.size _ _ ((-1 : Int), t[i']) HO.out (by rw [List.length_append, List.length_map, List.length_take]; omega) 39
            rw [← hbyte] at hrun
            have hrun2 : (Builtin.append_ #[39, 39] 39 #[.slice wq1 wq2 wq3, .slice (some ⟨wr.heap.size, 0, none⟩) 1 1]).run Try.prog (wr.alloc (.cells #[.int .i64 (-1), .int .u8 (T[i'].toNat : Int)] 41)) = .ok (.slice e1 e2 e3) W' := hrun
            have HO2 : Hid (OwnA W' w.heap.size (.slice e1 e2 e3) (XX ++ (t.take (i' + 1)).map ptA)) := hide (by rw [put_step t i' hit, ← List.append_assoc]; exact ho)
            have HX2 : Hid (Blk W' bp #[.int .i64 3, .int .i64 0, .string T] 46 ∧ Below w.heap.size w W') := hide ⟨HX.out.1.chg hch (fun e => own_type HO.out HX.out.1 (by decide) bp e rfl), HX.out.2.trans hb'⟩
            have i1 : (i' : Int) < (T.size : Int) := by omega
            have i2 : (0 : Int) ≤ (i' : Int) := by omega
            clear hrun ho hb' hch HO HX hbyte hit
            go_wp2_with (at_builtin; refine Lib.wpList_append_run _ rfl _ _ _ _ rfl _ _ rfl rfl _ _ hrun2 ?_)
            go_roundw
            case rel => exact ⟨i' + 1, by go_num, hil, ⟨_, _, _, rfl⟩, HO2, HX2⟩
            case measure => simp only [intOf]; omega
          · have hie : i' = T.size := by omega
            have HO2 : Hid (OwnA wr w.heap.size (.slice wq1 wq2 wq3) (act ptA (exL (L.take (j + 1))) (l.take at'))) := hide (by rw [← HR.out]; have := HO.out; rw [hie, HSZ.out, List.take_length] at this; exact this)
            have i1 : ¬ (i' : Int) < (T.size : Int) := by omega
            have hb2 := HX.out.2
            clear HO HX hie
            go_wp2
            go_roundw
            case rel => exact ⟨j + 1, at', lr, c', p', by go_num, hlt, rfl, HF, hlc, hlr, ⟨_, _, _, rfl⟩, HO2, hb2⟩
            case measure => simp only [intOf]; omega
    · have hjl : j = L.length := by omega
      have HF : Hid (OwnA wr w.heap.size (.slice vq vm vk) (act ptA (exL L) (l.take (ov (exL L))))) := hide (by have h := HO.out; have h2 := HS.out.2.1; rw [h2, hjl, List.take_length] at h; exact h)
      have i1 : ¬ (j : Int) < (L.length : Int) := by omega
      clear HS HO hjl
      go_wp2
      go_ret
      exact ⟨_, rfl, HF.out, hbw⟩
end Go.Proofs.Yteajpkoghlbneaa.spls
