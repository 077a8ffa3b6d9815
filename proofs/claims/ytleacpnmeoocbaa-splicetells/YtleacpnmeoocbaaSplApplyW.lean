/- The walks of package splice: Apply. -/
import Derived.Test.YtleacpnmeoocbaaSplNormW
import Derived.Test.YtleacpnmeoocbaaShelf
import Derived.Lib.FrozenHead2
import Derived.Lib.OthersKept
set_option linter.unusedVariables false
namespace Go.Proofs.Ytleacpnmeoocbaa.spls
open Go.RowKit

/-- A builder that holds these bytes. -/
def Bld (B b : Nat) (l : List UInt8) (w : World) : Prop := Lib.IsBuilderF 58 5 B b (Lib.byteCells l) w
def Kept (b : Nat) (w w' : World) : Prop := Lib.OthersKept 5 (some b) w w'
theorem Bld.below {B b : Nat} {l : List UInt8} {w w' : World} (h : Bld B b l w) (hb : Below w.heap.size w w') : Bld B b l w' := by
  have at_ : ∀ p, Lib.BuilderAtF 58 5 B b p (Lib.byteCells l) w → Lib.BuilderAtF 58 5 B b p (Lib.byteCells l) w' := fun p h => by
    have hlt := h.lt
    obtain ⟨hB, v, hv, hown, hne⟩ := h
    exact ⟨hB, v, (hb.block b hlt).trans hv, hown.kept (row := none) ⟨hb.os, hb.tape, hb.output, hb.size, fun k hk _ => hb.block k hk⟩ (Classical.em _), hne⟩
  exact h.elim (fun x => .inl (at_ _ x)) (fun x => .inr (at_ _ x))
theorem Bld.lt {B b : Nat} {l : List UInt8} {w : World} (h : Bld B b l w) : b < w.heap.size := h.elim (·.lt) (·.lt)
theorem str_b (B b : Nat) (l m : List UInt8) (w : World) (h : Bld B b l w) (hl : l.length + m.length ≤ 140737488355328) (hB : B ≤ w.heap.size) :
    Calls Try.prog 30 #[.pointer (some ⟨b, 0, none⟩), .string ⟨m.toArray⟩] w fun e w' => (∃ n : Int, e = .returned (.tuple #[.int .i64 n, .nilIface])) ∧ Bld B b (l ++ m) w' ∧ Below B w w' ∧ Kept b w w' := by
  refine (Try.Builder_WriteString_k B b (Lib.byteCells l) ⟨m.toArray⟩ w h (by rw [Lib.byteCells_length]; exact hl) hB).mono ?_
  rintro e w' ⟨rfl, h1, h2, h3⟩
  refine ⟨⟨_, rfl⟩, ?_, h2, h3⟩
  unfold Bld
  rw [Lib.byteCells_append]
  exact .inr h1
theorem text_b (B b : Nat) (l : List UInt8) (w : World) (h : Bld B b l w) (hB : B ≤ w.heap.size) :
    Calls Try.prog 31 #[.pointer (some ⟨b, 0, none⟩)] w fun e w' => e = .returned (.string ⟨l.toArray⟩) ∧ Below B w w' := by
  refine (Try.Builder_String_any_k B b l w h hB).mono ?_
  rintro e w' ⟨rfl, _, h2, _⟩
  exact ⟨rfl, h2⟩
theorem Kept.blk {b k : Nat} {w w' : World} {cs : Array Value} (h : Kept b w w') (hb : Blk w k cs 45) (hne : k ≠ b) : Blk w' k cs 45 := by
  refine h k _ hb ?_ ?_
  · first | exact fun e => hne (by injection e) | exact fun e => hne e
  · simp
/-- What Apply makes. -/
def appT (s : List UInt8) (L : List Pt) : List UInt8 := if chkO s L = 0 then act id (exL L) s else []
theorem act_split : ∀ (x y : List M) (s : List UInt8), ov x ≤ s.length → act id (x ++ y) s = act id x (s.take (ov x)) ++ act id y (s.drop (ov x))
  | [], y, s, h => by simp [act, ov]
  | none :: x, y, [], h => by simp [ov] at h
  | none :: x, y, a :: s, h => by
    show a :: act id (x ++ y) s = _
    rw [act_split x y s (by simpa [ov] using h)]
    rfl
  | some none :: x, y, [], h => by simp [ov] at h
  | some none :: x, y, a :: s, h => by
    show act id (x ++ y) s = _
    rw [act_split x y s (by simpa [ov] using h)]
    rfl
  | some (some b) :: x, y, s, h => by
    show b :: act id (x ++ y) s = _
    rw [act_split x y s h]
    rfl
/-- One part more: the text ahead grows so. -/
theorem act_part {s : List UInt8} {L : List Pt} {j : Nat} (h : j < L.length) (hs : s.length = ov (exL L)) :
    act id (exL (L.take (j + 1))) (s.take (ov (exL (L.take (j + 1))))) = act id (exL (L.take j)) (s.take (ov (exL (L.take j)))) ++ act id (ex L[j]) ((s.drop (ov (exL (L.take j)))).take (ov (ex L[j]))) := by
  rw [exL_take h, ov_app]
  have hle : ov (exL (L.take j)) + ov (ex L[j]) ≤ s.length := by
    have e : exL L = exL (L.take (j + 1)) ++ exL (L.drop (j + 1)) := by rw [← exL_app, List.take_append_drop]
    rw [hs, e, exL_take h, ov_app, ov_app]
    omega
  rw [act_split _ _ _ (by rw [List.length_take]; omega)]
  congr 2
  · rw [List.take_take, Nat.min_eq_left (by omega)]
  · rw [List.drop_take, Nat.add_sub_cancel_left]
theorem pre_ov {L : List Pt} (j : Nat) : ov (exL (L.take j)) ≤ ov (exL L) ∧ mk (exL (L.take j)) ≤ mk (exL L) := by
  have e : exL L = exL (L.take j) ++ exL (L.drop j) := by rw [← exL_app, List.take_append_drop]
  rw [e, ov_app, mk_app]
  omega
set_option maxHeartbeats 8000000 in
set_option maxRecDepth 100000 in
theorem apply_any (w : World) (s : ByteArray) (p : Option Addr) (c : Nat) (L : List Pt) (hL : LiesQ w p L) (hl : L.length ≤ 9223372036854775807) :
    Calls Try.prog 12 #[.string s, .slice p L.length c] w fun e w' => e = .returned (.tuple #[.string ⟨(appT s.data.toList L).toArray⟩, .int .i64 (chkO s.data.toList L)]) ∧ Below w.heap.size w w' := by
  have KC := hide (checkOver_any w s p c L hL hl)
  by_cases hz : chkO s.data.toList L = 0
  · obtain ⟨hz1, hz2⟩ := chkO_ok hz
    obtain ⟨g1, g2, g3, g4⟩ := chk_ok hz1
    have hsl := len_list s
    have HN : Hid (appT s.data.toList L = act id (exL L) s.data.toList) := hide (by unfold appT; rw [if_pos hz])
    have HG := hide g2
    have HO := hide (And.intro hz2 g4)
    have hs20 : s.size ≤ 20000 := by omega
    have HL := hide hL
    rw [hz] at KC
    rw [hz]
    clear hL g2 g3 g4 hz hz1 hz2
    go_enter Try.func12, Try.ntmps12
    go_wp2_with fail
    refine (unhide KC).mono ?_
    rintro e w1 ⟨rfl, hb1⟩
    have hs1 := hb1.size
    have I0 : Hid (Bld w1.heap.size w1.heap.size [] (w1.alloc (.cells #[.pointer none, .slice none 0 0] 58))) := hide (Lib.IsBuilderF.of (Lib.fresh_isBuilder 58 5 w1))
    have HA : Hid (Below w.heap.size w (w1.alloc (.cells #[.pointer none, .slice none 0 0] 58))) := hide (hb1.alloc hs1 _)
    have hRlt : w1.heap.size < (w1.alloc (.cells #[.pointer none, .slice none 0 0] 58)).heap.size := by simp
    generalize hR : w1.heap.size = R at *
    clear KC hb1
    go_wp2_with fail
    generalize w1.alloc (.cells #[.pointer none, .slice none 0 0] 58) = wa at *
    have hwa : R ≤ wa.heap.size := by omega
    go_loopw [8, 19] (fun a i wr => ∃ (j at' : Nat) (l : List UInt8), i = .int .i64 j ∧ j ≤ L.length ∧ a = .int .i64 (at' : Int) ∧ Hid (at' = ov (exL (L.take j)) ∧ l = act id (exL (L.take j)) (s.data.toList.take (ov (exL (L.take j))))) ∧ at' ≤ 20000 ∧ l.length ≤ 20000 ∧ Hid (Bld R R l wr) ∧ R < wr.heap.size ∧ Below w.heap.size w wr) (fun _ i _ => L.length - (intOf i).toNat)
    case atStart => exact ⟨0, 0, [], rfl, Nat.zero_le _, rfl, hide ⟨rfl, rfl⟩, by decide, by simp, I0, hRlt, HA.out⟩
    case round =>
      obtain ⟨j, at', l, rfl, hj, rfl, HS, ha2, hl2, HI, hRw, hbw⟩ := hrel
      by_cases hlt : j < L.length
      · obtain ⟨B, o, rfl, hB, hr, h3⟩ := HL.out.at hlt
        obtain ⟨c0, c1, c2⟩ := h3.below hbw hB
        have hx := chkP_ok (HG.out _ (List.getElem_mem hlt))
        have hsz := size_mk (L[j]).2.2
        have hap := act_part hlt HO.out.1
        have hpo := pre_ov (L := L) (j + 1)
        have hal : (act id (exL (L.take (j + 1))) (s.data.toList.take (ov (exL (L.take (j + 1)))))).length = mk (exL (L.take (j + 1))) := act_len id _ _ (by rw [List.length_take, HO.out.1]; omega)
        have hov1 : ov (exL (L.take (j + 1))) = ov (exL (L.take j)) + ov (ex L[j]) := by rw [exL_take hlt, ov_app]
        have hmk1 : mk (exL (L.take (j + 1))) ≤ 20000 := Nat.le_trans hpo.2 HO.out.2
        have hovl : ov (exL (L.take (j + 1))) ≤ s.size := by have := HO.out.1; omega
        obtain ⟨ha, hll⟩ := HS.out
        have hbA : Below w.heap.size w (wr.alloc (.cells #[.int .i64 (L[j]).1, .int .i64 (L[j]).2.1, .string ⟨(L[j]).2.2.toArray⟩] 45)) := hbw.alloc hbw.size _
        have hbl := blk_alloc wr #[.int .i64 (L[j]).1, .int .i64 (L[j]).2.1, .string ⟨(L[j]).2.2.toArray⟩] 45
        have hId := HI.out.below ((Below.refl _ wr).alloc (Nat.le_refl _) (.cells #[.int .i64 (L[j]).1, .int .i64 (L[j]).2.1, .string ⟨(L[j]).2.2.toArray⟩] 45))
        have hsa : R ≤ (wr.alloc (.cells #[.int .i64 (L[j]).1, .int .i64 (L[j]).2.1, .string ⟨(L[j]).2.2.toArray⟩] 45)).heap.size := by simp; omega
        clear h3 hr hpo HS HI
        rw [← hll, ← ha] at hap
        rw [← ha] at hov1
        generalize hLj : L[j] = q at *
        obtain ⟨k, n, t⟩ := q
        dsimp only at hx c0 c1 c2 hsz hbA hbl hId hsa
        rcases hx with ⟨rfl, n0, n1, s0⟩ | ⟨rfl, n0, n1, s0⟩ | ⟨rfl, rfl, s1⟩
        · rw [ex_keep, ov_keeps] at hov1 hap
          have hext : (s.extract at' (at' + n.toNat)).data.toList = (s.data.toList.drop at').take n.toNat := by rw [ext_list, List.drop_take, Nat.add_sub_cancel_left]
          have hkk : act id (keepsM n.toNat) ((s.data.toList.drop at').take n.toNat) = (s.extract at' (at' + n.toNat)).data.toList := by
            have := act_keeps (α := UInt8) id [] n.toNat ((s.data.toList.drop at').take n.toNat) (by rw [List.length_take, List.length_drop]; omega)
            rw [List.append_nil] at this
            rw [this, hext]
            show List.take n.toNat _ ++ [] = _
            rw [List.append_nil, List.take_take, Nat.min_self]
          rw [hkk] at hap
          have hal2 : l.length + (s.extract at' (at' + n.toNat)).data.toList.length ≤ 20000 := by rw [← List.length_append, ← hap, hal]; exact hmk1
          have KW := hide (str_b R R l (s.extract at' (at' + n.toNat)).data.toList _ hId (by omega) hsa)
          rw [mk_list] at KW
          have HE : Hid (at' + n.toNat = ov (exL (L.take (j + 1))) ∧ l ++ (s.extract at' (at' + n.toNat)).data.toList = act id (exL (L.take (j + 1))) (s.data.toList.take (ov (exL (L.take (j + 1)))))) := hide ⟨hov1.symm, hap.symm⟩
          have hbd : at' + n.toNat ≤ s.size := by omega
          have hl3 : (l ++ (s.extract at' (at' + n.toNat)).data.toList).length ≤ 20000 := by rw [List.length_append]; exact hal2
          have en : (n : Int) = (n.toNat : Int) := by omega
          have HB := hide hbA
          have HL2 := hide hbl
          clear hap hkk hext hll ha hov1 hovl hmk1 hal hId hsz s0 hbA hbl hLj hal2
          generalize hnn : n.toNat = m at *
          subst en
          generalize hE2 : s.extract at' (at' + m) = T at *
          have hsl2 : (s.extract ((at' : Int)).toNat ((at' : Int) + (m : Int)).toNat) = T := by rw [show ((at' : Int)).toNat = at' from by omega, show ((at' : Int) + (m : Int)).toNat = at' + m from by omega]; exact hE2
          have i1 : (at' : Int) + (m : Int) ≤ (s.size : Int) := by omega
          have i2 : (0 : Int) ≤ (at' : Int) := by omega
          have i3 : (at' : Int) ≤ (at' : Int) + (m : Int) := by omega
          go_wp2_with fail
          refine (unhide KW).mono ?_
          rintro e w2 ⟨⟨nn, rfl⟩, i5, b5, o5⟩
          have hb2 := HB.out.trans (b5.mono hs1)
          have hbk := Kept.blk o5 HL2.out (by omega)
          have d1 : w2.cell? ⟨wr.heap.size, 1, none⟩ = some (.int .i64 (m : Int)) := hbk.cell 1 _ rfl
          have hRw2 : R < w2.heap.size := by have := b5.size; simp at this; omega
          have HI2 := hide i5
          clear i5 b5 o5 hbk KW HB HL2 c0 c1 c2
          go_wp2
          go_roundw
          case rel => exact ⟨j + 1, at' + m, _, by go_num, hlt, by first | rfl | (congr 1; omega), HE, by omega, hl3, HI2, hRw2, hb2⟩
          case measure => simp only [intOf]; omega
        · rw [ex_cut, ov_cuts] at hov1 hap
          have hkk : act id (cutsM n.toNat) ((s.data.toList.drop at').take n.toNat) = [] := mk_zero_act id _ _ (mk_cuts _)
          rw [hkk, List.append_nil] at hap
          have HE : Hid (at' + n.toNat = ov (exL (L.take (j + 1))) ∧ l = act id (exL (L.take (j + 1))) (s.data.toList.take (ov (exL (L.take (j + 1)))))) := hide ⟨hov1.symm, hap.symm⟩
          have hbd : at' + n.toNat ≤ s.size := by omega
          have en : (n : Int) = (n.toNat : Int) := by omega
          have HI2 := hide hId
          have hRw2 : R < (wr.alloc (.cells #[.int .i64 2, .int .i64 n, .string ⟨t.toArray⟩] 45)).heap.size := by simp; omega
          have HB := hide hbA
          clear hap hkk hll ha hov1 hovl hmk1 hal hId hsz s0 hbA hbl hLj
          generalize hnn : n.toNat = m at *
          subst en
          go_wp2
          go_roundw
          case rel => exact ⟨j + 1, at' + m, _, by go_num, hlt, by first | rfl | (congr 1; omega), HE, by omega, hl2, HI2, hRw2, HB.out⟩
          case measure => simp only [intOf]; omega
        · rw [ex_put, ov_puts] at hov1 hap
          have hkk : act id (putsM t) ((s.data.toList.drop at').take 0) = t := by
            have := act_puts (α := UInt8) id [] ((s.data.toList.drop at').take 0) t
            rw [List.append_nil] at this
            rw [this]
            show t.map id ++ [] = t
            rw [List.append_nil, List.map_id]
          rw [hkk] at hap
          have hl3 : (l ++ t).length ≤ 20000 := by rw [← hap, hal]; exact hmk1
          have KW := hide (str_b R R l t _ hId (by rw [List.length_append] at hl3; omega) hsa)
          have HE : Hid (at' = ov (exL (L.take (j + 1))) ∧ l ++ t = act id (exL (L.take (j + 1))) (s.data.toList.take (ov (exL (L.take (j + 1)))))) := hide ⟨hov1.symm, hap.symm⟩
          have HB := hide hbA
          have HL2 := hide hbl
          clear hap hkk hll ha hov1 hovl hmk1 hal hId hsz hbA hbl hLj s1
          generalize (⟨t.toArray⟩ : ByteArray) = T at *
          go_wp2_with fail
          refine (unhide KW).mono ?_
          rintro e w2 ⟨⟨nn, rfl⟩, i5, b5, o5⟩
          have hb2 := HB.out.trans (b5.mono hs1)
          have hbk := Kept.blk o5 HL2.out (by omega)
          have d1 : w2.cell? ⟨wr.heap.size, 1, none⟩ = some (.int .i64 0) := hbk.cell 1 _ rfl
          have hRw2 : R < w2.heap.size := by have := b5.size; simp at this; omega
          have HI2 := hide i5
          clear i5 b5 o5 hbk KW HB HL2 c0 c1 c2
          go_wp2
          go_roundw
          case rel => exact ⟨j + 1, at', _, by go_num, hlt, rfl, HE, by omega, hl3, HI2, hRw2, hb2⟩
          case measure => simp only [intOf]; omega
      · have hjl : j = L.length := by omega
        obtain ⟨ha, hll⟩ := HS.out
        have hfin : l = act id (exL L) s.data.toList := by
          rw [hll, hjl, List.take_length, ← HO.out.1, List.take_length]
        have HF : Hid (l = appT s.data.toList L) := hide (by rw [HN.out, hfin])
        have KT := hide (text_b R R l wr HI.out (by omega))
        have i1 : ¬ (j : Int) < (L.length : Int) := by omega
        clear hjl ha hll hfin HS HI
        go_wp2_with fail
        refine (unhide KT).mono ?_
        rintro e w2 ⟨rfl, b5⟩
        have hb2 := hbw.trans (b5.mono hs1)
        clear KT b5 hbw
        go_wp2
        go_ret2
        exact ⟨by rw [HF.out]; rfl, hb2⟩
  · have HN : Hid (appT s.data.toList L = []) := hide (by unfold appT; rw [if_neg hz])
    have hz2 : (chkO s.data.toList L == 0) = false := beq_false_of_ne hz
    have hz3 : (chkO s.data.toList L != 0) = true := by simp [hz]
    clear hL
    generalize chkO s.data.toList L = er at *
    go_enter Try.func12, Try.ntmps12
    go_wp2_with fail
    refine (unhide KC).mono ?_
    rintro e w1 ⟨rfl, hb1⟩
    clear KC
    go_wp2
    go_ret2
    exact ⟨by rw [HN.out]; rfl, hb1⟩
end Go.Proofs.Ytleacpnmeoocbaa.spls
