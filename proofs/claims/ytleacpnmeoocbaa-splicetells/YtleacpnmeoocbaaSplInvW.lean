/- The walks of package splice: Invert. -/
import Derived.Test.YtleacpnmeoocbaaSplApplyW
set_option linter.unusedVariables false
namespace Go.Proofs.Ytleacpnmeoocbaa.spls
open Go.RowKit

theorem inv_app : ∀ (x y : List M) (s : List UInt8), inv (x ++ y) s = inv x s ++ inv y (s.drop (ov x))
  | [], y, s => rfl
  | none :: x, y, s => by show none :: inv (x ++ y) s.tail = _; rw [inv_app x y, List.drop_tail]; rfl
  | some none :: x, y, s => by show some (some (s.headD 0)) :: inv (x ++ y) s.tail = _; rw [inv_app x y, List.drop_tail]; rfl
  | some (some b) :: x, y, s => by show some none :: inv (x ++ y) s = _; rw [inv_app x y]; rfl
theorem inv_keeps : ∀ (n : Nat) (s : List UInt8), inv (keepsM n) s = keepsM n
  | 0, s => rfl
  | n + 1, s => by rw [keepsM_succ]; show none :: inv (keepsM n) s.tail = _; rw [inv_keeps n]
theorem inv_cut : ∀ (n : Nat) (s : List UInt8), n ≤ s.length → inv (cutsM n) s = putsM (s.take n)
  | 0, s, h => by simp [putsM]; rfl
  | n + 1, [], h => by simp at h
  | n + 1, a :: s, h => by rw [cutsM_succ]; show some (some a) :: inv (cutsM n) s = _; rw [inv_cut n s (by simpa using h)]; rfl
theorem inv_put (p s : List UInt8) : inv (putsM p) s = cutsM p.length := by
  have := inv_puts [] s p
  rw [List.append_nil] at this
  rw [this]
  show cutsM p.length ++ [] = _
  rw [List.append_nil]
/-- What Invert makes. -/
def invC (s : List UInt8) (L : List Pt) : List Pt := if chkO s L = 0 then nf (inv (exL L) s) else []
theorem inv_fits (s : List UInt8) (L : List Pt) (j : Nat) (h1 : ov (exL L) ≤ 20000) (h2 : mk (exL L) ≤ 20000) : Fits (wrun w0 (inv (exL (L.take j)) s)) 40000 := by
  have := pre_ov (L := L) j
  exact st_fits _ _ (by rw [ov_inv]; omega) (by rw [mk_inv]; omega)
theorem inv_take {s : List UInt8} {L : List Pt} {j : Nat} (h : j < L.length) : inv (exL (L.take (j + 1))) s = inv (exL (L.take j)) s ++ inv (ex L[j]) (s.drop (ov (exL (L.take j)))) := by
  rw [exL_take h, inv_app]
set_option maxHeartbeats 8000000 in
set_option maxRecDepth 100000 in
theorem invert_any (w : World) (s : ByteArray) (p : Option Addr) (c : Nat) (L : List Pt) (hL : LiesQ w p L) (hl : L.length ≤ 9223372036854775807) :
    Calls Try.prog 13 #[.string s, .slice p L.length c] w fun e w' => ∃ v, e = .returned (.tuple #[v, .int .i64 (chkO s.data.toList L)]) ∧ OwnP w' w.heap.size v (invC s.data.toList L) ∧ Below w.heap.size w w' := by
  have KC := hide (checkOver_any w s p c L hL hl)
  by_cases hz : chkO s.data.toList L = 0
  · obtain ⟨hz1, hz2⟩ := chkO_ok hz
    obtain ⟨g1, g2, g3, g4⟩ := chk_ok hz1
    have hsl := len_list s
    have HN : Hid (invC s.data.toList L = stl (wrun w0 (inv (exL L) s.data.toList))) := hide (by unfold invC; rw [if_pos hz]; rfl)
    have HG := hide g2
    have HO := hide (And.intro hz2 (And.intro g3 g4))
    have hs20 : s.size ≤ 20000 := by omega
    have HL := hide hL
    rw [hz] at KC
    rw [hz]
    clear hL g2 g3 g4 hz hz1 hz2
    go_enter Try.func13, Try.ntmps13
    go_wp2_with fail
    refine (unhide KC).mono ?_
    rintro e w1 ⟨rfl, hb1⟩
    have hs1 := hb1.size
    have hw1 := wr_new w1
    have hA : Below w.heap.size w (w1.alloc (.cells #[.slice none 0 0, .slice none 0 0, .int .i64 0] 50)) := hb1.alloc hs1 _
    generalize hR : w1.heap.size = R at *
    have HA := hide hA
    have HW := hide hw1
    have hR2 : w.heap.size ≤ R := hs1
    have hRlt : R < (w1.alloc (.cells #[.slice none 0 0, .slice none 0 0, .int .i64 0] 50)).heap.size := by simp; omega
    clear hA hw1 KC
    go_wp2_with fail
    generalize w1.alloc (.cells #[.slice none 0 0, .slice none 0 0, .int .i64 0] 50) = wa at *
    clear hb1 hR hs1
    go_loopw [8, 19] (fun a i wr => ∃ (j at' : Nat) (X : Nat → Prop), i = .int .i64 j ∧ j ≤ L.length ∧ a = .int .i64 (at' : Int) ∧ Hid (at' = ov (exL (L.take j))) ∧ at' ≤ 20000 ∧ Hid (Wr X R (wrun w0 (inv (exL (L.take j)) s.data.toList)) wr ∧ (∀ b, X b → w.heap.size ≤ b ∧ b < wr.heap.size)) ∧ Below w.heap.size w wr) (fun _ i _ => L.length - (intOf i).toNat)
    case atStart => exact ⟨0, 0, _, rfl, Nat.zero_le _, rfl, hide rfl, by decide, hide ⟨HW.out, fun b hb => by have hb : b = R := hb; omega⟩, HA.out⟩
    case round =>
      obtain ⟨j, at', X, rfl, hj, rfl, HS, ha2, HX, hbw⟩ := hrel
      by_cases hlt : j < L.length
      · obtain ⟨B, o, rfl, hB, hr, h3⟩ := HL.out.at hlt
        obtain ⟨c0, c1, c2⟩ := h3.below hbw hB
        have hx := chkP_ok (HG.out _ (List.getElem_mem hlt))
        have hsz := size_mk (L[j]).2.2
        have hpo := pre_ov (L := L) (j + 1)
        have hov1 : ov (exL (L.take (j + 1))) = ov (exL (L.take j)) + ov (ex L[j]) := by rw [exL_take hlt, ov_app]
        have hovl : ov (exL (L.take (j + 1))) ≤ s.size := by have := HO.out.1; omega
        have hF := inv_fits s.data.toList L j HO.out.2.1 HO.out.2.2
        have hit := inv_take (s := s.data.toList) hlt
        have hWr := HX.out.1.alloc (.cells #[.int .i64 (L[j]).1, .int .i64 (L[j]).2.1, .string ⟨(L[j]).2.2.toArray⟩] 45)
        have hbA : Below w.heap.size w (wr.alloc (.cells #[.int .i64 (L[j]).1, .int .i64 (L[j]).2.1, .string ⟨(L[j]).2.2.toArray⟩] 45)) := hbw.alloc hbw.size _
        have hbl := blk_alloc wr #[.int .i64 (L[j]).1, .int .i64 (L[j]).2.1, .string ⟨(L[j]).2.2.toArray⟩] 45
        rw [← HS.out] at hov1 hit
        have HXb := hide HX.out.2
        clear h3 hr hpo HS HX
        generalize hLj : L[j] = q at *
        obtain ⟨k, n, t⟩ := q
        dsimp only at hx c0 c1 c2 hsz hbA hbl hWr
        -- behind the call
        have fin : ∀ (W : World) (S' : WS) (w2 : World), W.heap.size = wr.heap.size + 1 → Below w.heap.size w W → WrTo X R S' W w2 → Wr (wid X W w2) R S' w2 ∧ (∀ b, wid X W w2 b → w.heap.size ≤ b ∧ b < w2.heap.size) ∧ Below w.heap.size w w2 := fun W S' w2 e hW hT => by
          have hb2 := hT.2.size
          refine ⟨hT.1, fun b hb => ?_, hW.trans (hT.2.below (fun q hq => (HXb.out q hq).1) hW.size)⟩
          rcases hb with hb | hb
          · have := HXb.out b hb; omega
          · have := hbw.size; omega
        have keepB : ∀ (W : World) (S' : WS) (w2 : World) (cs : Array Value), W.heap.size = wr.heap.size + 1 → Blk W wr.heap.size cs 45 → WrTo X R S' W w2 → Blk w2 wr.heap.size cs 45 := fun W S' w2 cs e hb hT => hb.chg hT.2 (fun hx => by have := HXb.out _ hx; omega)
        have FIN := hide fin
        have KEEP := hide keepB
        have hsW : (wr.alloc (.cells #[.int .i64 k, .int .i64 n, .string ⟨t.toArray⟩] 45)).heap.size = wr.heap.size + 1 := by simp
        clear fin keepB
        rcases hx with ⟨rfl, n0, n1, s0⟩ | ⟨rfl, n0, n1, s0⟩ | ⟨rfl, rfl, s1⟩
        · rw [ex_keep, ov_keeps] at hov1
          rw [ex_keep, inv_keeps] at hit
          have K := hide (wkeep_any X R _ _ n.toNat hWr hF.ok (by omega) (by have := hF.len; omega) (by have := hF.put; omega) (by have := hF.cut; omega) (fun x hx => by have := hF.big x hx; omega))
          have HE : Hid (at' + n.toNat = ov (exL (L.take (j + 1))) ∧ wK n.toNat (wrun w0 (inv (exL (L.take j)) s.data.toList)) = wrun w0 (inv (exL (L.take (j + 1))) s.data.toList)) := hide ⟨hov1.symm, by rw [hit, wrun_app, wrun_keeps]⟩
          have hbd : at' + n.toNat ≤ 20000 := by omega
          have en : (n : Int) = (n.toNat : Int) := by omega
          have HB := hide hbA
          have HL2 := hide hbl
          clear hit hov1 hovl hF hWr hsz s0 hbA hbl hLj
          generalize hnn : n.toNat = m at *
          subst en
          go_wp2_with fail
          refine (unhide K).mono ?_
          rintro e w2 ⟨rfl, hT⟩
          have d1 : w2.cell? ⟨wr.heap.size, 1, none⟩ = some (.int .i64 (m : Int)) := (KEEP.out _ _ _ _ hsW HL2.out hT).cell 1 _ rfl
          have HT := hide (FIN.out _ _ _ hsW HB.out hT)
          clear hT K HB HL2 c0 c1 c2 FIN KEEP hbw
          go_wp2
          go_roundw
          case rel => exact ⟨j + 1, at' + m, _, by go_num, hlt, by first | rfl | (congr 1; omega), hide HE.out.1, hbd, hide ⟨by rw [← HE.out.2]; exact HT.out.1, HT.out.2.1⟩, HT.out.2.2⟩
          case measure => simp only [intOf]; omega
        · rw [ex_cut, ov_cuts] at hov1
          rw [ex_cut, inv_cut _ _ (by rw [List.length_drop]; omega)] at hit
          have hext : (s.extract at' (at' + n.toNat)).data.toList = (s.data.toList.drop at').take n.toNat := by rw [ext_list, List.drop_take, Nat.add_sub_cancel_left]
          rw [← hext] at hit
          have hesz : (s.extract at' (at' + n.toNat)).size ≤ 20000 := by rw [← len_list, hext, List.length_take]; omega
          have K := hide (wput_any X R _ _ (s.extract at' (at' + n.toNat)) hWr (by have := hF.put; omega))
          have HE : Hid (at' + n.toNat = ov (exL (L.take (j + 1))) ∧ wP (s.extract at' (at' + n.toNat)).data.toList (wrun w0 (inv (exL (L.take j)) s.data.toList)) = wrun w0 (inv (exL (L.take (j + 1))) s.data.toList)) := hide ⟨hov1.symm, by rw [hit, wrun_app, wrun_puts]⟩
          have hbd : at' + n.toNat ≤ 20000 := by omega
          have hbd2 : at' + n.toNat ≤ s.size := by omega
          have en : (n : Int) = (n.toNat : Int) := by omega
          have HB := hide hbA
          have HL2 := hide hbl
          clear hit hov1 hovl hF hWr hsz s0 hbA hbl hLj hext hesz
          generalize hnn : n.toNat = m at *
          subst en
          have i1 : (at' : Int) + (m : Int) ≤ (s.size : Int) := by omega
          have i2 : (0 : Int) ≤ (at' : Int) := by omega
          have i3 : (at' : Int) ≤ (at' : Int) + (m : Int) := by omega
          go_wp2_with fail
          refine (unhide K).mono ?_
          rintro e w2 ⟨rfl, hT⟩
          have d1 : w2.cell? ⟨wr.heap.size, 1, none⟩ = some (.int .i64 (m : Int)) := (KEEP.out _ _ _ _ hsW HL2.out hT).cell 1 _ rfl
          have HT := hide (FIN.out _ _ _ hsW HB.out hT)
          clear hT K HB HL2 c0 c1 c2 FIN KEEP hbw
          go_wp2
          go_roundw
          case rel => exact ⟨j + 1, at' + m, _, by go_num, hlt, by first | rfl | (congr 1; omega), hide HE.out.1, hbd, hide ⟨by rw [← HE.out.2]; exact HT.out.1, HT.out.2.1⟩, HT.out.2.2⟩
          case measure => simp only [intOf]; omega
        · rw [ex_put, ov_puts] at hov1
          rw [ex_put, inv_put] at hit
          have K := hide (wcut_any X R _ _ t.length hWr (by have := hF.cut; omega))
          have HE : Hid (at' = ov (exL (L.take (j + 1))) ∧ wC t.length (wrun w0 (inv (exL (L.take j)) s.data.toList)) = wrun w0 (inv (exL (L.take (j + 1))) s.data.toList)) := hide ⟨hov1.symm, by rw [hit, wrun_app, wrun_cuts]⟩
          have HB := hide hbA
          rw [← hsz] at K HE
          clear hit hov1 hovl hF hWr hbA hbl hLj s1 hsz
          generalize (⟨t.toArray⟩ : ByteArray) = T at *
          go_wp2_with fail
          refine (unhide K).mono ?_
          rintro e w2 ⟨rfl, hT⟩
          have HT := hide (FIN.out _ _ _ hsW HB.out hT)
          clear hT K HB c0 c1 c2 FIN KEEP hbw
          go_wp2
          go_roundw
          case rel => exact ⟨j + 1, at', _, by go_num, hlt, rfl, hide HE.out.1, ha2, hide ⟨by rw [← HE.out.2]; exact HT.out.1, HT.out.2.1⟩, HT.out.2.2⟩
          case measure => simp only [intOf]; omega
      · have hjl : j = L.length := by omega
        have hF := inv_fits s.data.toList L j HO.out.2.1 HO.out.2.2
        have K := hide (wchange_any X R _ wr HX.out.1 (by have := hF.len; omega) (by have := hF.put; omega) (by have := hF.cut; omega))
        have HSS : Hid (stl (wrun w0 (inv (exL (L.take j)) s.data.toList)) = invC s.data.toList L) := hide (by rw [HN.out, hjl, List.take_length])
        have HXb := hide HX.out.2
        have i1 : ¬ (j : Int) < (L.length : Int) := by omega
        clear hjl hF HX HS
        go_wp2_with fail
        refine (unhide K).mono ?_
        rintro e w2 ⟨v, rfl, hv, hg, hc2⟩
        rw [HSS.out] at hv
        have HR : Hid (OwnP w2 w.heap.size v (invC s.data.toList L) ∧ Below w.heap.size w w2) := hide ⟨own_base hv (fun g hg' => (hg g hg').elim (fun h => (HXb.out g h).1) (fun h => Nat.le_trans hbw.size h.1)), hbw.trans (hc2.below (fun q hq => (HXb.out q hq).1) hbw.size)⟩
        clear hv hg hc2 K hbw
        go_wp2
        go_ret2
        exact ⟨v, rfl, HR.out⟩
  · have HN : Hid (invC s.data.toList L = []) := hide (by unfold invC; rw [if_neg hz])
    have hz2 : (chkO s.data.toList L == 0) = false := beq_false_of_ne hz
    have hz3 : (chkO s.data.toList L != 0) = true := by simp [hz]
    clear hL
    generalize chkO s.data.toList L = er at *
    go_enter Try.func13, Try.ntmps13
    go_wp2_with fail
    refine (unhide KC).mono ?_
    rintro e w1 ⟨rfl, hb1⟩
    clear KC
    go_wp2
    go_ret2
    refine ⟨_, rfl, ?_, hb1⟩
    rw [HN.out]
    exact World.ownsRow_nil _ _ _ _
end Go.Proofs.Ytleacpnmeoocbaa.spls
