/- The walks of package splice: add, Norm, Sizes, checkOver. -/
import Derived.Test.YteajpkoghlbneaaSplKeepW
import Derived.Test.YteajpkoghlbneaaSplSizeW
set_option linter.unusedVariables false
namespace Go.Proofs.Yteajpkoghlbneaa.spls
open Go.RowKit

theorem okL_len : ∀ {L : List Pt}, okL L → L.length ≤ ov (exL L) + mk (exL L)
  | [], h => Nat.zero_le _
  | x :: L, h => by
    have ih := okL_len (L := L) fun p hp => h p (List.mem_cons_of_mem _ hp)
    have hx := h x List.mem_cons_self
    rw [exL_cons, ov_app, mk_app, List.length_cons]
    have : 1 ≤ ov (ex x) + mk (ex x) := by
      obtain ⟨k, n, s⟩ := x
      rcases hx with ⟨a, b, c⟩ | ⟨a, b, c⟩ | ⟨a, b, c⟩
      · replace a : k = 1 := a; subst a; rw [ex_keep, ov_keeps]; replace b : 0 < n := b; omega
      · replace a : k = 2 := a; subst a; rw [ex_cut, ov_cuts]; replace b : 0 < n := b; omega
      · replace a : k = 3 := a; subst a; rw [ex_put, mk_puts]; have := List.length_pos_iff.2 c; replace this : 0 < s.length := this; omega
    omega
/-- A writer's state holds no more than was written. -/
structure Fits (S : WS) (B : Nat) : Prop where
  ok : okL S.1
  len : S.1.length ≤ 2 * B
  put : S.2.1.length ≤ B
  cut : S.2.2 ≤ B
  big : ∀ x ∈ S.1, x.2.1 ≤ B
theorem st_fits (x : List M) (B : Nat) (h1 : ov x ≤ B) (h2 : mk x ≤ B) : Fits (wrun w0 x) B := by
  have hok := okL_wrun x ok0
  have he := ex_nf x
  have e1 : ov (exL (stl (wrun w0 x))) = ov x := by show ov (exL (nf x)) = _; rw [he, ov_nrm]
  have e2 : mk (exL (stl (wrun w0 x))) = mk x := by show mk (exL (nf x)) = _; rw [he, mk_nrm]
  rw [ex_stl, ov_app, ov_app, ov_puts, ov_cuts] at e1
  rw [ex_stl, mk_app, mk_app, mk_puts, mk_cuts] at e2
  have hl := okL_len hok
  refine ⟨hok, by omega, by omega, by omega, fun q hq => ?_⟩
  obtain ⟨f1, f2⟩ := part_fits hq
  obtain ⟨k, n, s⟩ := q
  rcases hok _ hq with ⟨a, b, c⟩ | ⟨a, b, c⟩ | ⟨a, b, c⟩
  · replace a : k = 1 := a
    subst a
    rw [ex_keep, ov_keeps] at f1
    show n ≤ B
    omega
  · replace a : k = 2 := a
    subst a
    rw [ex_cut, ov_cuts] at f1
    show n ≤ B
    omega
  · replace b : n = 0 := b
    show n ≤ B
    omega
theorem Wr.alloc {X : Nat → Prop} {R : Nat} {S : WS} {w : World} (h : Wr X R S w) (o : Obj) : Wr X R S (w.alloc o) :=
  h.chg (Y := fun _ => False) ((Chg.refl _ w).alloc o) (fun _ _ _ h => h)
theorem WrTo.ahead {X : Nat → Prop} {R : Nat} {S : WS} {w w1 w2 : World} (hc : Chg X w w1) (h : WrTo X R S w1 w2) : WrTo X R S w w2 := by
  have s1 := hc.size
  refine ⟨h.1.mono (fun q _ hq => hq.elim .inl (fun hq => .inr ⟨by omega, hq.2⟩)), hc.trans (h.2.mono (fun q _ hq => .inl hq))⟩
set_option maxHeartbeats 4000000 in
set_option maxRecDepth 100000 in
theorem wadd_any (X : Nat → Prop) (R : Nat) (S : WS) (w : World) (k n : Int) (s : ByteArray) (hx : chkP (k, n, s.data.toList) = 0) (h : Wr X R S w) (hF : Fits S 40000) :
    Calls Try.prog 29 #[.pointer (some ⟨R, 0, none⟩), .agg #[.int .i64 k, .int .i64 n, .string s]] w fun e w' => e = .returned (.tuple #[]) ∧ WrTo X R (wrun S (ex (k, n, s.data.toList))) w w' := by
  have hs := len_list s
  have h1 := h.alloc (.cells #[.int .i64 k, .int .i64 n, .string s] 46)
  have HC : Hid (Chg X w (w.alloc (.cells #[.int .i64 k, .int .i64 n, .string s] 46))) := hide ((Chg.refl X w).alloc _)
  obtain ⟨f1, f2, f3, f4, f5⟩ := hF
  rcases chkP_ok hx with ⟨a, b, c, d⟩ | ⟨a, b, c, d⟩ | ⟨a, b, c⟩
  · replace a : k = 1 := a
    subst a
    replace b : 0 ≤ n := b
    replace c : n ≤ 20000 := c
    have HK : Hid (wrun S (ex (1, n, s.data.toList)) = wK n.toNat S) := hide (by rw [ex_keep, wrun_keeps])
    have K := hide (wkeep_any X R S _ n.toNat h1 f1 (by omega) (by omega) (by omega) (by omega) (fun x hx => by have := f5 x hx; omega))
    rw [show ((n.toNat : Nat) : Int) = n from by omega] at K
    clear h h1 hx hs f1 f2 f3 f4 f5 d
    go_enter Try.func29, Try.ntmps29
    go_wp2_with fail
    refine (unhide K).mono ?_
    rintro e w1 ⟨rfl, H⟩
    have H2 := hide (WrTo.ahead HC.out H)
    clear H K
    go_wp2
    go_end0
    exact ⟨rfl, by rw [HK.out]; exact H2.out⟩
  · replace a : k = 2 := a
    subst a
    replace b : 0 ≤ n := b
    replace c : n ≤ 20000 := c
    have HK : Hid (wrun S (ex (2, n, s.data.toList)) = wC n.toNat S) := hide (by rw [ex_cut, wrun_cuts])
    have K := hide (wcut_any X R S _ n.toNat h1 (by omega))
    rw [show ((n.toNat : Nat) : Int) = n from by omega] at K
    clear h h1 hx hs f1 f2 f3 f4 f5 d
    go_enter Try.func29, Try.ntmps29
    go_wp2_with fail
    refine (unhide K).mono ?_
    rintro e w1 ⟨rfl, H⟩
    have H2 := hide (WrTo.ahead HC.out H)
    clear H K
    go_wp2
    go_end0
    exact ⟨rfl, by rw [HK.out]; exact H2.out⟩
  · replace a : k = 3 := a
    subst a
    replace b : n = 0 := b
    subst b
    replace c : s.data.toList.length ≤ 20000 := c
    have HK : Hid (wrun S (ex (3, 0, s.data.toList)) = wP s.data.toList S) := hide (by rw [ex_put, wrun_puts])
    have K := hide (wput_any X R S _ s h1 (by omega))
    clear h h1 hx hs f1 f2 f3 f4 f5 c
    go_enter Try.func29, Try.ntmps29
    go_wp2_with fail
    refine (unhide K).mono ?_
    rintro e w1 ⟨rfl, H⟩
    have H2 := hide (WrTo.ahead HC.out H)
    clear H K
    go_wp2
    go_end0
    exact ⟨rfl, by rw [HK.out]; exact H2.out⟩
/-- What Norm makes. -/
def nrmC (L : List Pt) : List Pt := if chk L = 0 then nf (exL L) else []
theorem own_base {w : World} {e d n b : Nat} {v : Value} {xs : List Value} (h : w.ownsRow 0 e d v n xs) (hb : ∀ g, v.ownBlock = some g → b ≤ g) : w.ownsRow b e d v n xs := by
  refine ⟨h.1, ?_⟩
  rcases h.2 with h2 | ⟨g, cap, cur, hv, _, hr⟩
  · exact .inl h2
  · exact .inr ⟨g, cap, cur, hv, hb g (by rw [hv]; rfl), hr⟩
theorem exL_take {L : List Pt} {j : Nat} (h : j < L.length) : exL (L.take (j + 1)) = exL (L.take j) ++ ex L[j] := by
  rw [take_one h, exL_app, exL_one]
theorem pre_fits (L : List Pt) (j : Nat) (h1 : ov (exL L) ≤ 20000) (h2 : mk (exL L) ≤ 20000) : Fits (wrun w0 (exL (L.take j))) 40000 := by
  have e : exL L = exL (L.take j) ++ exL (L.drop j) := by rw [← exL_app, List.take_append_drop]
  rw [e, ov_app] at h1
  rw [e, mk_app] at h2
  exact st_fits _ _ (by omega) (by omega)
set_option maxHeartbeats 8000000 in
set_option maxRecDepth 100000 in
theorem norm_any (w : World) (p : Option Addr) (c : Nat) (L : List Pt) (hL : LiesQ w p L) (hl : L.length ≤ 9223372036854775807) :
    Calls Try.prog 17 #[.slice p L.length c] w fun e w' => ∃ v, e = .returned (.tuple #[v, .int .i64 (chk L)]) ∧ OwnP w' w.heap.size v (nrmC L) ∧ Below w.heap.size w w' := by
  have KC := hide (check_any w p c L hL hl)
  by_cases hz : chk L = 0
  · obtain ⟨g1, g2, g3, g4⟩ := chk_ok hz
    have HN : Hid (nrmC L = stl (wrun w0 (exL L))) := hide (by unfold nrmC; rw [if_pos hz]; rfl)
    have HG := hide g2
    have HO := hide (And.intro g3 g4)
    have HL := hide hL
    rw [hz] at KC
    rw [hz]
    clear hL g2 g3 g4 hz
    go_enter Try.func17, Try.ntmps17
    go_wp2_with fail
    refine (unhide KC).mono ?_
    rintro e w1 ⟨rfl, hb1⟩
    have hs1 := hb1.size
    have hw1 := wr_new w1
    have hA : Below w.heap.size w (w1.alloc (.cells #[.slice none 0 0, .slice none 0 0, .int .i64 0] 53)) := hb1.alloc hs1 _
    generalize hR : w1.heap.size = R at *
    have HA := hide hA
    have HW := hide hw1
    have hR2 : w.heap.size ≤ R := hs1
    have hRlt : R < (w1.alloc (.cells #[.slice none 0 0, .slice none 0 0, .int .i64 0] 53)).heap.size := by simp; omega
    have HRL := hide hRlt
    clear hA hw1 KC hRlt
    go_wp2_with fail
    generalize w1.alloc (.cells #[.slice none 0 0, .slice none 0 0, .int .i64 0] 53) = wa at *
    clear hb1 hR hs1
    go_loopw [15] (fun i wr => ∃ (j : Nat) (X : Nat → Prop), i = .int .i64 j ∧ j ≤ L.length ∧ Hid (Wr X R (wrun w0 (exL (L.take j))) wr ∧ (∀ b, X b → w.heap.size ≤ b)) ∧ Below w.heap.size w wr) (fun i _ => L.length - (intOf i).toNat)
    case atStart => exact ⟨0, _, rfl, Nat.zero_le _, hide ⟨HW.out, fun b hb => by have hb : b = R := hb; omega⟩, HA.out⟩
    case round =>
      obtain ⟨j, X, rfl, hj, HX, hbw⟩ := hrel
      by_cases hlt : j < L.length
      · obtain ⟨B, o, rfl, hB, hr, h3⟩ := HL.out.at hlt
        obtain ⟨c0, c1, c2⟩ := h3.below hbw hB
        have hx := HG.out _ (List.getElem_mem hlt)
        have hF := pre_fits L j HO.out.1 HO.out.2
        have hWr := HX.out.1.alloc (.cells #[.int .i64 (L[j]).1, .int .i64 (L[j]).2.1, .string ⟨(L[j]).2.2.toArray⟩] 46)
        have K := hide (wadd_any X R _ _ (L[j]).1 (L[j]).2.1 ⟨(L[j]).2.2.toArray⟩ (by simpa using hx) hWr hF)
        have HE : Hid (wrun w0 (exL (L.take (j + 1))) = wrun (wrun w0 (exL (L.take j))) (ex ((L[j]).1, (L[j]).2.1, (⟨(L[j]).2.2.toArray⟩ : ByteArray).data.toList))) := hide (by rw [exL_take hlt, wrun_app])
        have HB : Hid (Below w.heap.size w (wr.alloc (.cells #[.int .i64 (L[j]).1, .int .i64 (L[j]).2.1, .string ⟨(L[j]).2.2.toArray⟩] 46))) := hide (hbw.alloc hbw.size _)
        have HXb := hide HX.out.2
        clear h3 hr hx hF hWr HX hbw
        generalize (⟨(L[j]).2.2.toArray⟩ : ByteArray) = Sx at *
        generalize (L[j]).1 = k at *
        generalize (L[j]).2.1 = n at *
        go_wp2_with fail
        refine (unhide K).mono ?_
        rintro e w2 ⟨rfl, hT⟩
        have hb2 : Below w.heap.size w w2 := HB.out.trans (hT.2.below HXb.out HB.out.size)
        have HT : Hid (Wr (wid X (wr.alloc (.cells #[.int .i64 k, .int .i64 n, .string Sx] 46)) w2) R (wrun w0 (exL (L.take (j + 1)))) w2 ∧ ∀ b, (wid X (wr.alloc (.cells #[.int .i64 k, .int .i64 n, .string Sx] 46)) w2) b → w.heap.size ≤ b) := hide ⟨by rw [HE.out]; exact hT.1, fun b hb => hb.elim (HXb.out b) (fun hb => Nat.le_trans HB.out.size hb.1)⟩
        clear hT K HB HE c0 c1 c2
        go_wp2
        go_roundw
        case rel => exact ⟨j + 1, _, by go_num, hlt, HT, hb2⟩
        case measure => simp only [intOf]; omega
      · have hjl : j = L.length := by omega
        have hF := pre_fits L j HO.out.1 HO.out.2
        have K := hide (wchange_any X R _ wr HX.out.1 (by have := hF.len; omega) (by have := hF.put; omega) (by have := hF.cut; omega))
        have HS : Hid (stl (wrun w0 (exL (L.take j))) = nrmC L) := hide (by rw [HN.out, hjl, List.take_length])
        have HXb := hide HX.out.2
        have i1 : ¬ (j : Int) < (L.length : Int) := by omega
        clear hjl hF HX
        go_wp2_with fail
        refine (unhide K).mono ?_
        rintro e w2 ⟨v, rfl, hv, hg, hc2⟩
        rw [HS.out] at hv
        have HR : Hid (OwnP w2 w.heap.size v (nrmC L) ∧ Below w.heap.size w w2) := hide ⟨own_base hv (fun g hg' => (hg g hg').elim (HXb.out g) (fun h => Nat.le_trans hbw.size h.1)), hbw.trans (hc2.below HXb.out hbw.size)⟩
        clear hv hg hc2 K hbw
        go_wp2
        go_ret2
        exact ⟨v, rfl, HR.out⟩
  · have HN : Hid (nrmC L = []) := hide (by unfold nrmC; rw [if_neg hz])
    have hz2 : (chk L == 0) = false := beq_false_of_ne hz
    have hz3 : (chk L != 0) = true := by simp [hz]
    clear hL
    generalize chk L = er at *
    go_enter Try.func17, Try.ntmps17
    go_wp2_with fail
    refine (unhide KC).mono ?_
    rintro e w1 ⟨rfl, hb1⟩
    clear KC
    go_wp2
    go_ret2
    refine ⟨_, rfl, ?_, hb1⟩
    rw [HN.out]
    exact World.ownsRow_nil _ _ _ _
def szO (L : List Pt) : Nat := if chk L = 0 then ov (exL L) else 0
def szM (L : List Pt) : Nat := if chk L = 0 then mk (exL L) else 0
/-- What is wrong with a change of s. -/
def chkO (s : List UInt8) (L : List Pt) : Int := if chk L ≠ 0 then chk L else if ov (exL L) ≠ s.length then 1 else 0
theorem chkO_ok {s : List UInt8} {L : List Pt} (h : chkO s L = 0) : chk L = 0 ∧ s.length = ov (exL L) := by
  unfold chkO at h
  split at h
  · rename_i h1; exact absurd h h1
  · rename_i h1
    split at h
    · omega
    · exact ⟨Classical.byContradiction h1, by omega⟩
theorem chkO_zero {s : List UInt8} {L : List Pt} (h : chk L = 0) (h2 : s.length = ov (exL L)) : chkO s L = 0 := by
  unfold chkO
  rw [if_neg (fun hn => hn h), if_neg (by omega)]
end Go.Proofs.Yteajpkoghlbneaa.spls
