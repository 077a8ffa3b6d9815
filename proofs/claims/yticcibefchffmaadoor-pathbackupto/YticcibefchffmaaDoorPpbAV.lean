/- Of our texts, what this claim reaches. -/
import Derived.Test.YticcibefchffmaaDoorPpbAU
import Derived.Test.YticcibefchffmaaDoorPpbAT
import Derived.Test.YticcibefchffmaaDoorPpbAS
import Derived.Test.YticcibefchffmaaDoorPpbAP
import Derived.Test.YticcibefchffmaaDoorPpbAE
import Derived.BigRegion
import Derived.OwnWalk
import Derived.BigCall
import Derived.Maps.AppendAt
import Derived.Deep.AppendLies
import Derived.Laws.OwnMore
set_option linter.unusedVariables false
set_option maxHeartbeats 8000000
set_option maxRecDepth 100000
namespace Go.Proofs.YticcibefchffmaaDoor.paths
open Go.RowKit
open utfs (bad hide unhide)
open bigs (numRes)
open escs (unq resT resN resE)
open valus (Blk blk_alloc len_list ext_drop ext_take size_mk)
def MaxP (w : World) : Prop := ∃ x : Int, w.cell? ⟨1, 0, none⟩ = some (.int .i64 x)
theorem MaxP.below {w w' : World} (h : MaxP w) (hb : Below w.heap.size w w') : MaxP w' := by
 obtain ⟨x, hx⟩ := h
 have := World.block_lt_of_cell? w _ hx
 exact ⟨x, by rw [hb.cell (p := ⟨1, 0, none⟩) this]; exact hx⟩
theorem blk_drewP {w : World} {b : Nat} {cs : Array Value} {t : Nat} (h : Blk w b cs t) : Blk w.drew b cs t := h
abbrev put2 (w : World) (b : Nat) (u0 u1 : Value) : World := (w.setCell ⟨b, 0, none⟩ u0).setCell ⟨b, 1, none⟩ u1
theorem put2_blk {w : World} {b : Nat} {x0 x1 : Value} {t : Nat} (h : Blk w b #[x0, x1] t) (u0 u1 : Value) : Blk (put2 w b u0 u1) b #[u0, u1] t := by
 have := (h.set 0 u0).set 1 u1
 simpa using this
theorem below_put2 {B : Nat} {a w : World} (h : Below B a w) {b : Nat} (hb : B ≤ b) (u0 u1 : Value) : Below B a (put2 w b u0 u1) :=
 (h.setCell (p := ⟨b, 0, none⟩) hb u0).setCell (p := ⟨b, 1, none⟩) hb u1
abbrev CutW (x : St × List UInt8 × Bool) (w : World) (e : Ending) (w' : World) : Prop :=
 (∃ key rest : ByteArray, key.data.toList = x.1.1 ∧ rest.data.toList = x.2.1 ∧ e = .returned (.tuple #[.agg #[.string key, .int .i64 x.1.2], .string rest, .bool x.2.2])) ∧ Below w.heap.size w w'
theorem results_cutPlace {w : World} {B : Nat} {u0 u1 x y : Value} (tmps : Array Value) (h : Blk w B #[u0, u1] 50) (ht : tmps[2]? = some (.pointer (some ⟨B, 0, none⟩)) := by rfl) (hx : tmps[3]? = some x := by rfl) (hy : tmps[4]? = some y := by rfl) : (results Tryd.f75 tmps).run Tryd.prog w = .ok (.tuple #[.agg #[u0, u1], x, y]) w := by
 have c0 := h.cell 0 _ rfl
 have c1 := h.cell 1 _ rfl
 simp only [List.getElem_toArray, List.getElem_cons_zero, List.getElem_cons_succ] at c0 c1
 simp [results, Tryd.f75, ht, hx, hy, go_sem, c0, c1]
theorem results_cutKey {w : World} {B : Nat} {u0 u1 x y : Value} (tmps : Array Value) (h : Blk w B #[u0, u1] 50) (ht : tmps[2]? = some (.pointer (some ⟨B, 0, none⟩)) := by rfl) (hx : tmps[3]? = some x := by rfl) (hy : tmps[4]? = some y := by rfl) : (results Tryd.f74 tmps).run Tryd.prog w = .ok (.tuple #[.agg #[u0, u1], x, y]) w := by
 have c0 := h.cell 0 _ rfl
 have c1 := h.cell 1 _ rfl
 simp only [List.getElem_toArray, List.getElem_cons_zero, List.getElem_cons_succ] at c0 c1
 simp [results, Tryd.f74, ht, hx, hy, go_sem, c0, c1]
theorem results_cutStep {w : World} {B : Nat} {u0 u1 x y : Value} (tmps : Array Value) (h : Blk w B #[u0, u1] 50) (ht : tmps[2]? = some (.pointer (some ⟨B, 0, none⟩)) := by rfl) (hx : tmps[3]? = some x := by rfl) (hy : tmps[4]? = some y := by rfl) : (results Tryd.f52 tmps).run Tryd.prog w = .ok (.tuple #[.agg #[u0, u1], x, y]) w := by
 have c0 := h.cell 0 _ rfl
 have c1 := h.cell 1 _ rfl
 simp only [List.getElem_toArray, List.getElem_cons_zero, List.getElem_cons_succ] at c0 c1
 simp [results, Tryd.f52, ht, hx, hy, go_sem, c0, c1]
theorem cutD_any (w : World) (s : ByteArray) (hs : s.size ≤ 1073741824) (hM : MaxP w) : Calls Tryd.prog 75 #[.string s] w (CutW (cutD s.data.toList) w) := by
 have b0 : Below w.heap.size w (w.alloc (.cells #[.string ⟨#[]⟩, .int .i64 0] 50)) := (Below.refl _ w).alloc (Nat.le_refl _) _
 have hr0 := blk_alloc w #[.string ⟨#[]⟩, .int .i64 0] 50
 obtain ⟨m, hm⟩ := hM.below b0
 have KC := hide (Tryd.strings_Cut s ⟨#[93]⟩ m (w.alloc (.cells #[.string ⟨#[]⟩, .int .i64 0] 50)) (by omega) hm)
 have hd : (⟨#[93]⟩ : ByteArray).data.toList = [93] := rfl
 rw [hd] at KC
 have EE : Hid (cutD s.data.toList = (([], (numRes (Lib.cut s.data.toList [93]).1).1), (Lib.cut s.data.toList [93]).2.1, (Lib.cut s.data.toList [93]).2.2 && decide ((numRes (Lib.cut s.data.toList [93]).1).2 = 0 ∧ 0 ≤ (numRes (Lib.cut s.data.toList [93]).1).1 ∧ (numRes (Lib.cut s.data.toList [93]).1).1 ≤ 4611686018427387904))) := hide rfl
 generalize Lib.cut s.data.toList [93] = C at *
 obtain ⟨dg, rs, cl⟩ := C
 dsimp only at *
 have KN : ∀ u, Hid (Calls Tryd.prog 97 #[.string ⟨dg.toArray⟩] u fun e w' => e = .returned (.tuple #[.int .i64 (numRes dg).1, .int .i64 (numRes dg).2]) ∧ w' = u) := fun u => hide (bigs.readN_any u ⟨dg.toArray⟩)
 generalize numRes dg = q at *
 obtain ⟨qn, qe⟩ := q
 dsimp only at *
 have HB0 := hide b0
 have HR0 := hide hr0
 clear b0 hr0 hm hM hd
 cases cl with
 | false =>
  have E2 : Hid (cutD s.data.toList = (([], qn), rs, false)) := hide (by rw [EE.out]; rfl)
  clear EE
  go_enter Tryd.func75, Tryd.ntmps75
  go_wp2_with fail
  refine (unhide KC).mono ?_
  rintro _ w1 ⟨rfl, n, rfl⟩
  have hb1 : Hid (Below w.heap.size w ((w.alloc (.cells #[.string ⟨#[]⟩, .int .i64 0] 50)).drewN n)) := hide (below_drewN HB0.out n)
  have hr1 : Hid (Blk ((w.alloc (.cells #[.string ⟨#[]⟩, .int .i64 0] 50)).drewN n) w.heap.size #[.string ⟨#[]⟩, .int .i64 0] 50) := hide HR0.out
  clear KC HB0 HR0
  generalize (w.alloc (.cells #[.string ⟨#[]⟩, .int .i64 0] 50)).drewN n = W at *
  go_wp2_with fail
  refine (unhide (KN _)).mono ?_
  rintro _ w2 ⟨rfl, rfl⟩
  clear KN
  have hr := hr1.out
  have x0 := hr.cell 0 _ rfl
  have x1 := hr.cell 1 _ rfl
  simp only [List.getElem_toArray, List.getElem_cons_zero, List.getElem_cons_succ] at x0 x1
  have z0 := Blk.froz hr 0
  have z1 := Blk.froz hr 1
  have HY := hide (put2_blk hr (.string ⟨#[]⟩) (.int .i64 qn))
  have HF := hide (below_put2 hb1.out (b := w.heap.size) (Nat.le_refl _) (.string ⟨#[]⟩) (.int .i64 qn))
  clear hr hr1 hb1
  go_wp2
  obtain ⟨Y, hYe⟩ : ∃ Y, Y = put2 w2 w.heap.size (.string ⟨#[]⟩) (.int .i64 qn) := ⟨_, rfl⟩
  rw [← hYe] at HY HF
  simp only [put2] at hYe
  rw [← hYe]
  clear hYe x0 x1 z0 z1
  refine bodyPost_ret (results_cutPlace _ HY.out) rfl ?_
  rw [E2.out]
  exact ⟨⟨⟨#[]⟩, ⟨rs.toArray⟩, rfl, rfl, rfl⟩, HF.out⟩
 | true =>
  by_cases i1 : qe = 0
  ·subst i1
   by_cases i2 : 0 ≤ qn
   ·have E2 : Hid (cutD s.data.toList = (([], qn), rs, decide (qn ≤ 4611686018427387904))) := hide (by rw [EE.out]; simp [i2])
    clear EE
    go_enter Tryd.func75, Tryd.ntmps75
    go_wp2_with fail
    refine (unhide KC).mono ?_
    rintro _ w1 ⟨rfl, n, rfl⟩
    have hb1 : Hid (Below w.heap.size w ((w.alloc (.cells #[.string ⟨#[]⟩, .int .i64 0] 50)).drewN n)) := hide (below_drewN HB0.out n)
    have hr1 : Hid (Blk ((w.alloc (.cells #[.string ⟨#[]⟩, .int .i64 0] 50)).drewN n) w.heap.size #[.string ⟨#[]⟩, .int .i64 0] 50) := hide HR0.out
    clear KC HB0 HR0
    generalize (w.alloc (.cells #[.string ⟨#[]⟩, .int .i64 0] 50)).drewN n = W at *
    go_wp2_with fail
    refine (unhide (KN _)).mono ?_
    rintro _ w2 ⟨rfl, rfl⟩
    clear KN
    have hr := hr1.out
    have x0 := hr.cell 0 _ rfl
    have x1 := hr.cell 1 _ rfl
    simp only [List.getElem_toArray, List.getElem_cons_zero, List.getElem_cons_succ] at x0 x1
    have z0 := Blk.froz hr 0
    have z1 := Blk.froz hr 1
    have HY := hide (put2_blk hr (.string ⟨#[]⟩) (.int .i64 qn))
    have HF := hide (below_put2 hb1.out (b := w.heap.size) (Nat.le_refl _) (.string ⟨#[]⟩) (.int .i64 qn))
    clear hr hr1 hb1
    go_wp2
    obtain ⟨Y, hYe⟩ : ∃ Y, Y = put2 w2 w.heap.size (.string ⟨#[]⟩) (.int .i64 qn) := ⟨_, rfl⟩
    rw [← hYe] at HY HF
    simp only [put2] at hYe
    rw [← hYe]
    clear hYe x0 x1 z0 z1
    refine bodyPost_ret (results_cutPlace _ HY.out) rfl ?_
    rw [E2.out]
    exact ⟨⟨⟨#[]⟩, ⟨rs.toArray⟩, rfl, rfl, rfl⟩, HF.out⟩
   ·have E2 : Hid (cutD s.data.toList = (([], qn), rs, false)) := hide (by rw [EE.out]; rw [decide_eq_false (fun h => i2 h.2.1)]; rfl)
    clear EE
    go_enter Tryd.func75, Tryd.ntmps75
    go_wp2_with fail
    refine (unhide KC).mono ?_
    rintro _ w1 ⟨rfl, n, rfl⟩
    have hb1 : Hid (Below w.heap.size w ((w.alloc (.cells #[.string ⟨#[]⟩, .int .i64 0] 50)).drewN n)) := hide (below_drewN HB0.out n)
    have hr1 : Hid (Blk ((w.alloc (.cells #[.string ⟨#[]⟩, .int .i64 0] 50)).drewN n) w.heap.size #[.string ⟨#[]⟩, .int .i64 0] 50) := hide HR0.out
    clear KC HB0 HR0
    generalize (w.alloc (.cells #[.string ⟨#[]⟩, .int .i64 0] 50)).drewN n = W at *
    go_wp2_with fail
    refine (unhide (KN _)).mono ?_
    rintro _ w2 ⟨rfl, rfl⟩
    clear KN
    have hr := hr1.out
    have x0 := hr.cell 0 _ rfl
    have x1 := hr.cell 1 _ rfl
    simp only [List.getElem_toArray, List.getElem_cons_zero, List.getElem_cons_succ] at x0 x1
    have z0 := Blk.froz hr 0
    have z1 := Blk.froz hr 1
    have HY := hide (put2_blk hr (.string ⟨#[]⟩) (.int .i64 qn))
    have HF := hide (below_put2 hb1.out (b := w.heap.size) (Nat.le_refl _) (.string ⟨#[]⟩) (.int .i64 qn))
    clear hr hr1 hb1
    go_wp2
    obtain ⟨Y, hYe⟩ : ∃ Y, Y = put2 w2 w.heap.size (.string ⟨#[]⟩) (.int .i64 qn) := ⟨_, rfl⟩
    rw [← hYe] at HY HF
    simp only [put2] at hYe
    rw [← hYe]
    clear hYe x0 x1 z0 z1
    refine bodyPost_ret (results_cutPlace _ HY.out) rfl ?_
    rw [E2.out]
    exact ⟨⟨⟨#[]⟩, ⟨rs.toArray⟩, rfl, rfl, rfl⟩, HF.out⟩
  ·have i4 : (qe == 0) = false := beq_false_of_ne i1
   have E2 : Hid (cutD s.data.toList = (([], qn), rs, false)) := hide (by rw [EE.out]; rw [decide_eq_false (fun h => i1 h.1)]; rfl)
   clear EE
   go_enter Tryd.func75, Tryd.ntmps75
   go_wp2_with fail
   refine (unhide KC).mono ?_
   rintro _ w1 ⟨rfl, n, rfl⟩
   have hb1 : Hid (Below w.heap.size w ((w.alloc (.cells #[.string ⟨#[]⟩, .int .i64 0] 50)).drewN n)) := hide (below_drewN HB0.out n)
   have hr1 : Hid (Blk ((w.alloc (.cells #[.string ⟨#[]⟩, .int .i64 0] 50)).drewN n) w.heap.size #[.string ⟨#[]⟩, .int .i64 0] 50) := hide HR0.out
   clear KC HB0 HR0
   generalize (w.alloc (.cells #[.string ⟨#[]⟩, .int .i64 0] 50)).drewN n = W at *
   go_wp2_with fail
   refine (unhide (KN _)).mono ?_
   rintro _ w2 ⟨rfl, rfl⟩
   clear KN
   have hr := hr1.out
   have x0 := hr.cell 0 _ rfl
   have x1 := hr.cell 1 _ rfl
   simp only [List.getElem_toArray, List.getElem_cons_zero, List.getElem_cons_succ] at x0 x1
   have z0 := Blk.froz hr 0
   have z1 := Blk.froz hr 1
   have HY := hide (put2_blk hr (.string ⟨#[]⟩) (.int .i64 qn))
   have HF := hide (below_put2 hb1.out (b := w.heap.size) (Nat.le_refl _) (.string ⟨#[]⟩) (.int .i64 qn))
   clear hr hr1 hb1
   go_wp2
   obtain ⟨Y, hYe⟩ : ∃ Y, Y = put2 w2 w.heap.size (.string ⟨#[]⟩) (.int .i64 qn) := ⟨_, rfl⟩
   rw [← hYe] at HY HF
   simp only [put2] at hYe
   rw [← hYe]
   clear hYe x0 x1 z0 z1
   refine bodyPost_ret (results_cutPlace _ HY.out) rfl ?_
   rw [E2.out]
   exact ⟨⟨⟨#[]⟩, ⟨rs.toArray⟩, rfl, rfl, rfl⟩, HF.out⟩
theorem pre34 (s : ByteArray) : Lib.hasPrefix s.data.toList [34] = decide (s.data.toList.head? = some 34) := by
 cases h : s.data.toList with
 | nil => rfl
 | cons b l =>
  by_cases e : b = 34
  ·subst e; rfl
  ·have : ¬ (34 : UInt8) = b := fun x => e x.symm
   simp [Lib.hasPrefix, List.isPrefixOf, e, this]
theorem cutK_quote (w : World) (s : ByteArray) (hs : s.size ≤ 1073741824) (hT : Utf8W w) (hq : s.data.toList.head? = some 34) : Calls Tryd.prog 74 #[.string s] w (CutW (cutK s.data.toList) w) := by
 have b0 : Below w.heap.size w (w.alloc (.cells #[.string ⟨#[]⟩, .int .i64 0] 50)) := (Below.refl _ w).alloc (Nat.le_refl _) _
 have hr0 := blk_alloc w #[.string ⟨#[]⟩, .int .i64 0] 50
 have hp := pre34 s
 rw [hq, decide_eq_true rfl] at hp
 have EE : Hid (cutK s.data.toList = ((resT (unq s.data.toList), -1), s.data.toList.drop (resN (unq s.data.toList)), decide (resE (unq s.data.toList) = 0))) := hide (by unfold cutK; rw [if_pos hq])
 have hsz : resN (unq s.data.toList) ≤ s.size := by
  cases h : unq s.data.toList with
  | inl e => exact Nat.zero_le _
  | inr q =>
   obtain ⟨r1, k⟩ := q
   have := (escs.unq_got h).2.1
   rw [len_list] at this
   exact this
 have KU := hide (escs.unquote_any (w.alloc (.cells #[.string ⟨#[]⟩, .int .i64 0] 50)) s hs (Utf8Tabs_below hT b0) _ (hide rfl))
 generalize unq s.data.toList = R at *
 generalize resT R = rt at *
 generalize resN R = k at *
 generalize resE R = er at *
 have HB0 := hide b0
 have HR0 := hide hr0
 clear b0 hr0 hT hq
 go_enter Tryd.func74, Tryd.ntmps74
 go_wp2_with fail
 refine (Tryd.strings_HasPrefix s ⟨#[34]⟩ _).mono ?_
 rintro _ w1 ⟨rfl, rfl⟩
 rw [show (⟨#[34]⟩ : ByteArray).data.toList = [34] from rfl, hp]
 clear hp
 go_upto_region 2 with fail
 go_wp2_with fail
 refine (unhide KU).mono ?_
 rintro _ w2 ⟨rfl, b2⟩
 have hr2 := hide (HR0.out.below b2)
 have hb2 := hide (HB0.out.trans (b2.mono HB0.out.size))
 clear KU HB0 HR0 b2
 have hr := hr2.out
 have x0 := hr.cell 0 _ rfl
 have x1 := hr.cell 1 _ rfl
 simp only [List.getElem_toArray, List.getElem_cons_zero, List.getElem_cons_succ] at x0 x1
 have z0 := Blk.froz hr 0
 have z1 := Blk.froz hr 1
 have HY := hide (put2_blk hr (.string ⟨rt.toArray⟩) (.int .i64 (-1)))
 have HF := hide (below_put2 hb2.out (b := w.heap.size) (Nat.le_refl _) (.string ⟨rt.toArray⟩) (.int .i64 (-1)))
 clear hr
 go_upto_region 3 with fail
 go_region
 clear x0 x1 z0 z1
 go_wp2
 obtain ⟨Y, hYe⟩ : ∃ Y, Y = (put2 w2 w.heap.size (.string ⟨rt.toArray⟩) (.int .i64 (-1))).drew := ⟨_, rfl⟩
 have hY2 : Blk Y w.heap.size #[.string ⟨rt.toArray⟩, .int .i64 (-1)] 50 := by rw [hYe]; exact blk_drewP HY.out
 have hF2 : Below w.heap.size w Y := by rw [hYe]; exact HF.out.drew
 simp only [put2] at hYe
 rw [← hYe]
 clear hYe HY HF
 refine bodyPost_ret (results_cutKey _ hY2) rfl ?_
 rw [EE.out]
 exact ⟨⟨⟨rt.toArray⟩, s.extract k s.size, rfl, ext_drop s k, rfl⟩, hF2⟩
theorem any_lt : ∀ l : List UInt8, Lib.indexAny l [46, 91] < (l.length : Int) ∨ l = [] 
 | [] => .inr rfl
 | b :: l => by
  left
  have ih := any_lt l
  unfold Lib.indexAny
  split
  ·simp only [List.length_cons]; omega
  ·rcases ih with ih | rfl
   ·split
    ·simp only [List.length_cons]; omega
    ·simp only [List.length_cons]; omega
   ·simp [Lib.indexAny]
theorem any_le (l : List UInt8) : Lib.indexAny l [46, 91] ≤ (l.length : Int) := by
 rcases any_lt l with h | rfl
 ·omega
 ·decide
theorem cutK_all (w : World) (s : ByteArray) (hs : s.size ≤ 1073741824) (hq : ¬ s.data.toList.head? = some 34) (hn : Lib.indexAny s.data.toList [46, 91] < 0) : Calls Tryd.prog 74 #[.string s] w (CutW (cutK s.data.toList) w) := by
 have b0 : Below w.heap.size w (w.alloc (.cells #[.string ⟨#[]⟩, .int .i64 0] 50)) := (Below.refl _ w).alloc (Nat.le_refl _) _
 have hr0 := blk_alloc w #[.string ⟨#[]⟩, .int .i64 0] 50
 have hp := pre34 s
 rw [decide_eq_false hq] at hp
 have EE : Hid (cutK s.data.toList = ((s.data.toList, -1), [], true)) := hide (by unfold cutK; rw [if_neg hq, if_pos hn])
 have KA := hide (any_all (w.alloc (.cells #[.string ⟨#[]⟩, .int .i64 0] 50)) s (by omega))
 generalize Lib.indexAny s.data.toList [46, 91] = ix at *
 have HB0 := hide b0
 have HR0 := hide hr0
 clear b0 hr0 hq
 go_enter Tryd.func74, Tryd.ntmps74
 go_wp2_with fail
 refine (Tryd.strings_HasPrefix s ⟨#[34]⟩ _).mono ?_
 rintro _ w1 ⟨rfl, rfl⟩
 rw [show (⟨#[34]⟩ : ByteArray).data.toList = [34] from rfl, hp]
 clear hp
 go_upto_region 4 with fail
 go_wp2_with fail
 refine (unhide KA).mono ?_
 rintro _ w2 ⟨rfl, b2⟩
 have hr2 := hide (HR0.out.below b2)
 have hb2 := hide (HB0.out.trans (b2.mono HB0.out.size))
 clear KA HB0 HR0 b2
 have hr := hr2.out
 have x0 := hr.cell 0 _ rfl
 have x1 := hr.cell 1 _ rfl
 simp only [List.getElem_toArray, List.getElem_cons_zero, List.getElem_cons_succ] at x0 x1
 have z0 := Blk.froz hr 0
 have z1 := Blk.froz hr 1
 have HY := hide (put2_blk hr (.string s) (.int .i64 (-1)))
 have HF := hide (below_put2 hb2.out (b := w.heap.size) (Nat.le_refl _) (.string s) (.int .i64 (-1)))
 clear hr
 go_upto_region 7 with fail
 go_region
 clear x0 x1 z0 z1
 go_wp2
 obtain ⟨Y, hYe⟩ : ∃ Y, Y = (put2 w2 w.heap.size (.string s) (.int .i64 (-1))).drew := ⟨_, rfl⟩
 have hY2 : Blk Y w.heap.size #[.string s, .int .i64 (-1)] 50 := by rw [hYe]; exact blk_drewP HY.out
 have hF2 : Below w.heap.size w Y := by rw [hYe]; exact HF.out.drew
 simp only [put2] at hYe
 rw [← hYe]
 clear hYe HY HF
 refine bodyPost_ret (results_cutKey _ hY2) rfl ?_
 rw [EE.out]
 exact ⟨⟨s, ByteArray.empty, rfl, rfl, rfl⟩, hF2⟩
theorem cutK_part (w : World) (s : ByteArray) (hs : s.size ≤ 1073741824) (hq : ¬ s.data.toList.head? = some 34) (hn : ¬ Lib.indexAny s.data.toList [46, 91] < 0) : Calls Tryd.prog 74 #[.string s] w (CutW (cutK s.data.toList) w) := by
 have b0 : Below w.heap.size w (w.alloc (.cells #[.string ⟨#[]⟩, .int .i64 0] 50)) := (Below.refl _ w).alloc (Nat.le_refl _) _
 have hr0 := blk_alloc w #[.string ⟨#[]⟩, .int .i64 0] 50
 have hp := pre34 s
 rw [decide_eq_false hq] at hp
 have hle := any_le s.data.toList
 rw [len_list] at hle
 have EE : Hid (cutK s.data.toList = ((s.data.toList.take (Lib.indexAny s.data.toList [46, 91]).toNat, -1), s.data.toList.drop (Lib.indexAny s.data.toList [46, 91]).toNat, true)) := hide (by unfold cutK; rw [if_neg hq, if_neg hn])
 have KA := hide (any_all (w.alloc (.cells #[.string ⟨#[]⟩, .int .i64 0] 50)) s (by omega))
 generalize Lib.indexAny s.data.toList [46, 91] = ix at *
 obtain ⟨k, rfl⟩ : ∃ k : Nat, ix = (k : Int) := ⟨ix.toNat, by omega⟩
 rw [Int.toNat_natCast] at EE
 have HB0 := hide b0
 have HR0 := hide hr0
 clear b0 hr0 hq
 go_enter Tryd.func74, Tryd.ntmps74
 go_wp2_with fail
 refine (Tryd.strings_HasPrefix s ⟨#[34]⟩ _).mono ?_
 rintro _ w1 ⟨rfl, rfl⟩
 rw [show (⟨#[34]⟩ : ByteArray).data.toList = [34] from rfl, hp]
 clear hp
 go_upto_region 4 with fail
 go_wp2_with fail
 refine (unhide KA).mono ?_
 rintro _ w2 ⟨rfl, b2⟩
 have hr2 := hide (HR0.out.below b2)
 have hb2 := hide (HB0.out.trans (b2.mono HB0.out.size))
 clear KA HB0 HR0 b2
 have hkn : ¬ (k : Int) < 0 := by omega
 have hks : k ≤ s.size := by omega
 have hr := hr2.out
 have x0 := hr.cell 0 _ rfl
 have x1 := hr.cell 1 _ rfl
 simp only [List.getElem_toArray, List.getElem_cons_zero, List.getElem_cons_succ] at x0 x1
 have z0 := Blk.froz hr 0
 have z1 := Blk.froz hr 1
 have HY := hide (put2_blk hr (.string (s.extract 0 k)) (.int .i64 (-1)))
 have HF := hide (below_put2 hb2.out (b := w.heap.size) (Nat.le_refl _) (.string (s.extract 0 k)) (.int .i64 (-1)))
 clear hr
 go_upto_region 7 with fail
 go_region
 clear x0 x1 z0 z1
 go_wp2
 obtain ⟨Y, hYe⟩ : ∃ Y, Y = (put2 w2 w.heap.size (.string (s.extract 0 k)) (.int .i64 (-1))).drew := ⟨_, rfl⟩
 have hY2 : Blk Y w.heap.size #[.string (s.extract 0 k), .int .i64 (-1)] 50 := by rw [hYe]; exact blk_drewP HY.out
 have hF2 : Below w.heap.size w Y := by rw [hYe]; exact HF.out.drew
 simp only [put2] at hYe
 rw [← hYe]
 clear hYe HY HF
 refine bodyPost_ret (results_cutKey _ hY2) rfl ?_
 rw [EE.out]
 exact ⟨⟨s.extract 0 k, s.extract k s.size, ext_take s k, ext_drop s k, rfl⟩, hF2⟩
theorem cutK_any (w : World) (s : ByteArray) (hs : s.size ≤ 1073741824) (hT : Utf8W w) : Calls Tryd.prog 74 #[.string s] w (CutW (cutK s.data.toList) w) := by
 by_cases hq : s.data.toList.head? = some 34
 ·exact cutK_quote w s hs hT hq
 ·by_cases hn : Lib.indexAny s.data.toList [46, 91] < 0
  ·exact cutK_all w s hs hq hn
  ·exact cutK_part w s hs hq hn
theorem cutS_key (w : World) (s : ByteArray) (l : List UInt8) (hs : s.size ≤ 1073741824) (hl : s.data.toList = 46 :: l) (hT : Utf8W w) (hM : MaxP w) : Calls Tryd.prog 52 #[.string s] w (CutW (cutS s.data.toList) w) := by
 have b0 : Below w.heap.size w (w.alloc (.cells #[.string ⟨#[]⟩, .int .i64 0] 50)) := (Below.refl _ w).alloc (Nat.le_refl _) _
 have hr0 := blk_alloc w #[.string ⟨#[]⟩, .int .i64 0] 50
 have hll : l.length < 1073741824 := by have := len_list s; rw [hl] at this; simp only [List.length_cons] at this; omega
 have KK := hide (cutK_any (w.alloc (.cells #[.string ⟨#[]⟩, .int .i64 0] 50)) ⟨l.toArray⟩ (by rw [size_mk]; omega) (Utf8Tabs_below hT b0))
 have EE : Hid (cutS s.data.toList = cutK l) := hide (by rw [hl]; rfl)
 have h1 : Lib.trimPrefix s.data.toList [46] = l := by rw [hl]; simp [Lib.trimPrefix, Lib.hasPrefix, List.isPrefixOf]
 have h2 : Lib.hasPrefix s.data.toList [46] = true := by rw [hl]; simp [Lib.hasPrefix, List.isPrefixOf]
 have HB0 := hide b0
 have HR0 := hide hr0
 clear b0 hr0 hT hM hl hll
 go_enter Tryd.func52, Tryd.ntmps52
 go_wp2_with fail
 refine (Tryd.strings_CutPrefix s ⟨#[46]⟩ _).mono ?_
 rintro _ w1 ⟨rfl, rfl⟩
 rw [show (⟨#[46]⟩ : ByteArray).data.toList = [46] from rfl, h1, h2]
 clear h1 h2
 go_wp2_with fail
 refine (unhide KK).mono ?_
 rintro _ w2 ⟨⟨key, rest, k1, k2, rfl⟩, b2⟩
 have hr2 := HR0.out.below b2
 have hb2 := HB0.out.trans (b2.mono HB0.out.size)
 have HK := hide (And.intro k1 k2)
 clear KK HB0 HR0 b2 k1 k2
 have hr := hr2
 have x0 := hr.cell 0 _ rfl
 have x1 := hr.cell 1 _ rfl
 simp only [List.getElem_toArray, List.getElem_cons_zero, List.getElem_cons_succ] at x0 x1
 have z0 := Blk.froz hr 0
 have z1 := Blk.froz hr 1
 generalize cutK l = C at *
 obtain ⟨⟨ck, ci⟩, cr, cb⟩ := C
 dsimp only at *
 have HY := hide (put2_blk hr (.string key) (.int .i64 ci))
 have HF := hide (below_put2 hb2 (b := w.heap.size) (Nat.le_refl _) (.string key) (.int .i64 ci))
 clear hr hr2 hb2
 go_wp2
 obtain ⟨Y, hYe⟩ : ∃ Y, Y = put2 w2 w.heap.size (.string key) (.int .i64 ci) := ⟨_, rfl⟩
 rw [← hYe] at HY HF
 simp only [put2] at hYe
 rw [← hYe]
 clear hYe x0 x1 z0 z1
 refine bodyPost_ret (results_cutStep _ HY.out) rfl ?_
 rw [EE.out]
 exact ⟨⟨key, rest, HK.out.1, HK.out.2, rfl⟩, HF.out⟩
theorem cutS_place (w : World) (s : ByteArray) (l : List UInt8) (hs : s.size ≤ 1073741824) (hl : s.data.toList = 91 :: l) (hT : Utf8W w) (hM : MaxP w) : Calls Tryd.prog 52 #[.string s] w (CutW (cutS s.data.toList) w) := by
 have b0 : Below w.heap.size w (w.alloc (.cells #[.string ⟨#[]⟩, .int .i64 0] 50)) := (Below.refl _ w).alloc (Nat.le_refl _) _
 have hr0 := blk_alloc w #[.string ⟨#[]⟩, .int .i64 0] 50
 have hll : l.length < 1073741824 := by have := len_list s; rw [hl] at this; simp only [List.length_cons] at this; omega
 have KK := hide (cutD_any (w.alloc (.cells #[.string ⟨#[]⟩, .int .i64 0] 50)) ⟨l.toArray⟩ (by rw [size_mk]; omega) (hM.below b0))
 have EE : Hid (cutS s.data.toList = cutD l) := hide (by rw [hl]; rfl)
 have h2 : Lib.hasPrefix s.data.toList [46] = false := by rw [hl]; simp [Lib.hasPrefix, List.isPrefixOf]
 have h3 : Lib.trimPrefix s.data.toList [91] = l := by rw [hl]; simp [Lib.trimPrefix, Lib.hasPrefix, List.isPrefixOf]
 have h4 : Lib.hasPrefix s.data.toList [91] = true := by rw [hl]; simp [Lib.hasPrefix, List.isPrefixOf]
 have HB0 := hide b0
 have HR0 := hide hr0
 clear b0 hr0 hT hM hl hll
 go_enter Tryd.func52, Tryd.ntmps52
 go_wp2_with fail
 refine (Tryd.strings_CutPrefix s ⟨#[46]⟩ _).mono ?_
 rintro _ w1 ⟨rfl, rfl⟩
 rw [show (⟨#[46]⟩ : ByteArray).data.toList = [46] from rfl, h2]
 clear h2
 generalize Lib.trimPrefix s.data.toList [46] = t46
 go_wp2_with fail
 refine (Tryd.strings_CutPrefix s ⟨#[91]⟩ _).mono ?_
 rintro _ w1 ⟨rfl, rfl⟩
 rw [show (⟨#[91]⟩ : ByteArray).data.toList = [91] from rfl, h3, h4]
 clear h3 h4
 go_wp2_with fail
 refine (unhide KK).mono ?_
 rintro _ w2 ⟨⟨key, rest, k1, k2, rfl⟩, b2⟩
 have hr2 := HR0.out.below b2
 have hb2 := HB0.out.trans (b2.mono HB0.out.size)
 have HK := hide (And.intro k1 k2)
 clear KK HB0 HR0 b2 k1 k2
 have hr := hr2
 have x0 := hr.cell 0 _ rfl
 have x1 := hr.cell 1 _ rfl
 simp only [List.getElem_toArray, List.getElem_cons_zero, List.getElem_cons_succ] at x0 x1
 have z0 := Blk.froz hr 0
 have z1 := Blk.froz hr 1
 generalize cutD l = C at *
 obtain ⟨⟨ck, ci⟩, cr, cb⟩ := C
 dsimp only at *
 have HY := hide (put2_blk hr (.string key) (.int .i64 ci))
 have HF := hide (below_put2 hb2 (b := w.heap.size) (Nat.le_refl _) (.string key) (.int .i64 ci))
 clear hr hr2 hb2
 go_wp2
 obtain ⟨Y, hYe⟩ : ∃ Y, Y = put2 w2 w.heap.size (.string key) (.int .i64 ci) := ⟨_, rfl⟩
 rw [← hYe] at HY HF
 simp only [put2] at hYe
 rw [← hYe]
 clear hYe x0 x1 z0 z1
 refine bodyPost_ret (results_cutStep _ HY.out) rfl ?_
 rw [EE.out]
 exact ⟨⟨key, rest, HK.out.1, HK.out.2, rfl⟩, HF.out⟩
theorem cutS_none (w : World) (s : ByteArray) (h2 : Lib.hasPrefix s.data.toList [46] = false) (h4 : Lib.hasPrefix s.data.toList [91] = false) (hc : cutS s.data.toList = (([], 0), [], false)) : Calls Tryd.prog 52 #[.string s] w (CutW (cutS s.data.toList) w) := by
 have b0 : Below w.heap.size w (w.alloc (.cells #[.string ⟨#[]⟩, .int .i64 0] 50)) := (Below.refl _ w).alloc (Nat.le_refl _) _
 have hr0 := blk_alloc w #[.string ⟨#[]⟩, .int .i64 0] 50
 have EE := hide hc
 have HB0 := hide b0
 have HR0 := hide hr0
 clear b0 hr0 hc
 go_enter Tryd.func52, Tryd.ntmps52
 go_wp2_with fail
 refine (Tryd.strings_CutPrefix s ⟨#[46]⟩ _).mono ?_
 rintro _ w1 ⟨rfl, rfl⟩
 rw [show (⟨#[46]⟩ : ByteArray).data.toList = [46] from rfl, h2]
 clear h2
 generalize Lib.trimPrefix s.data.toList [46] = t46
 go_wp2_with fail
 refine (Tryd.strings_CutPrefix s ⟨#[91]⟩ _).mono ?_
 rintro _ w1 ⟨rfl, rfl⟩
 rw [show (⟨#[91]⟩ : ByteArray).data.toList = [91] from rfl, h4]
 clear h4
 generalize Lib.trimPrefix s.data.toList [91] = t91
 generalize hW : w.alloc (.cells #[.string ⟨#[]⟩, .int .i64 0] 50) = W at *
 have hr := HR0.out
 have x0 := hr.cell 0 _ rfl
 have x1 := hr.cell 1 _ rfl
 simp only [List.getElem_toArray, List.getElem_cons_zero, List.getElem_cons_succ] at x0 x1
 have z0 := Blk.froz hr 0
 have z1 := Blk.froz hr 1
 have HY := hide (put2_blk hr (.string ⟨#[]⟩) (.int .i64 0))
 have HF := hide (below_put2 HB0.out (b := w.heap.size) (Nat.le_refl _) (.string ⟨#[]⟩) (.int .i64 0))
 clear hr HR0 HB0 hW
 go_wp2
 obtain ⟨Y, hYe⟩ : ∃ Y, Y = put2 W w.heap.size (.string ⟨#[]⟩) (.int .i64 0) := ⟨_, rfl⟩
 rw [← hYe] at HY HF
 simp only [put2] at hYe
 rw [← hYe]
 clear hYe x0 x1 z0 z1
 refine bodyPost_ret (results_cutStep _ HY.out) rfl ?_
 rw [EE.out]
 exact ⟨⟨⟨#[]⟩, ⟨#[]⟩, rfl, rfl, rfl⟩, HF.out⟩
theorem cutS_any (w : World) (s : ByteArray) (hs : s.size ≤ 1073741824) (hT : Utf8W w) (hM : MaxP w) : Calls Tryd.prog 52 #[.string s] w (CutW (cutS s.data.toList) w) := by
 cases h : s.data.toList with
 | nil =>
  have := cutS_none w s (by rw [h]; rfl) (by rw [h]; rfl) (by rw [h]; rfl)
  rw [h] at this
  exact this
 | cons b l =>
  by_cases e1 : b = 46
  ·subst e1
   have := cutS_key w s l hs h hT hM
   rw [h] at this
   exact this
  ·by_cases e2 : b = 91
   ·subst e2
    have := cutS_place w s l hs h hT hM
    rw [h] at this
    exact this
   ·have n1 : ¬ (46 : UInt8) = b := fun x => e1 x.symm
    have n2 : ¬ (91 : UInt8) = b := fun x => e2 x.symm
    have := cutS_none w s (by rw [h]; simp [Lib.hasPrefix, List.isPrefixOf, n1]) (by rw [h]; simp [Lib.hasPrefix, List.isPrefixOf, n2]) (by
     rw [h]
     unfold cutS
     split
     ·rename_i q; injection q with q _; exact absurd q e1
     ·rename_i q; injection q with q _; exact absurd q e2
     ·rfl)
    rw [h] at this
    exact this
end Go.Proofs.YticcibefchffmaaDoor.paths
namespace Go.Proofs.YticcibefchffmaaDoor.paths
open Go.RowKit
open utfs (bad hide unhide)
open bigs (numRes)
open escs (unq resT resN resE)
open valus (Blk blk_alloc len_list ext_drop ext_take size_mk grown_set grown_trans)
theorem cutS_room (l : List UInt8) : (cutS l).1.1.length ≤ l.length ∧ (cutS l).2.1.length ≤ l.length ∧ -9223372036854775808 ≤ (cutS l).1.2 ∧ (cutS l).1.2 ≤ 9223372036854775807 := by
 have hK : ∀ l, (cutK l).1.1.length ≤ l.length ∧ (cutK l).2.1.length ≤ l.length ∧ -9223372036854775808 ≤ (cutK l).1.2 ∧ (cutK l).1.2 ≤ 9223372036854775807 := by
  intro l
  unfold cutK
  split
  ·refine ⟨?_, by simp, (by show (-9223372036854775808 : Int) ≤ -1; decide), (by show (-1 : Int) ≤ 9223372036854775807; decide)⟩
   dsimp only
   cases h : unq l with
   | inl e => exact Nat.zero_le _
   | inr q =>
    obtain ⟨r, k⟩ := q
    have := escs.unq_got h
    show (utfs.enc r).length ≤ _
    omega
  ·split
   ·exact ⟨Nat.le_refl _, Nat.zero_le _, (by show (-9223372036854775808 : Int) ≤ -1; decide), (by show (-1 : Int) ≤ 9223372036854775807; decide)⟩
   ·exact ⟨by simp; omega, by simp, (by show (-9223372036854775808 : Int) ≤ -1; decide), (by show (-1 : Int) ≤ 9223372036854775807; decide)⟩
 have hD : ∀ l, (cutD l).1.1.length ≤ l.length ∧ (cutD l).2.1.length ≤ l.length ∧ -9223372036854775808 ≤ (cutD l).1.2 ∧ (cutD l).1.2 ≤ 9223372036854775807 := by
  intro l
  refine ⟨Nat.zero_le _, ?_, (bigs.res_range _).1, (bigs.res_range _).2⟩
  show (Lib.cut l [93]).2.1.length ≤ _
  unfold Lib.cut
  split
  ·simp
  ·simp
 unfold cutS
 split
 ·have := hK ‹_›; simp only [List.length_cons]; omega
 ·have := hD ‹_›; simp only [List.length_cons]; omega
 ·exact ⟨Nat.zero_le _, Nat.zero_le _, (by show (-9223372036854775808 : Int) ≤ 0; decide), (by show (0 : Int) ≤ 9223372036854775807; decide)⟩
abbrev SK : Type := ByteArray × Int
def stC (x : SK) : List Value := [.string x.1, .int .i64 x.2]
def stL (x : SK) : St := (x.1.data.toList, x.2)
theorem infoStep : (Tryd.prog.info? 50).map (fun i => (i.zero, i.size, i.bytes)) = some (some (.agg #[.string ⟨#[]⟩, .int .i64 0]), 2, 24) := by kernel_rfl
theorem st_get : ∀ (l : List SK) (j : Nat) (h : j < l.length), (l.flatMap stC)[j * 2]? = some (.string l[j].1) ∧ (l.flatMap stC)[j * 2 + 1]? = some (.int .i64 l[j].2)
 | [], j, h => absurd h (Nat.not_lt_zero _)
 | t :: l, 0, h => by simp [stC]
 | t :: l, j + 1, h => by
  have ih := st_get l j (by simpa using h)
  have e : ∀ r, ((t :: l).flatMap stC)[(j + 1) * 2 + r]? = (l.flatMap stC)[j * 2 + r]? := fun r => by
   rw [List.flatMap_cons, List.getElem?_append_right (by simp [stC]; omega)]
   congr 1
   simp [stC]
   omega
  have e0 := e 0
  rw [Nat.add_zero, Nat.add_zero] at e0
  rw [e0, e 1]
  exact ih
theorem liesP_own {w : World} {base : Nat} {v : Value} {K : List SK} (h : w.ownsRow base 50 2 v K.length (K.flatMap stC)) (hk : ∀ x ∈ K, x.1.size ≤ 9223372036854775807 ∧ -9223372036854775808 ≤ x.2 ∧ x.2 ≤ 9223372036854775807) : ∃ p c, v = .slice p K.length c ∧ K.length ≤ c ∧ LiesP w p (K.map stL) ∧ (∀ B o, p = some ⟨B, o, none⟩ → base ≤ B) := by
 have h' := h
 rcases h.2 with ⟨rfl, h0⟩ | ⟨g, cap, cur, rfl, hb, hg, hcap, _⟩
 ·have : K = [] := List.eq_nil_of_length_eq_zero h0
  subst this
  exact ⟨none, 0, rfl, by simp, fun h => absurd rfl h, fun B o e => by cases e⟩
 ·refine ⟨_, cap, rfl, hcap, fun _ => ⟨g, 0, rfl, (Array.getElem?_eq_some_iff.1 hg).1, fun j x hx => ?_⟩, fun B o e => by injection e with e; injection e with e; omega⟩
  obtain ⟨hj, hx⟩ := List.getElem?_eq_some_iff.1 hx
  rw [List.length_map] at hj
  rw [List.getElem_map] at hx
  subst hx
  obtain ⟨g0, g1⟩ := st_get K j hj
  have hm := hk K[j] (List.getElem_mem hj)
  refine ⟨K[j].1, rfl, hm.1, hm.2, ?_, ?_⟩
  ·rw [Nat.zero_add, h'.cellAt (j * 2) (by omega)]
   exact g0
  ·rw [Nat.zero_add, h'.cellAt (j * 2 + 1) (by omega)]
   exact g1
theorem cell_two_new (w : World) (x y : Value) (t : TypeId) : ∀ j u, [x, y][j]? = some u → (w.alloc (.cells #[x, y] t)).cell? ((⟨w.heap.size, 0, none⟩ : Addr).add j) = some u :=
 fun j u hu => World.news_of_block (blk_alloc w #[x, y] t) j u hu
theorem rd_go {n : Nat} {D : List St} {l : List UInt8} (h : l ≠ []) : rdF (n + 1) D l true = rdF n (D ++ [(cutS l).1]) (cutS l).2.1 (cutS l).2.2 := by
 conv => lhs; unfold rdF
 rw [if_pos ⟨rfl, h⟩]
theorem rd_bad (n : Nat) (D : List St) (l : List UInt8) : rdF n D l false = (D, false) := by
 cases n with
 | zero => rfl
 | succ n => unfold rdF; rw [if_neg (fun h => by cases h.1)]
theorem rd_nil (n : Nat) (D : List St) (ok : Bool) : rdF n D [] ok = (D, ok) := by
 cases n with
 | zero => rfl
 | succ n => unfold rdF; rw [if_neg (fun h => h.2 rfl)]
def lenS : Value → Nat
 | .slice _ n _ => n
 | _ => 0
theorem rdF_len : ∀ (n : Nat) (D : List St) (l : List UInt8) (ok : Bool), (rdF n D l ok).1.length ≤ D.length + n
 | 0, D, l, ok => Nat.le_refl _
 | n + 1, D, l, ok => by
  unfold rdF
  split
  ·have := rdF_len n (D ++ [(cutS l).1]) (cutS l).2.1 (cutS l).2.2
   simp only [List.length_append, List.length_cons, List.length_nil] at this
   omega
  ·dsimp only
   omega
theorem rd_len (l : List UInt8) : (rdP l).1.length ≤ 21 := by
 unfold rdP
 split
 ·exact rdF_len 21 [] _ true
 ·exact rdF_len 21 [] _ false
abbrev StepsW (x : List St × Bool) (w : World) (e : Ending) (w' : World) : Prop :=
 ∃ p c, e = .returned (.tuple #[.slice p x.1.length c, .bool x.2]) ∧ x.1.length ≤ c ∧ LiesP w' p x.1 ∧ Below w.heap.size w w'
theorem steps_loop (w : World) (s : ByteArray) (t : ByteArray) (ok : Bool) (hs : t.size ≤ 1073741824) (hp1 : Lib.trimPrefix s.data.toList [36] = t.data.toList) (hp2 : Lib.hasPrefix s.data.toList [36] = ok) (hT : Utf8W w) (hM : MaxP w) :
  Calls Tryd.prog 32 #[.string s] w (StepsW (rdF 21 [] t.data.toList ok) w) := by
 obtain ⟨i0, hi, hz0, hz1, hz2⟩ := info_parts infoStep
 have HT := hide hT
 have HM := hide hM
 clear hT hM
 go_enter Tryd.func32, Tryd.ntmps32
 go_wp2_with fail
 refine (Tryd.strings_CutPrefix s ⟨#[36]⟩ _).mono ?_
 rintro _ w0 ⟨rfl, rfl⟩
 rw [show (⟨#[36]⟩ : ByteArray).data.toList = [36] from rfl, hp1, hp2, show (⟨t.data.toList.toArray⟩ : ByteArray) = t from by simp]
 clear hp1 hp2
 obtain ⟨X, hX⟩ : ∃ X, X = rdF 21 [] t.data.toList ok := ⟨_, rfl⟩
 rw [← hX]
 have HX := hide hX
 clear hX
 go_wp2_with fail
 go_loopw [4, 5, 6] (fun r o v wr => ∃ (rest : ByteArray) (okb : Bool) (K : List SK) (n : Nat), r = .string rest ∧ o = .bool okb ∧ rest.size ≤ 1073741824 ∧ K.length + n = 21 ∧ Hid (rdF n (K.map stL) rest.data.toList okb = X) ∧ Hid (∀ x ∈ K, x.1.size ≤ 9223372036854775807 ∧ -9223372036854775808 ≤ x.2 ∧ x.2 ≤ 9223372036854775807) ∧ wr.ownsRow w0.heap.size 50 2 v K.length (K.flatMap stC) ∧ Below w0.heap.size w0 wr) (fun _ _ v _ => 21 - lenS v)
 case atStart => exact ⟨t, ok, [], 21, rfl, rfl, hs, rfl, hide HX.out.symm, hide (fun x hx => absurd hx (List.not_mem_nil)), World.ownsRow_nil _ _ _ _, Below.refl _ _⟩
 case round =>
  obtain ⟨rest, okb, K, n, rfl, rfl, hrs, hKn, HE, HK, hown, hbw⟩ := hrel
  have hlen := len_list rest
  cases okb with
  | false =>
   have HF : Hid (X = (K.map stL, false)) := hide (by rw [← HE.out, rd_bad])
   obtain ⟨p, c, rfl, hc, hL, _⟩ := liesP_own hown HK.out
   have HL := hide hL
   clear HE HK hown hL
   go_wp2
   go_ret2
   rw [← HX.out, HF.out]
   exact ⟨p, c, by simp only [List.length_map]; rfl, by simp only [List.length_map]; exact hc, HL.out, hbw⟩
  | true =>
   by_cases hz : rest.size = 0
   ·have hzl : rest.data.toList = [] := List.eq_nil_of_length_eq_zero (by omega)
    have HF : Hid (X = (K.map stL, true)) := hide (by rw [← HE.out, hzl, rd_nil])
    have he := escs.emptyYes rest hz
    obtain ⟨p, c, rfl, hc, hL, _⟩ := liesP_own hown HK.out
    have HL := hide hL
    clear HE HK hown hL hzl
    go_wp2
    go_ret2
    rw [← HX.out, HF.out]
    exact ⟨p, c, by simp only [List.length_map]; rfl, by simp only [List.length_map]; exact hc, HL.out, hbw⟩
   ·have he := escs.emptyNo rest (by omega)
    have hne : rest.data.toList ≠ [] := fun e => hz (by rw [← hlen, e]; rfl)
    cases n with
    | zero =>
     have HF : Hid (X = (K.map stL, true)) := hide HE.out.symm
     obtain ⟨p, c, rfl, hc, hL, _⟩ := liesP_own hown HK.out
     have HL := hide hL
     have g0 : ¬ (K.length : Int) ≤ 20 := by omega
     clear HE HK hown hL hne
     go_wp2
     go_ret2
     rw [← HX.out, HF.out]
     exact ⟨p, c, by simp only [List.length_map]; rfl, by simp only [List.length_map]; exact hc, HL.out, hbw⟩
    | succ n =>
     have hE2 := HE.out
     rw [rd_go hne] at hE2
     obtain ⟨r1, r2, r3, r4⟩ := cutS_room rest.data.toList
     have bA : Below w0.heap.size w0 (wr.alloc (.cells #[.string ⟨#[]⟩, .int .i64 0] 50)) := hbw.alloc hbw.size _
     have KS := hide (cutS_any (wr.alloc (.cells #[.string ⟨#[]⟩, .int .i64 0] 50)) rest hrs (Utf8Tabs_below HT.out bA) (HM.out.below bA))
     have hbT := blk_alloc wr #[.string ⟨#[]⟩, .int .i64 0] 50
     have hownA := hown.alloc (.cells #[.string ⟨#[]⟩, .int .i64 0] 50)
     obtain ⟨p, c, rfl, hc, _, _⟩ := liesP_own hown HK.out
     have g0 : (K.length : Int) ≤ 20 := by omega
     have hownb : ∀ g, (Value.slice p K.length c).ownBlock = some g → w0.heap.size ≤ g ∧ g < wr.heap.size := hown.lt
     have hTw : w0.heap.size ≤ wr.heap.size := hbw.size
     generalize hC : cutS rest.data.toList = C at *
     obtain ⟨⟨ck, ci⟩, cr, cb⟩ := C
     dsimp only at *
     have HE2 := hide hE2
     have HBT := hide hbT
     have HOA := hide hownA
     have HBA := hide bA
     have HOB := hide hownb
     clear hE2 hbT hownA bA hC HE hne hown hownb
     go_wp2_with fail
     refine (unhide KS).mono ?_
     rintro _ w1 ⟨⟨key, rs, k1, k2, rfl⟩, b1⟩
     have hr := HBT.out.below b1
     have hB1 := HBA.out.trans (b1.mono HBA.out.size)
     have hO1 := HOA.out.kept (row := none) ⟨b1.os, b1.tape, b1.output, b1.size, fun k hk _ => b1.block k hk⟩ (Classical.em _)
     have hsz1 : wr.heap.size < w1.heap.size := by have := b1.size; simp at this; omega
     have x0 := hr.cell 0 _ rfl
     have x1 := hr.cell 1 _ rfl
     simp only [List.getElem_toArray, List.getElem_cons_zero, List.getElem_cons_succ] at x0 x1
     have z0 := Blk.froz hr 0
     have z1 := Blk.froz hr 1
     have hY := put2_blk hr (.string key) (.int .i64 ci)
     have hF := below_put2 hB1 (b := wr.heap.size) hTw (.string key) (.int .i64 ci)
     have hO2 : (put2 w1 wr.heap.size (.string key) (.int .i64 ci)).ownsRow w0.heap.size 50 2 (.slice p K.length c) K.length (K.flatMap stC) := by
      refine hO1.kept (grown_trans (grown_set w1 wr.heap.size 0 (.string key)) (grown_set _ wr.heap.size 1 (.int .i64 ci))) ?_
      cases hv : (Value.slice p K.length c).ownBlock with
      | none => exact .inl rfl
      | some g => exact .inr (fun e => by injection e with e; have := HOB.out g hv; omega)
     have hS2 : (put2 w1 wr.heap.size (.string key) (.int .i64 ci)).heap.size = w1.heap.size := by simp [put2, World.setCell]
     have HH := hide (And.intro hY (And.intro hF (And.intro hO2 (And.intro hS2 (And.intro k1 (And.intro k2 hsz1))))))
     clear hr hB1 hO1 hY hF hO2 hS2 k1 k2 b1 HBT HOA HBA KS
     go_upto_region 6 with fail
     generalize hW2 : (w1.setCell ⟨wr.heap.size, 0, none⟩ (.string key)).setCell ⟨wr.heap.size, 1, none⟩ (.int .i64 ci) = W2
     obtain ⟨hY, hF, hO2, hS2, k1, k2, _⟩ := HH.out
     simp only [put2] at hY hF hO2 hS2
     rw [hW2] at hY hF hO2 hS2
     clear HH hW2 x0 x1 z0 z1
     have y0 := hY.cell 0 _ rfl
     have y1 := hY.cell 1 _ rfl
     simp only [List.getElem_toArray, List.getElem_cons_zero, List.getElem_cons_succ] at y0 y1
     have hkl := len_list key
     have hrl := len_list rs
     have HKK : Hid (key.data.toList = ck ∧ rs.data.toList = cr) := hide ⟨k1, k2⟩
     have hk3 : key.size ≤ 1073741824 := by rw [← hkl, k1]; omega
     have hk4 : rs.size ≤ 1073741824 := by rw [← hrl, k2]; omega
     have HFF := hide hF
     have HS2 := hide hS2
     clear hY k1 k2 hkl hrl hF hS2
     go_wp2_with (at_builtin; refine wpList_append_lies _ rfl _ _ 22 rfl w0.heap.size 50 i0 (.agg #[.string ⟨#[]⟩, .int .i64 0]) 2 24 Tryd.underlying22 hi hz0 hz1 hz2 rfl (by decide) _ _ _ rfl (hO2.alloc _) ⟨W2.heap.size, 0, none⟩ 1 1 [.string key, .int .i64 ci] rfl rfl ?c1 ?c2 ?c3 ?c4 ?c5 ?c6 (W2.heap.size + 1) ?c7 ?_)
     case c1 => exact cell_two_new _ _ _ _
     case c2 => intro u hu; simp at hu; rcases hu with rfl | rfl <;> rfl
     case c3 => decide
     case c4 => unfold maxLen; omega
     case c5 => omega
     case c6 => have := HFF.out.size; simp; omega
     case c7 => simp
     intro g cap w2 hown2 hg2 hat hlt2
     have hbw2 : Below w0.heap.size w0 w2 := (HFF.out.alloc HFF.out.size _).grown hg2 (by have := HFF.out.size; simp; omega) (fun x hx => by have := HOB.out x hx; omega)
     clear hg2 hat hO2 HFF y0 y1
     go_wp2
     go_roundw
     case rel =>
      refine ⟨rs, cb, K ++ [(key, ci)], n, rfl, rfl, hk4, by simp; omega, hide ?_, hide ?_, ?_, hbw2⟩
      ·rw [List.map_append, HKK.out.2]
       show rdF n (K.map stL ++ [(key.data.toList, ci)]) cr cb = X
       rw [HKK.out.1]
       exact HE2.out
      ·intro x hx
       rcases List.mem_append.1 hx with hx | hx
       ·exact HK.out x hx
       ·obtain rfl := List.mem_singleton.1 hx
        exact ⟨by show key.size ≤ _; omega, r3, r4⟩
      ·rw [List.flatMap_append, List.length_append]
       exact hown2
     case measure => simp only [lenS]; omega
theorem trim36 (s : ByteArray) : Lib.trimPrefix s.data.toList [36] = (if s.data.toList.head? = some 36 then s.data.toList.drop 1 else s.data.toList) ∧ Lib.hasPrefix s.data.toList [36] = decide (s.data.toList.head? = some 36) := by
 cases h : s.data.toList with
 | nil => exact ⟨rfl, rfl⟩
 | cons b l =>
  by_cases e : b = 36
  ·subst e; exact ⟨rfl, rfl⟩
  ·have : ¬ (36 : UInt8) = b := fun x => e x.symm
   have n2 : ¬ some b = some (36 : UInt8) := fun x => e (by injection x)
   simp [Lib.trimPrefix, Lib.hasPrefix, List.isPrefixOf, e, this]
theorem steps_any (w : World) (s : ByteArray) (hs : s.size ≤ 1073741824) (hT : Utf8W w) (hM : MaxP w) :
  Calls Tryd.prog 32 #[.string s] w (StepsW (rdP s.data.toList) w) := by
 obtain ⟨t1, t2⟩ := trim36 s
 by_cases h : s.data.toList.head? = some 36
 ·rw [if_pos h] at t1
  rw [decide_eq_true h] at t2
  have e : rdP s.data.toList = rdF 21 [] (s.data.toList.drop 1) true := by
   cases h2 : s.data.toList with
   | nil => rw [h2] at h; cases h
   | cons b l =>
    rw [h2] at h
    injection h with h
    subst h
    rfl
  have hk := ext_drop s 1
  have := steps_loop w s (s.extract 1 s.size) true (by rw [ByteArray.size_extract]; omega) (by rw [t1, hk]) t2 hT hM
  rw [hk] at this
  rw [e]
  exact this
 ·rw [if_neg h] at t1
  rw [decide_eq_false h] at t2
  have e : rdP s.data.toList = rdF 21 [] s.data.toList false := by
   unfold rdP
   split
   ·rename_i q
    rw [q] at h
    exact absurd rfl h
   ·rfl
  rw [e]
  exact steps_loop w s s false hs t1 t2 hT hM
theorem fin_yes {l : List UInt8} {P : List St} (h : rdP l = (P, true)) (h1 : chkP P = 0) (h2 : pathT P = l) : ReadTo l (.inl P) := by
 unfold ReadTo
 rw [h]
 exact .inl ⟨rfl, rfl, h1, h2⟩
theorem fin_no {l : List UInt8} {P : List St} {ok : Bool} (h : rdP l = (P, ok)) (h1 : ok = false ∨ chkP P ≠ 0 ∨ pathT P ≠ l) : ReadTo l (.inr ()) := by
 unfold ReadTo
 rw [h]
 exact .inr ⟨rfl, h1⟩
abbrev ReadW (l : List UInt8) (w : World) (e : Ending) (w' : World) : Prop :=
 ((∃ P p c, e = .returned (.tuple #[.slice p P.length c, .int .i64 0]) ∧ P.length ≤ c ∧ LiesP w' p P ∧ ReadTo l (.inl P)) ∨ (e = .returned (.tuple #[.slice none 0 0, .int .i64 4]) ∧ ReadTo l (.inr ()))) ∧ Below w.heap.size w w'
theorem read_any (w : World) (s : ByteArray) (hs : s.size ≤ 1073741824) (hT : PTabs w) (hM : MaxP w) :
  Calls Tryd.prog 10 #[.string s] w (ReadW s.data.toList w) := by
 have KS := hide (steps_any w s hs hT.esc.utf hM)
 have hl21 : (rdP s.data.toList).1.length ≤ 21 := rd_len _
 obtain ⟨D, hD⟩ : ∃ D, rdP s.data.toList = D := ⟨_, rfl⟩
 rw [hD] at KS hl21
 obtain ⟨P, ok⟩ := D
 dsimp only at *
 have HD := hide hD
 clear hD
 have HT := hide hT
 clear hT hM
 go_enter Tryd.func10, Tryd.ntmps10
 go_wp2_with fail
 refine (unhide KS).mono ?_
 rintro _ w1 ⟨p, c, rfl, hc, hL, b1⟩
 clear KS
 cases ok with
 | false =>
  have B1 := hide b1
  clear b1 hL
  go_wp2
  go_ret2
  exact ⟨.inr ⟨rfl, fin_no HD.out (.inl rfl)⟩, B1.out⟩
 | true =>
  have KT := hide (text_any w1 p c P hL (by omega) (HT.out.below b1))
  have HL := hide hL
  have B1 := hide b1
  clear b1 hL
  go_wp2_with fail
  refine (unhide KT).mono ?_
  rintro _ w2 ⟨rfl, b2⟩
  have B2 := hide (B1.out.trans (b2.mono B1.out.size))
  have L2 := hide (HL.out.keep b2)
  clear KT b2 HL B1
  by_cases e : chkP P = 0
  ·have ht : txtT P = pathT P := by unfold txtT; rw [if_pos e]
   rw [ht, e]
   by_cases hq : pathT P = s.data.toList
   ·have hs2 : (pathT P == s.toList) = true := by rw [ByteArray.toList_eq]; exact beq_iff_eq.2 hq
    have HQ := hide (And.intro e hq)
    clear ht hq e
    go_wp2
    go_ret2
    exact ⟨.inl ⟨P, p, c, rfl, hc, L2.out, fin_yes HD.out HQ.out.1 HQ.out.2⟩, B2.out⟩
   ·have hs2 : (pathT P == s.toList) = false := by rw [ByteArray.toList_eq]; exact beq_eq_false_iff_ne.2 hq
    have HQ := hide hq
    clear ht hq e
    go_wp2
    go_ret2
    exact ⟨.inr ⟨rfl, fin_no HD.out (.inr (.inr HQ.out))⟩, B2.out⟩
  ·have e1 : (chkP P != 0) = true := bne_iff_ne.2 e
   have HQ := hide e
   clear e
   generalize txtT P = tx
   go_wp2
   go_ret2
   exact ⟨.inr ⟨rfl, fin_no HD.out (.inr (.inl HQ.out))⟩, B2.out⟩
end Go.Proofs.YticcibefchffmaaDoor.paths
