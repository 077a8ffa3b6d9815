/- Of our texts, what this claim reaches. -/
import Derived.Test.YtadaehaemmelfaaDoorCards
import Derived.Test.YtadaehaemmelfaaDoorTie
import Derived.Test.YtadaehaemmelfaaDoorPabAI
import Derived.Test.YtadaehaemmelfaaDoorPabAO
import Derived.Lib.LaidU8T
import Derived.Lib.LaidTab
import Derived.HandedShaped
import Derived.Shelf.Vars
import Derived.Test.YtadaehaemmelfaaDoorPabAC
import Derived.Lib.SliceRun
import Derived.WalkKit
set_option linter.unusedVariables false
set_option maxHeartbeats 8000000
set_option maxRecDepth 100000
namespace Go.Proofs.YtadaehaemmelfaaDoor.frame
open Go.ChangeShapes Go.WideShapes Go.ChangeAt Go.RowKit
open paths
theorem u8Types : U8Types Tryd.prog Tryd.lays197_ren := { Tryd.lays197 with }
theorem u8Extra : U8Extra Tryd.prog Tryd.lays197_ren := ⟨by kernel_rfl, by kernel_rfl, by kernel_rfl, by kernel_rfl, by kernel_rfl, by kernel_rfl, by kernel_rfl⟩
theorem accept_eq : Rows.laid_unicode_utf8_acceptRanges = Lib.acceptData := by kernel_rfl
theorem tabsU {W : World} (h : laidMetH Tryd.prog Rows.pathLeadsUptoRow.laid W) : Utf8W W := by
 rw [MakeChecks.laidMetH_plain _ _ _ (by kernel_rfl)] at h
 exact utf8Tabs_of_readsT u8Types u8Extra (Pinned.utf8First_eq ▸ Lib.laidMet.reads h (.tail _ (.head _))) (accept_eq ▸ Lib.laidMet.reads h (.head _))
theorem step_under : ∃ fS, Tryd.prog.underlying 60 = some (.struct fS) ∧ (∃ f, fS[0]? = some f ∧ f.offset = 0 ∧ f.type = 9) ∧ (∃ f, fS[1]? = some f ∧ f.offset = 1 ∧ f.type = 3) :=
 ⟨_, Tryd.underlying60, ⟨_, rfl, rfl, rfl⟩, ⟨_, rfl, rfl, rfl⟩⟩
theorem step_cells : Tryd.prog.cellsOf 60 = 2 := by kernel_rfl
theorem str_cells : Tryd.prog.cellsOf 9 = 1 := by kernel_rfl
theorem int_cells : Tryd.prog.cellsOf 3 = 1 := by kernel_rfl
/-- A path that came in. -/
theorem steps_in {H : Type} {enc : TypeId × Value → H} {W : World} {a : Option Addr} {n c : Nat} {d : DataW H} {p : List MemPlace}
  (h : DataW.Trod enc Tryd.prog W 0 (fun _ => true) true 27 (.slice a n c) d p) :
  ∃ P : List St, n = P.length ∧ P.length ≤ c ∧ c ≤ maxLen ∧ LiesP W a P ∧ (a = none → c = 0) := by
 obtain ⟨fuel, hf⟩ := h
 have hnil : a = none → c = 0 := by
  intro ha
  have hf' : DataW.trod enc Tryd.prog W 0 (fun _ => true) true fuel 27 [.slice a n c] = some (d, p) := hf
  rcases DataW.trod_slice Tryd.underlying27 hf' with ⟨e, _⟩ | ⟨a', len, cap, elems, rest, m, _, e, _⟩
  ·injection e with e
   injection e with _ _ e
  ·injection e with e
   injection e with e
   rw [ha] at e
   cases e
 obtain ⟨fS, hS, s0, s1⟩ := step_under
 obtain ⟨p5, l5, a5, n5, es5, e5, b5, m5, k5, q5, el5, sm5, r5⟩ := valus.rowB (bk := Rows.uptoBulk) bulk_slice (d := 2) (by omega) Tryd.underlying27 step_cells hf
 have he' : [Value.slice a n c] = [Value.slice p5 l5 a5] := e5
 simp only [List.cons.injEq, Value.slice.injEq, and_true] at he'
 obtain ⟨rfl, rfl, rfl⟩ := he'
 by_cases hz : n = 0
 ·subst hz
  exact ⟨[], rfl, b5, m5, fun h => absurd rfl h, hnil⟩
 ·obtain ⟨B, o, hp, hok, hlt, hr⟩ := r5 hz
  obtain ⟨P, hP, hq⟩ := valus.pick (Q := fun j (x : St) => ∃ key : ByteArray, key.data.toList = x.1 ∧ key.size ≤ 9223372036854775807 ∧ (-9223372036854775808 ≤ x.2 ∧ x.2 ≤ 9223372036854775807) ∧ W.cell? ⟨B, o + j * 2, none⟩ = some (.string key) ∧ W.cell? ⟨B, o + j * 2 + 1, none⟩ = some (.int .i64 x.2)) n (fun j hj => by
   obtain ⟨us, u1, u2, y, u7, u3⟩ := hr j hj
   obtain ⟨ys, n', hn', hy', _, hys, hg⟩ := DataW.trod_struct hS u3
   obtain ⟨y0, _, g0⟩ := valus.fieldB hys hg s0
   obtain ⟨y1, _, g1⟩ := valus.fieldB hys hg s1
   rw [str_cells] at g0
   rw [int_cells] at g1
   match us, u1 with
   | [d0, d1], u1 =>
    obtain ⟨key, ek, _, wk⟩ := DataW.trod_string Tryd.underlying9 g0
    obtain ⟨z, ez, _, wz⟩ := DataW.trod_int Tryd.underlying3 g1
    simp only [List.drop, List.take] at ek ez
    injection ek with ek
    injection ez with ez
    subst ek ez
    have bz := bounds_i64 wz
    have c0 := u2 0 (by omega)
    have c1 := u2 1 (by omega)
    refine ⟨(key.data.toList, z), key, rfl, by unfold maxLen at wk; omega, bz, ?_, ?_⟩
    ·rw [Nat.add_zero] at c0; exact c0
    ·exact c1)
  subst hP
  exact ⟨P, rfl, b5, m5, fun _ => ⟨B, o, hp, hlt, fun j x hx => hq j x hx⟩, hnil⟩
theorem sumB_ge {H : Type} : ∀ l : List (DataW H), (∀ d ∈ l, 1 ≤ Rows.uptoBulk d) → l.length ≤ valus.sumB Rows.uptoBulk l
 | [], _ => Nat.le_refl _
 | d :: r, h => by
  have h1 := h d List.mem_cons_self
  have h2 := sumB_ge r (fun x hx => h x (List.mem_cons_of_mem _ hx))
  show r.length + 1 ≤ Rows.uptoBulk d + valus.sumB Rows.uptoBulk r
  omega
theorem steps_few {H : Type} {enc : TypeId × Value → H} {W : World} {a : Option Addr} {n c : Nat} {d : DataW H} {p : List MemPlace}
  (h : DataW.Trod enc Tryd.prog W 0 (fun _ => true) true 27 (.slice a n c) d p) : n ≤ Rows.uptoBulk d := by
 obtain ⟨fuel, hf⟩ := h
 obtain ⟨fS, hS, s0, s1⟩ := step_under
 obtain ⟨p5, l5, a5, n5, es5, e5, b5, m5, k5, q5, el5, sm5, r5⟩ := valus.rowB (bk := Rows.uptoBulk) bulk_slice (d := 2) (by omega) Tryd.underlying27 step_cells hf
 have he' : [Value.slice a n c] = [Value.slice p5 l5 a5] := e5
 simp only [List.cons.injEq, Value.slice.injEq, and_true] at he'
 obtain ⟨rfl, rfl, rfl⟩ := he'
 have hge : (es5.map (·.1)).length ≤ valus.sumB Rows.uptoBulk (es5.map (·.1)) := sumB_ge _ (fun x hx => by
  obtain ⟨y, hy, rfl⟩ := List.mem_map.1 hx
  obtain ⟨j, hj, rfl⟩ := List.getElem_of_mem hy
  obtain ⟨B, o, hp, hok, hlt, hr⟩ := r5 (by omega)
  obtain ⟨us, u1, u2, y, u7, u3⟩ := hr j (by omega)
  rw [List.getElem?_eq_getElem hj] at u7
  injection u7 with u7
  obtain ⟨ys, n', hn', hy', _, _, _⟩ := DataW.trod_struct hS u3
  rw [u7, hy']
  have := bulk_agg (ys.map (·.1))
  show 1 ≤ Rows.uptoBulk (.agg (ys.map (·.1)))
  omega)
 rw [List.length_map] at hge
 have sm : valus.sumB Rows.uptoBulk (es5.map (·.1)) ≤ Rows.uptoBulk d := sm5
 omega
end Go.Proofs.YtadaehaemmelfaaDoor.frame
namespace Go.Proofs.YtadaehaemmelfaaDoor.paths
open Go.RowKit
open utfs (hide unhide)
open valus (Blk blk_alloc)
theorem add_cellP (b o j : Nat) : (⟨b, o, none⟩ : Addr).add j = ⟨b, o + j, none⟩ := by
 unfold Addr.add
 split <;> simp_all
theorem st_flat_len : ∀ K : List SK, (K.flatMap stC).length = K.length * 2
 | [] => rfl
 | x :: K => by
  rw [List.flatMap_cons, List.length_append, st_flat_len K, List.length_cons]
  show 2 + _ = _
  omega
theorem st_one (K : List SK) : ∀ u ∈ K.flatMap stC, u.oneCell' = true := fun u hu => by
 obtain ⟨x, _, hu⟩ := List.mem_flatMap.1 hu
 simp only [stC, List.mem_cons, List.not_mem_nil, or_false] at hu
 rcases hu with rfl | rfl <;> rfl
abbrev SkOk (K : List SK) : Prop := ∀ x ∈ K, x.1.size ≤ 9223372036854775807 ∧ -9223372036854775808 ≤ x.2 ∧ x.2 ≤ 9223372036854775807
theorem LiesP.sk {w : World} {p : Option Addr} {P : List St} (h : LiesP w p P) : ∃ K : List SK, K.map stL = P ∧ SkOk K ∧ (P.length ≠ 0 → ∃ b o, p = some ⟨b, o, none⟩ ∧ b < w.heap.size ∧ ∀ j u, (K.flatMap stC)[j]? = some u → w.cell? ⟨b, o + j, none⟩ = some u) := by
 by_cases hz : P.length = 0
 ·have : P = [] := List.eq_nil_of_length_eq_zero hz
  subst this
  exact ⟨[], rfl, fun x hx => absurd hx (List.not_mem_nil), fun h => absurd rfl h⟩
 ·obtain ⟨B, o, e, hB, hc⟩ := h hz
  obtain ⟨K, hK, hq⟩ := valus.pick (Q := fun j (x : SK) => P[j]? = some (stL x) ∧ (x.1.size ≤ 9223372036854775807 ∧ -9223372036854775808 ≤ x.2 ∧ x.2 ≤ 9223372036854775807) ∧ w.cell? ⟨B, o + j * 2, none⟩ = some (.string x.1) ∧ w.cell? ⟨B, o + j * 2 + 1, none⟩ = some (.int .i64 x.2)) P.length (fun j hj => by
   obtain ⟨key, k1, k2, k3, k4, k5⟩ := hc j _ (List.getElem?_eq_getElem hj)
   exact ⟨(key, (P[j]).2), by rw [List.getElem?_eq_getElem hj]; show _ = some (key.data.toList, (P[j]).2); rw [k1], ⟨k2, k3⟩, k4, k5⟩)
  refine ⟨K, ?_, fun x hx => ?_, fun _ => ⟨B, o, e, hB, fun j u hu => ?_⟩⟩
  ·apply List.ext_getElem?
   intro j
   rw [List.getElem?_map]
   by_cases hj : j < K.length
   ·rw [List.getElem?_eq_getElem hj]
    exact (hq j K[j] (List.getElem?_eq_getElem hj)).1.symm
   ·rw [List.getElem?_eq_none (by omega), List.getElem?_eq_none (by omega)]
    rfl
  ·obtain ⟨j, hj, rfl⟩ := List.getElem_of_mem hx
   exact (hq j K[j] (List.getElem?_eq_getElem hj)).2.1
  ·have hj : j < K.length * 2 := by
    rw [← st_flat_len]
    exact (List.getElem?_eq_some_iff.1 hu).1
   have hd : j / 2 < K.length := by omega
   obtain ⟨_, _, c0, c1⟩ := hq (j / 2) K[j / 2] (List.getElem?_eq_getElem hd)
   obtain ⟨g0, g1⟩ := st_get K (j / 2) hd
   by_cases h2 : j % 2 = 0
   ·have e2 : j = j / 2 * 2 := by omega
    rw [e2, g0] at hu
    rw [e2, c0, hu]
   ·have e2 : j = j / 2 * 2 + 1 := by omega
    rw [e2, g1] at hu
    rw [e2, ← Nat.add_assoc, c1, hu]
theorem cloneS_any (w : World) (p : Option Addr) (c : Nat) (P : List St) (K : List SK) (hK : K.map stL = P) (hl : P.length ≤ 20000) (hrow : P.length ≠ 0 → ∃ b o, p = some ⟨b, o, none⟩ ∧ b < w.heap.size ∧ ∀ j u, (K.flatMap stC)[j]? = some u → w.cell? ⟨b, o + j, none⟩ = some u) :
  Calls Tryd.prog 47 #[.slice p P.length c] w fun e w' => ∃ v, e = .returned v ∧ w'.ownsRow w.heap.size 60 2 v K.length (K.flatMap stC) ∧ Below w.heap.size w w' := by
 obtain ⟨i0, hinf, hz0, hz1, hz2⟩ := info_parts infoStep
 have q22 : ∀ (w : World) (a : Option Addr) (n c n' c' : Nat), (binOp .eql 27 (.slice a n c) (.slice none n' c')).run Tryd.prog w = .ok (.bool a.isNone) w := fun w a n c n' c' => Lib.run_eql_slice_nil w _ _ a n c n' c' Tryd.underlying27
 have hKl : K.length = P.length := by rw [← hK, List.length_map]
 by_cases hle : P.length = 0
 ·have hK0 : K = [] := List.eq_nil_of_length_eq_zero (by omega)
  have hP0 : P = [] := List.eq_nil_of_length_eq_zero hle
  subst hK0 hP0
  clear hrow hK
  cases p with
  | none =>
   go_enter Tryd.func47, Tryd.ntmps47
   go_wp2
   go_ret
   exact ⟨_, rfl, World.ownsRow_nil _ _ _ _, Below.refl _ _⟩
  | some ad =>
   have ho := World.ownsRow_lit (base := w.heap.size) (e := 60) (size := 2) w #[] 0 (Nat.le_refl _) (by decide) rfl
   have HO := hide ho
   have HB := hide ((Below.refl _ w).alloc (Nat.le_refl _) (.cells #[] 60))
   clear ho
   go_enter Tryd.func47, Tryd.ntmps47
   go_wp2_with (at_builtin; refine wpList_append_fits _ rfl _ _ 27 rfl w.heap.size 60 i0 2 Tryd.underlying27 hinf hz1 _ 0 0 [] rfl (unhide HO) ad 0 c [] rfl rfl (fun j u hu => by simp at hu) (fun u hu => by cases hu) (Nat.le_refl _) ?_)
   intro wx hown2 hg2
   have HX := hide hown2
   have BX := hide ((unhide HB).grown hg2 (by simp) (fun k hk => by injection hk with hk; omega))
   clear hown2 hg2 HO HB
   go_wp2
   go_ret
   exact ⟨_, rfl, unhide HX, unhide BX⟩
 ·obtain ⟨b, o, rfl, hbl, hc⟩ := hrow hle
  have hlp : 0 < P.length := by omega
  have ho := World.ownsRow_lit (base := w.heap.size) (e := 60) (size := 2) w #[] 0 (Nat.le_refl _) (by decide) rfl
  have hfl := st_flat_len K
  rw [hKl] at hfl
  have hnews : ∀ (j : Nat) (u : Value), (K.flatMap stC)[j]? = some u → (w.alloc (.cells #[] 60)).cell? ((⟨b, o, none⟩ : Addr).add j) = some u := fun j u hu => by
   rw [add_cellP, World.cell?_of_block (w := w) (w' := w.alloc (.cells #[] 60)) (a := ⟨b, o + j, none⟩) (Below.heap_alloc _ _ _ hbl)]
   exact hc j u hu
  have HN := hide hnews
  have H1 := hide (st_one K)
  have HB := hide ((Below.refl _ w).alloc (Nat.le_refl _) (.cells #[] 60))
  have HKL := hide hKl
  clear hK hrow hc hnews hKl
  generalize K.flatMap stC = xs at *
  go_enter Tryd.func47, Tryd.ntmps47
  go_wp2_with (at_builtin; refine wpList_append_lies _ rfl _ _ 27 rfl w.heap.size 60 i0 (.agg #[.string ⟨#[]⟩, .int .i64 0]) 2 24 Tryd.underlying27 hinf hz0 hz1 hz2 rfl (by decide) _ _ _ rfl ho ⟨b, o, none⟩ P.length c xs rfl hfl (unhide HN) (unhide H1) hlp (by unfold maxLen; omega) (by omega) (by simp) (w.heap.size + 1) (by simp) ?_)
  intro g cap' wx hown2 hg2 hat hlt2
  have HO := hide hown2
  have BX := hide ((unhide HB).grown hg2 (by simp) (fun k hk => by have := (ho.lt k hk).1; omega))
  clear hown2 hg2 hat hlt2 HB HN H1
  go_wp2
  go_ret
  refine ⟨_, rfl, ?_, unhide BX⟩
  rw [HKL.out]
  exact unhide HO
end Go.Proofs.YtadaehaemmelfaaDoor.paths
