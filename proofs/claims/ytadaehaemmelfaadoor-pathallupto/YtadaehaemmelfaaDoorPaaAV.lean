/- Of our texts, what this claim reaches. -/
import Derived.Test.YtadaehaemmelfaaDoorCards
import Derived.Test.YtadaehaemmelfaaDoorTie
import Derived.Test.YtadaehaemmelfaaDoorPaaAI
import Derived.Test.YtadaehaemmelfaaDoorPaaAU
import Derived.Lib.LaidU8T
import Derived.Lib.LaidTab
import Derived.HandedShaped
import Derived.Shelf.Vars
import Derived.Test.YtadaehaemmelfaaDoorPaaAC
import Derived.Lib.SliceRun
import Derived.WalkKit
set_option linter.unusedVariables false
set_option maxHeartbeats 8000000
set_option maxRecDepth 100000
namespace Go.Proofs.YtadaehaemmelfaaDoor.frame
open Go.ChangeShapes Go.WideShapes Go.ChangeAt Go.RowKit
open paths
open bigs (bru64)
theorem laid_reads {P : Program} {w : World} : ∀ {l : List (String × DataW Unit)} {ps : List MemPlace}, DataW.LaidVars P w l ps → ∀ n d, (n, d) ∈ l → ∃ g t cs fuel p, P.globalNamed n = some g ∧ (P.globals[g]?).map (·.type) = some t ∧ w.var? P n = some cs ∧ DataW.trod (fun _ => ()) P w 0 (fun _ => true) false fuel t cs.toList = some (d, p)
 | [], _, _, _, _, hm => by cases hm
 | (n', d') :: r, ps, h, n, d, hm => by
  obtain ⟨g, t, cs, fuel, p, q, h1, h2, h3, h4, h5, _⟩ := h
  rcases List.mem_cons.1 hm with e | e
  ·cases e
   exact ⟨g, t, cs, fuel, p, h1, h2, h3, h4⟩
  ·exact laid_reads h5 n d e
theorem tab_of {P : Program} {W : World} {l : List (String × DataW Unit)} {name : String} {k : IntKind} {zs : List Int} {g : Nat} {t e : TypeId} {n : Nat} {d : DataW Unit}
  (h : laidMet P l W) (hm : (name, d) ∈ l) (hd : d = Lib.tabData k zs) (hg : P.globalNamed name = some g) (hty : (P.globals[g]?).map (·.type) = some t) (ht : P.underlying t = some (.array n e)) (he : P.underlying e = some (.int k)) (hce : P.cellsOf e = 1) (hct : P.cellsOf t = n) : Lib.TabIs P W name k zs := by
 obtain ⟨_, hv, _⟩ := h
 obtain ⟨g', t', cs, fuel, p, hg', ht', hvar, htr⟩ := laid_reads hv name d hm
 obtain rfl := Option.some.inj (hg.symm.trans hg')
 obtain rfl := Option.some.inj (hty.symm.trans ht')
 rw [hd] at htr
 unfold Lib.TabIs
 rw [hvar, ← Lib.cells_of_tab ht he hce hct htr]
theorem u8Types : U8Types Tryd.prog Tryd.lays197_ren := { Tryd.lays197 with }
theorem u8Extra : U8Extra Tryd.prog Tryd.lays197_ren := ⟨by kernel_rfl, by kernel_rfl, by kernel_rfl, by kernel_rfl, by kernel_rfl, by kernel_rfl, by kernel_rfl⟩
theorem accept_eq : Rows.laid_unicode_utf8_acceptRanges = Lib.acceptData := by kernel_rfl
theorem tabsP {W : World} (h : laidMetH Tryd.prog Rows.pathAllUptoRow.laid W) : PTabs W := by
 rw [MakeChecks.laidMetH_plain _ _ _ (by kernel_rfl)] at h
 have e1 : (Rows.laid_internal_strconv_uint64pow10 : DataW Unit) = Lib.tabData .u64 Lib.pow10Tab := by kernel_rfl
 have e2 : (Rows.laid_math_bits_deBruijn64tab : DataW Unit) = Lib.tabData .u8 bru64 := by kernel_rfl
 have hu := utf8Tabs_of_readsT u8Types u8Extra (Pinned.utf8First_eq ▸ Lib.laidMet.reads h (.tail _ (.tail _ (.tail _ (.tail _ (.head _)))))) (accept_eq ▸ Lib.laidMet.reads h (.tail _ (.tail _ (.tail _ (.head _)))))
 have h64 := tab_of h (.tail _ (.head _)) e2 (g := 4) (by kernel_rfl) (t := 175) (by kernel_rfl) (n := 64) (e := 5) (by kernel_rfl) (by kernel_rfl) (by kernel_rfl) (by kernel_rfl)
 have hpw := tab_of h (.tail _ (.tail _ (.head _))) e1 (g := 0) (by kernel_rfl) (t := 163) (by kernel_rfl) (n := 20) (e := 22) (by kernel_rfl) (by kernel_rfl) (by kernel_rfl) (by kernel_rfl)
 exact ⟨⟨hu, h64⟩, ⟨hpw, h64⟩⟩
end Go.Proofs.YtadaehaemmelfaaDoor.frame
namespace Go.Proofs.YtadaehaemmelfaaDoor.paths
open Go.RowKit
open utfs (hide unhide)
open valus (Blk blk_alloc)
theorem add_cellP (b o j : Nat) : (⟨b, o, none⟩ : Addr).add j = ⟨b, o + j, none⟩ := by
 unfold Addr.add
 split <;> simp_all
theorem st_flat_len : ∀ K : List SK, (K.flatMap stC).length = K.length * 2
 | [] => rfl
 | x :: K => by
  rw [List.flatMap_cons, List.length_append, st_flat_len K, List.length_cons]
  show 2 + _ = _
  omega
theorem st_one (K : List SK) : ∀ u ∈ K.flatMap stC, u.oneCell' = true := fun u hu => by
 obtain ⟨x, _, hu⟩ := List.mem_flatMap.1 hu
 simp only [stC, List.mem_cons, List.not_mem_nil, or_false] at hu
 rcases hu with rfl | rfl <;> rfl
abbrev SkOk (K : List SK) : Prop := ∀ x ∈ K, x.1.size ≤ 9223372036854775807 ∧ -9223372036854775808 ≤ x.2 ∧ x.2 ≤ 9223372036854775807
theorem cloneS_any (w : World) (p : Option Addr) (c : Nat) (P : List St) (K : List SK) (hK : K.map stL = P) (hl : P.length ≤ 20000) (hrow : P.length ≠ 0 → ∃ b o, p = some ⟨b, o, none⟩ ∧ b < w.heap.size ∧ ∀ j u, (K.flatMap stC)[j]? = some u → w.cell? ⟨b, o + j, none⟩ = some u) :
  Calls Tryd.prog 47 #[.slice p P.length c] w fun e w' => ∃ v, e = .returned v ∧ w'.ownsRow w.heap.size 60 2 v K.length (K.flatMap stC) ∧ Below w.heap.size w w' := by
 obtain ⟨i0, hinf, hz0, hz1, hz2⟩ := info_parts infoStep
 have q22 : ∀ (w : World) (a : Option Addr) (n c n' c' : Nat), (binOp .eql 27 (.slice a n c) (.slice none n' c')).run Tryd.prog w = .ok (.bool a.isNone) w := fun w a n c n' c' => Lib.run_eql_slice_nil w _ _ a n c n' c' Tryd.underlying27
 have hKl : K.length = P.length := by rw [← hK, List.length_map]
 by_cases hle : P.length = 0
 ·have hK0 : K = [] := List.eq_nil_of_length_eq_zero (by omega)
  have hP0 : P = [] := List.eq_nil_of_length_eq_zero hle
  subst hK0 hP0
  clear hrow hK
  cases p with
  | none =>
   go_enter Tryd.func47, Tryd.ntmps47
   go_wp2
   go_ret
   exact ⟨_, rfl, World.ownsRow_nil _ _ _ _, Below.refl _ _⟩
  | some ad =>
   have ho := World.ownsRow_lit (base := w.heap.size) (e := 60) (size := 2) w #[] 0 (Nat.le_refl _) (by decide) rfl
   have HO := hide ho
   have HB := hide ((Below.refl _ w).alloc (Nat.le_refl _) (.cells #[] 60))
   clear ho
   go_enter Tryd.func47, Tryd.ntmps47
   go_wp2_with (at_builtin; refine wpList_append_fits _ rfl _ _ 27 rfl w.heap.size 60 i0 2 Tryd.underlying27 hinf hz1 _ 0 0 [] rfl (unhide HO) ad 0 c [] rfl rfl (fun j u hu => by simp at hu) (fun u hu => by cases hu) (Nat.le_refl _) ?_)
   intro wx hown2 hg2
   have HX := hide hown2
   have BX := hide ((unhide HB).grown hg2 (by simp) (fun k hk => by injection hk with hk; omega))
   clear hown2 hg2 HO HB
   go_wp2
   go_ret
   exact ⟨_, rfl, unhide HX, unhide BX⟩
 ·obtain ⟨b, o, rfl, hbl, hc⟩ := hrow hle
  have hlp : 0 < P.length := by omega
  have ho := World.ownsRow_lit (base := w.heap.size) (e := 60) (size := 2) w #[] 0 (Nat.le_refl _) (by decide) rfl
  have hfl := st_flat_len K
  rw [hKl] at hfl
  have hnews : ∀ (j : Nat) (u : Value), (K.flatMap stC)[j]? = some u → (w.alloc (.cells #[] 60)).cell? ((⟨b, o, none⟩ : Addr).add j) = some u := fun j u hu => by
   rw [add_cellP, World.cell?_of_block (w := w) (w' := w.alloc (.cells #[] 60)) (a := ⟨b, o + j, none⟩) (Below.heap_alloc _ _ _ hbl)]
   exact hc j u hu
  have HN := hide hnews
  have H1 := hide (st_one K)
  have HB := hide ((Below.refl _ w).alloc (Nat.le_refl _) (.cells #[] 60))
  have HKL := hide hKl
  clear hK hrow hc hnews hKl
  generalize K.flatMap stC = xs at *
  go_enter Tryd.func47, Tryd.ntmps47
  go_wp2_with (at_builtin; refine wpList_append_lies _ rfl _ _ 27 rfl w.heap.size 60 i0 (.agg #[.string ⟨#[]⟩, .int .i64 0]) 2 24 Tryd.underlying27 hinf hz0 hz1 hz2 rfl (by decide) _ _ _ rfl ho ⟨b, o, none⟩ P.length c xs rfl hfl (unhide HN) (unhide H1) hlp (by unfold maxLen; omega) (by omega) (by simp) (w.heap.size + 1) (by simp) ?_)
  intro g cap' wx hown2 hg2 hat hlt2
  have HO := hide hown2
  have BX := hide ((unhide HB).grown hg2 (by simp) (fun k hk => by have := (ho.lt k hk).1; omega))
  clear hown2 hg2 hat hlt2 HB HN H1
  go_wp2
  go_ret
  refine ⟨_, rfl, ?_, unhide BX⟩
  rw [HKL.out]
  exact unhide HO
end Go.Proofs.YtadaehaemmelfaaDoor.paths
