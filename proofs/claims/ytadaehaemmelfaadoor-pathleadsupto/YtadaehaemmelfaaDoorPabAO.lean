/- Of our texts, what this claim reaches. -/
import Derived.Test.YtadaehaemmelfaaDoorPabAN
import Derived.Lib.ItoaNum
import Derived.Test.YtadaehaemmelfaaDoorPabAE
import Derived.Test.YtadaehaemmelfaaDoorPabAJ
import Derived.Lib.AppendIntMem
import Derived.Lib.Walk
import Derived.BigCall
import Derived.BigGuard
import Derived.Test.YtadaehaemmelfaaDoorPabAL
import Derived.Deep.QuietTactic
import Derived.BigQuiet
import Derived.WalkSmall
import Derived.Test.YtadaehaemmelfaaDoorPabAM
import Derived.Lib.DecodeN
import Derived.OpenShut
import Derived.WalkMore
import Derived.BigRegion
import Derived.OwnWalk
import Derived.Maps.AppendAt
import Derived.Deep.AppendLies
import Derived.Laws.OwnMore
set_option linter.unusedVariables false
namespace Go.Proofs.YtadaehaemmelfaaDoor.paths
open Go.RowKit
open utfs (bad hide unhide)
open valus (Blk blk_alloc len_list ext_drop)
abbrev SK : Type := ByteArray × Int
def stC (x : SK) : List Value := [.string x.1, .int .i64 x.2]
def stL (x : SK) : St := (x.1.data.toList, x.2)
theorem infoStep : (Tryd.prog.info? 60).map (fun i => (i.zero, i.size, i.bytes)) = some (some (.agg #[.string ⟨#[]⟩, .int .i64 0]), 2, 24) := by kernel_rfl
theorem st_get : ∀ (l : List SK) (j : Nat) (h : j < l.length), (l.flatMap stC)[j * 2]? = some (.string l[j].1) ∧ (l.flatMap stC)[j * 2 + 1]? = some (.int .i64 l[j].2)
 | [], j, h => absurd h (Nat.not_lt_zero _)
 | t :: l, 0, h => by simp [stC]
 | t :: l, j + 1, h => by
  have ih := st_get l j (by simpa using h)
  have e : ∀ r, ((t :: l).flatMap stC)[(j + 1) * 2 + r]? = (l.flatMap stC)[j * 2 + r]? := fun r => by
   rw [List.flatMap_cons, List.getElem?_append_right (by simp [stC]; omega)]
   congr 1
   simp [stC]
   omega
  have e0 := e 0
  rw [Nat.add_zero, Nat.add_zero] at e0
  rw [e0, e 1]
  exact ih
theorem liesP_own {w : World} {base : Nat} {v : Value} {K : List SK} (h : w.ownsRow base 60 2 v K.length (K.flatMap stC)) (hk : ∀ x ∈ K, x.1.size ≤ 9223372036854775807 ∧ -9223372036854775808 ≤ x.2 ∧ x.2 ≤ 9223372036854775807) : ∃ p c, v = .slice p K.length c ∧ K.length ≤ c ∧ LiesP w p (K.map stL) ∧ (∀ B o, p = some ⟨B, o, none⟩ → base ≤ B) := by
 have h' := h
 rcases h.2 with ⟨rfl, h0⟩ | ⟨g, cap, cur, rfl, hb, hg, hcap, _⟩
 ·have : K = [] := List.eq_nil_of_length_eq_zero h0
  subst this
  exact ⟨none, 0, rfl, by simp, fun h => absurd rfl h, fun B o e => by cases e⟩
 ·refine ⟨_, cap, rfl, hcap, fun _ => ⟨g, 0, rfl, (Array.getElem?_eq_some_iff.1 hg).1, fun j x hx => ?_⟩, fun B o e => by injection e with e; injection e with e; omega⟩
  obtain ⟨hj, hx⟩ := List.getElem?_eq_some_iff.1 hx
  rw [List.length_map] at hj
  rw [List.getElem_map] at hx
  subst hx
  obtain ⟨g0, g1⟩ := st_get K j hj
  have hm := hk K[j] (List.getElem_mem hj)
  refine ⟨K[j].1, rfl, hm.1, hm.2, ?_, ?_⟩
  ·rw [Nat.zero_add, h'.cellAt (j * 2) (by omega)]
   exact g0
  ·rw [Nat.zero_add, h'.cellAt (j * 2 + 1) (by omega)]
   exact g1
theorem cell_two_new (w : World) (x y : Value) (t : TypeId) : ∀ j u, [x, y][j]? = some u → (w.alloc (.cells #[x, y] t)).cell? ((⟨w.heap.size, 0, none⟩ : Addr).add j) = some u :=
 fun j u hu => World.news_of_block (blk_alloc w #[x, y] t) j u hu
end Go.Proofs.YtadaehaemmelfaaDoor.paths
