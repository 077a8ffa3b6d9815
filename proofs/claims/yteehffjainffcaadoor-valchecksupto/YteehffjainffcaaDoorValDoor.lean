/- What the rows of this door seat share: the tables as they are laid, and how arguments are opened. -/
import Derived.Test.YteehffjainffcaaDoorCards
import Derived.Test.YteehffjainffcaaDoorTie
import Derived.Test.YteehffjainffcaaDoorValOpenB
import Derived.Test.YteehffjainffcaaDoorUtfRefs
import Derived.WalkKit
import Derived.ProofKit
import Derived.OpenShut
import Derived.ShutString
import Derived.ChangeOld
import Derived.Below
import Derived.SizedLaws
import Derived.Lay
import Derived.PinnedBridge
import Derived.Lib.LaidU8T
import Derived.Lib.LaidTab
import Derived.Deep.DeepHandedRow
set_option linter.unusedVariables false
namespace Go.Proofs.YteehffjainffcaaDoor.frame
open Go.ChangeShapes Go.WideShapes Go.ChangeAt Go.RowKit
open valus

theorem own : ownKnob Tryd.prog.godebug = none := by kernel_rfl
theorem laidOut : laidOutB Tryd.prog = true := by kernel_rfl
theorem laid_reads {P : Program} {w : World} : ∀ {l : List (String × DataW Unit)} {ps : List MemPlace}, DataW.LaidVars P w l ps → ∀ n d, (n, d) ∈ l → ∃ g t cs fuel p, P.globalNamed n = some g ∧ (P.globals[g]?).map (·.type) = some t ∧ w.var? P n = some cs ∧ DataW.trod (fun _ => ()) P w 0 (fun _ => true) false fuel t cs.toList = some (d, p)
  | [], _, _, _, _, hm => by cases hm
  | (n', d') :: r, ps, h, n, d, hm => by
    obtain ⟨g, t, cs, fuel, p, q, h1, h2, h3, h4, h5, _⟩ := h
    rcases List.mem_cons.1 hm with e | e
    · cases e
      exact ⟨g, t, cs, fuel, p, h1, h2, h3, h4⟩
    · exact laid_reads h5 n d e
theorem u8Types : U8Types Tryd.prog Tryd.lays197_ren := { Tryd.lays197 with }
theorem u8Extra : U8Extra Tryd.prog Tryd.lays197_ren := ⟨by kernel_rfl, by kernel_rfl, by kernel_rfl, by kernel_rfl, by kernel_rfl, by kernel_rfl, by kernel_rfl⟩
theorem accept_eq : Rows.laid_unicode_utf8_acceptRanges = Lib.acceptData := by kernel_rfl
theorem tabsV {W : World} (h : laidMetH Tryd.prog Rows.valChecksUptoRow.laid W) : Lib.Utf8Tabs 0 1 W := by
  rw [MakeChecks.laidMetH_plain _ _ _ (by kernel_rfl)] at h
  exact utf8Tabs_of_readsT u8Types u8Extra (Pinned.utf8First_eq ▸ Lib.laidMet.reads h (.tail _ (.head _))) (accept_eq ▸ Lib.laidMet.reads h (.head _))
/-- What the bound gives of a text among the arguments. -/
theorem part_le {H : Type} {d : DataW H} {l : List (DataW H)} (h : d ∈ l) : Rows.uptoBulk d ≤ Rows.uptoBulkAll l := by
  induction l with
  | nil => cases h
  | cons x r ih =>
    simp only [Rows.uptoBulkAll]
    cases List.mem_cons.1 h with
    | inl e => subst e; omega
    | inr e => have := ih e; omega
theorem sumB_all {H : Type} : ∀ l : List (DataW H), sumB Rows.uptoBulk l = Rows.uptoBulkAll l
  | [] => by simp [sumB, Rows.uptoBulkAll]
  | d :: r => by
    show Rows.uptoBulk d + sumB Rows.uptoBulk r = _
    rw [sumB_all r]
    simp [Rows.uptoBulkAll]
theorem bulk_agg {H : Type} (ps : List (DataW H)) : sumB Rows.uptoBulk ps + 1 ≤ Rows.uptoBulk (.agg ps) := by rw [sumB_all]; simp [Rows.uptoBulk]
theorem bulk_slice {H : Type} (es sp : List (DataW H)) : sumB Rows.uptoBulk es ≤ Rows.uptoBulk (.slice es sp) := by rw [sumB_all]; simp only [Rows.uptoBulk]; omega
/-- What lies lies in blocks that are there. -/
theorem tightR {w : World} {p : Option Addr} {d n : Nat} {Q Q' : Nat → List Value → Prop} (h : RowIn (fun _ => True) w p d n Q) (hq : ∀ j us, j < n → Q j us → Q' j us) : RowIn (fun b => b < w.heap.size) w p d n Q' := by
  intro hn
  obtain ⟨B, o, hp, _, hlt, hk⟩ := h hn
  refine ⟨B, o, hp, hlt, hlt, fun j hj => ?_⟩
  obtain ⟨us, u1, u2, u3⟩ := hk j hj
  exact ⟨us, u1, u2, hq j us hj u3⟩
theorem tight {w : World} : ∀ {f : Nat} {vs : List Value} {t : V}, LiesV (fun _ => True) f w vs t → LiesV (fun b => b < w.heap.size) f w vs t
  | 0, _, _, h => h.elim
  | f + 1, vs, t, h => by
    obtain ⟨k, n, b, s, L, E, pL, pE, cL, cE, h1, h2, h3, h4, h5, h6⟩ := h
    refine ⟨k, n, b, s, L, E, pL, pE, cL, cE, h1, h2, h3, h4, tightR h5 ?_, tightR h6 ?_⟩
    · rintro j us _ ⟨y, a, c⟩
      exact ⟨y, a, tight c⟩
    · rintro j us _ ⟨key, y, xs, a, c, e, g⟩
      exact ⟨key, y, xs, a, c, e, tight g⟩
theorem value_cells : Tryd.prog.cellsOf 26 = 6 := by kernel_rfl
/-- A value that came in: its six cells. -/
theorem value_ok {W : World} {r : Reach} {base : Nat} {v : Value} (h : Value.okWide Tryd.prog W r base 26 v) : ∃ x0 x1 x2 x3 x4 x5, v = .agg #[x0, x1, x2, x3, x4, x5] := by
  simp only [Value.okWide, Tryd.underlying26] at h
  obtain ⟨cs, rfl, hsz, _⟩ := h
  rw [value_cells] at hsz
  obtain ⟨l⟩ := cs
  match l, hsz with
  | [x0, x1, x2, x3, x4, x5], _ => exact ⟨x0, x1, x2, x3, x4, x5, rfl⟩
theorem value_in {H : Type} {enc : TypeId × Value → H} {W : World} {x0 x1 x2 x3 x4 x5 : Value} {d : DataW H} {p : List MemPlace}
    (h : DataW.Trod enc Tryd.prog W 0 (fun _ => true) true 26 (.agg #[x0, x1, x2, x3, x4, x5]) d p) :
    ∃ f t, LiesV (fun b => b < W.heap.size) f W [x0, x1, x2, x3, x4, x5] t ∧ nodesV f t ≤ Rows.uptoBulk d := by
  obtain ⟨fuel, hf⟩ := h
  obtain ⟨fV, fE, T⟩ := typed
  obtain ⟨t, ht, hb⟩ := opensB (bk := Rows.uptoBulk) bulk_agg bulk_slice T fuel fuel _ _ (Nat.le_refl _) hf
  exact ⟨fuel, t, tight ht, hb⟩
theorem few {H : Type} {d : DataW H} {ds : List (DataW H)} {n : Nat} (hk : Rows.uptoSmall H ds = true) (hm : d ∈ ds) (hn : n ≤ Rows.uptoBulk d) : n ≤ 1048576 := by
  have h : Rows.uptoBulkAll ds ≤ 1048576 := of_decide_eq_true hk
  have h2 := part_le hm
  omega
end Go.Proofs.YteehffjainffcaaDoor.frame
