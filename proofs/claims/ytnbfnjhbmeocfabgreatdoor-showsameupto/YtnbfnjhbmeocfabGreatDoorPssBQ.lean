/- Of our texts, what this claim reaches. -/
import Derived.Test.YtnbfnjhbmeocfabGreatDoorPssBO
import Derived.Test.YtnbfnjhbmeocfabGreatDoorPssBM
import Derived.Test.YtnbfnjhbmeocfabGreatDoorPssAI
import Derived.Test.YtnbfnjhbmeocfabGreatDoorPssAN
import Derived.Test.YtnbfnjhbmeocfabGreatDoorPssBP
import Derived.Deep.CutRange
import Derived.Deep.RegionWith
import Derived.Test.YtnbfnjhbmeocfabGreatDoorPssAA
import Derived.Test.YtnbfnjhbmeocfabGreatDoorPssBG
import Derived.Test.YtnbfnjhbmeocfabGreatDoorPssAE
import Derived.Test.YtnbfnjhbmeocfabGreatDoorPssAB
import Derived.Test.YtnbfnjhbmeocfabGreatDoorPssAF
import Derived.Deep.QuietTactic
import Derived.BigQuiet
set_option linter.unusedVariables false
namespace Go.Proofs.YtnbfnjhbmeocfabGreatDoor.valus
open trees (nd Sym pv)
theorem gr_ne {lv : Nat} {S : List Tok2} {v : V} (h : Gr lv S v) : S ≠ [] := by
 cases lv with
 | zero => exact h.elim
 | succ lv => rcases h with ⟨k, src, lab, rfl, _⟩ | ⟨B, vs, rfl, _⟩ | ⟨B, es, E, rfl, _⟩ <;> simp
end Go.Proofs.YtnbfnjhbmeocfabGreatDoor.valus
namespace Go.Proofs.YtnbfnjhbmeocfabGreatDoor.valus
open trees (nd Sym pv)
open toks (tokK isB isW isM noL runL shutN)
def WFt (t : Tok2) : Prop := (t.1 = 4 ∨ t.1 = 5) ∨ ∃ m : UInt8, t = (6, [m]) ∧ m ≠ 120
theorem segL_wf {G : List Tok2 → V → Prop} (hG : ∀ S v, G S v → ∀ t ∈ S, WFt t) : ∀ (vs : List V) (B : List Tok2), SegL G vs B → ∀ t ∈ B, WFt t
 | [], B, h, t, ht => by
  rw [show B = [(6, [93])] from h, List.mem_singleton] at ht
  exact .inr ⟨93, ht, by decide⟩
 | v :: vs, B, h, t, ht => by
  obtain ⟨seg, c, rest, _, h2, rfl, h3⟩ := h
  rw [List.mem_append, List.mem_cons] at ht
  rcases ht with ht | ht | ht
  ·exact hG seg v h2 t ht
  ·subst ht
   rcases h3 with ⟨rfl, _⟩ | ⟨rfl, _⟩
   ·exact .inr ⟨44, rfl, by decide⟩
   ·exact .inr ⟨93, rfl, by decide⟩
  ·rcases h3 with ⟨_, h4⟩ | ⟨_, _, rfl⟩
   ·exact segL_wf hG vs rest h4 t ht
   ·simp at ht
theorem segE_wf {G : List Tok2 → V → Prop} (hG : ∀ S v, G S v → ∀ t ∈ S, WFt t) : ∀ (es : List V) (keys : List (List UInt8)) (B : List Tok2), SegE G keys es B → ∀ t ∈ B, WFt t
 | [], keys, B, h, t, ht => by
  rw [show B = [(6, [125])] from h, List.mem_singleton] at ht
  exact .inr ⟨125, ht, by decide⟩
 | e :: es, keys, B, h, t, ht => by
  obtain ⟨kt, m, sv, c, rest, key, y, h1, _, _, hm, h2, _, rfl, h3⟩ := h
  rw [List.mem_cons, List.mem_cons, List.mem_append, List.mem_cons] at ht
  rcases ht with ht | ht | ht | ht | ht
  ·subst ht
   exact .inl h1
  ·subst ht
   rcases hm with rfl | rfl
   ·exact .inr ⟨58, rfl, by decide⟩
   ·exact .inr ⟨61, rfl, by decide⟩
  ·exact hG sv y h2 t ht
  ·subst ht
   rcases h3 with ⟨rfl, _⟩ | ⟨rfl, _⟩
   ·exact .inr ⟨44, rfl, by decide⟩
   ·exact .inr ⟨125, rfl, by decide⟩
  ·rcases h3 with ⟨_, h4⟩ | ⟨_, _, rfl⟩
   ·exact segE_wf hG es _ rest h4 t ht
   ·simp at ht
theorem gr_wf : ∀ (lv : Nat) (S : List Tok2) (v : V), Gr lv S v → ∀ t ∈ S, WFt t
 | 0, _, _, h => h.elim
 | lv + 1, S, v, h => by
  intro t ht
  have ih := gr_wf lv
  rcases h with ⟨k, src, lab, rfl, h2, _⟩ | ⟨B, vs, rfl, h2, _⟩ | ⟨B, es, E, rfl, h2, _⟩
  ·rw [List.mem_singleton] at ht
   subst ht
   exact .inl h2
  ·rcases List.mem_cons.1 ht with rfl | ht
   ·exact .inr ⟨91, rfl, by decide⟩
   ·exact segL_wf ih vs B h2 t ht
  ·rcases List.mem_cons.1 ht with rfl | ht
   ·exact .inr ⟨123, rfl, by decide⟩
   ·exact segE_wf ih es [] B h2 t ht
def symT (t : Tok2) : UInt8 := if t.1 = 6 then t.2.headD 0 else 120
def ctS (S : List Tok2) (i : Nat) : Tok2 := S.getD i (0, [])
def numS (S : List Tok2) : List Sym := (List.range S.length).map (fun i => (symT (ctS S i), i))
theorem cont_num (S : List Tok2) : cont (ctS S) (numS S) = S := by
 unfold cont numS
 rw [List.map_map]
 apply List.ext_getElem
 ·simp
 ·intro i h1 h2
  simp only [List.getElem_map, List.getElem_range, Function.comp]
  unfold ctS
  rw [List.getD_eq_getElem?_getD, List.getElem?_eq_getElem h2]
  rfl
theorem fits_num {S : List Tok2} (h : ∀ t ∈ S, WFt t) : ∀ x ∈ numS S, Fits (ctS S) x := by
 intro x hx
 unfold numS at hx
 rw [List.mem_map] at hx
 obtain ⟨i, hi, rfl⟩ := hx
 rw [List.mem_range] at hi
 have hm : ctS S i ∈ S := by
  unfold ctS
  rw [List.getD_eq_getElem?_getD, List.getElem?_eq_getElem hi]
  exact List.getElem_mem hi
 have hw := h _ hm
 refine ⟨?_, fun m h1 h2 => ?_⟩
 ·show symT (ctS S i) = 120 ↔ _
  generalize ctS S i = t at *
  rcases hw with hw | ⟨m, ht, hm2⟩
  ·unfold symT
   rw [if_neg (by omega)]
   exact ⟨fun _ => hw, fun _ => rfl⟩
  ·rw [ht]
   exact ⟨fun e => absurd (show m = 120 from e) hm2, fun e => by simp at e⟩
 ·show symT (ctS S i) = m ↔ _
  generalize ctS S i = t at *
  rcases hw with hw | ⟨m', ht, hm2⟩
  ·unfold symT
   rw [if_neg (by omega)]
   refine ⟨fun e => absurd e.symm h1, fun e => ?_⟩
   rw [e] at hw
   simp at hw
  ·rw [ht]
   constructor
   ·intro e
    have e' : m' = m := e
    rw [e']
   ·intro e
    injection e with _ e
    injection e with e _
theorem gr_unique {lv : Nat} {S : List Tok2} {v u : V} (h : Gr lv S v) (k : Gr lv S u) : v = u := by
 have hf := fits_num (gr_wf lv S v h)
 have h' := h
 have k' := k
 rw [← cont_num S] at h' k'
 obtain ⟨t, a1, a2⟩ := gr_num (pl := fun _ => 0) lv _ v hf h'
 obtain ⟨t', b1, b2⟩ := gr_num (pl := fun _ => 0) lv _ u hf k'
 rw [a1] at b1
 injection b1 with b1
 injection b1 with b1 _
 subst b1
 have e := meanR_unique (keyG_fun (ctS S) (fun _ => 0)) (leafG_fun (ctS S) (fun _ => 0)) lv _ _ _ a2 b2
 injection e
end Go.Proofs.YtnbfnjhbmeocfabGreatDoor.valus
namespace Go.Proofs.YtnbfnjhbmeocfabGreatDoor.valus
open toks (tokK isB isW isM noL runL shutN)
theorem sol_mark (c : UInt8) (x : List UInt8) (h : isM c = true) : solS (c :: x) = (6, [c]) :: solS x := by
 have hb : isB c = false ∧ c ≠ 10 ∧ c ≠ 35 ∧ isW c = false := by
  unfold isM at h
  simp only [Bool.or_eq_true, beq_iff_eq] at h
  rcases h with ((((((h | h) | h) | h) | h) | h) | h) <;> (rw [show c = _ from h]; decide)
 have e : tokK (c :: x) = (6, 1) := by
  unfold tokK
  simp only
  rw [if_neg (by rw [hb.1]; decide), if_neg hb.2.1, if_neg hb.2.2.1, if_neg (by rw [hb.2.2.2]; decide), if_pos h]
 rw [sol_cons (by simp), e]
 rfl
theorem sol_line (x : List UInt8) : solS (10 :: x) = solS x := by
 have e : tokK (10 :: x) = (2, 1) := by
  unfold tokK
  simp only
  rw [if_neg (by decide), if_pos trivial]
 rw [sol_cons (by simp), e]
 rfl
theorem sol_blank (c : UInt8) (x : List UInt8) (h : isB c = true) : solS (c :: x) = solS x := by
 rw [← sol_blanks (c :: x), ← sol_blanks x, runL, if_pos h, List.drop_succ_cons]
end Go.Proofs.YtnbfnjhbmeocfabGreatDoor.valus
namespace Go.Proofs.YtnbfnjhbmeocfabGreatDoor.valus
open Go.RowKit Go.Shelf
open trees (nd)
theorem zero_lies' (ok : Nat → Prop) (w : World) : LiesV ok 1 w [.int .i64 0, .int .i64 0, .int .u64 0, .string ⟨#[]⟩, .slice none 0 0, .slice none 0 0] (mkV (0, 0, 0, []) [] []) :=
 ⟨0, 0, 0, ⟨#[]⟩, [], [], none, none, 0, 0, rfl, rfl, ⟨⟨by omega, by omega⟩, ⟨by omega, by omega⟩, by omega, by decide⟩, ⟨Nat.le_refl _, Nat.zero_le _, Nat.le_refl _, Nat.zero_le _⟩, fun h => absurd rfl h, fun h => absurd rfl h⟩
end Go.Proofs.YtnbfnjhbmeocfabGreatDoor.valus
