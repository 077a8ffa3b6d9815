/- A loop over what a walk hands over. -/
import Derived.Test.YteehffjainffcaaDoorValIter
set_option linter.unusedVariables false
namespace Go.Proofs.YteehffjainffcaaDoor.valus
open Go.RowKit

/-- How a round of such a loop may be left. -/
def walkPost {α σ : Type} (B : Nat) (I : (Nat → Prop) → σ → World → Prop) (Ix : Code → (Nat → Prop) → Unit → World → Prop) (todo : σ → List α) (mu : σ → Nat) (Kd : (Nat → Prop) → World → α → List α → Prop) (M : Nat → Prop) (s : σ) (x : α) (rest : List α) (W : World) : Exit → Act → World → Prop
  | .normal, _, W' => (KeepsFrom B W W' ∧ Turns (fun b => ¬ M b) W W') ∧ ∃ s' kids, I M s' W' ∧ todo s' = kids ++ rest ∧ mu s' < mu s ∧ Kd M W' x kids
  | .ret, _, W' => (KeepsFrom B W W' ∧ Turns (fun b => ¬ M b) W W') ∧ Ix .ret M () W'
  | .exit id, _, W' => (KeepsFrom B W W' ∧ Turns (fun b => ¬ M b) W W') ∧ Ix (.exit id) M () W'
  | .goto t, _, W' => (KeepsFrom B W W' ∧ Turns (fun b => ¬ M b) W W') ∧ Ix (.goto t) M () W'
  | .panic _, _, _ => False
  | .outgrown, _, _ => False

theorem wpIn_range_walk {P : Program} {α σ : Type} {g : Operand} {ps : Array Tmp} {assign body : Code} {Q : Exit → Act → World → Prop} {a : Act} {w : World}
    {gf : Nat} {lb : Array Value} (hg : a.eval g = .func (.func gf) #[] lb) (eg : ∀ args w, (callFunc gf args).run P w = .ok (.enter gf args) w)
    {enc : α → Value} {todo : σ → List α} {mu : σ → Nat} {Kd : (Nat → Prop) → World → α → List α → Prop} {first : α} {M0 : Nat → Prop} {w0 : World} (hseq : Walks P gf lb enc todo mu Kd first M0 w0) (hb0 : Below w0.heap.size w0 w) (hps : ps.size = 1)
    (hKd : ∀ M W x kids l o o', Kd M W x kids → ¬ M l → W.heap[l]? = some o → o.isCells = false → Kd M (W.putObj l o') x kids)
    (N : Nat) (hN : N ≤ w.heap.size) (I : (Nat → Prop) → σ → World → Prop) (Ix : Code → (Nat → Prop) → Unit → World → Prop) (hI : Abides2 N I) (hIx : ∀ c, Abides2 N (Ix c)) (s0 : σ) (hs0 : todo s0 = [first]) (hM0 : ∀ b, M0 b → b < w.heap.size) (h0 : I M0 s0 w)
    (hlen : ∀ M s X, I M s X → (todo s).length ≤ 10000000) (Ax : α → Act → World → Prop) (hAx : ∀ x a' W l o o', Ax x a' W → W.heap[l]? = some o → o.isCells = false → Ax x a' (W.putObj l o'))
    (hassign : ∀ (l : Nat) (x : α) (W : World) (K : Act → World → Prop), (∀ a' W', Turns (fun _ => False) W W' → Ax x a' W' → K a' W') →
      assign.wpIn (Fence.wide.inRound l) 9 P (Exit.then K (fun _ _ _ => False)) { tmps := (ps.zip #[enc x]).foldl (fun t (p, v) => t.setIfInBounds p v) a.tmps, defers := [] } W)
    (hbody : ∀ (l : Nat) (M : Nat → Prop) (s : σ) (x : α) (rest : List α) (a' : Act) (W : World), w.heap.size ≤ l → (∃ r, W.heap[l]? = some (.loop r)) → Ax x a' W → I M s W → (∀ b, M b → b < W.heap.size) → todo s = x :: rest → body.wpIn (Fence.wide.inRound l) 9 P (walkPost w.heap.size I Ix todo mu Kd M s x rest W) a' W)
    (hdone : ∀ (D : Nat) (M : Nat → Prop) (s : σ) (W : World), w.heap.size ≤ D → todo s = [] → I M s W → W.heap[D]? = some (.deferred (some [])) → Q .normal { a with defers := { target := .collected D, args := #[] } :: a.defers } W)
    (hstop : ∀ (D : Nat) (c : Code) (M : Nat → Prop) (W : World), w.heap.size ≤ D → Ix c M () W → W.heap[D]? = some (.deferred (some [])) → c.wpIn Fence.wide 9 P Q { a with defers := { target := .collected D, args := #[] } :: a.defers } W) :
    (Code.rangeFunc g ps assign body).wpIn Fence.wide 9 P Q a w := by
  refine wpIn_rangeFunc ?_
  intro fn hfn
  obtain ⟨rec, hrec⟩ : ∃ rec : LoopState → Option Code → Loop, rec = fun st pe => { state := st, pending := pe, fn, tmps := a.tmps, params := ps, assign, body, defers := w.heap.size } := ⟨_, rfl⟩
  obtain ⟨W1, hW1⟩ : ∃ W1, (w.alloc (.deferred (some []))).alloc (.loop (rec .ready none)) = W1 := ⟨_, rfl⟩
  have hL1 : W1.heap[w.heap.size + 1]? = some (.loop (rec .ready none)) := by
    rw [← hW1]; have := World.alloc_heap_new (w.alloc (.deferred (some []))) (.loop (rec .ready none)); rwa [World.size_alloc] at this
  have hK1 : W1.heap[w.heap.size]? = some (.deferred (some [])) := by
    rw [← hW1]; exact (Below.heap_alloc _ _ _ (by simp)).trans (World.alloc_heap_new w _)
  have t1 : Turns (fun _ => False) w W1 := by rw [← hW1]; exact (Turns.alloc _ _ _).trans (Turns.alloc (fun _ => False) _ _) (fun _ _ h => h)
  have hI1 : I M0 s0 W1 := hI M0 M0 s0 w W1 h0 (t1.mono fun _ _ h => h.elim) (fun _ h => .inl h)
  have hb1 : Below w0.heap.size w0 W1 := hb0.trans ((t1.below (Nat.le_refl _) (fun _ h => h.elim)).mono hb0.size)
  refine ⟨w.heap.size + 1, [{ target := .collected w.heap.size, args := #[] }], W1, { target := .fn (.func gf) lb, args := #[.func (.yield (w.heap.size + 1)) #[] #[]] }, W1, gf,
    #[.func (.yield (w.heap.size + 1)) #[] #[]] ++ lb, W1, ?_, ?_, fun _ _ => trivial, ?_, (fun h => by cases h), ?_⟩
  · rw [← hW1, hrec]; exact run_enterLoop_outer _ _ _ _ _
  · simp only [resolve, hg]
    simp [go_sem]
  · simp [invoke, go_sem, eg]
  · refine CallsIn.mono (callsIn_wide.2 (callsIn_wide.1 (hseq (w.heap.size + 1)
      (fun M s W => I M s W ∧ (W.heap[w.heap.size + 1]? = some (.loop (rec .ready none)) ∧ ¬ M (w.heap.size + 1)) ∧ (W.heap[w.heap.size]? = some (.deferred (some [])) ∧ ¬ M w.heap.size))
      (fun M _ W => ∃ c, Ix c M () W ∧ (W.heap[w.heap.size + 1]? = some (.loop (rec .done (some c))) ∧ ¬ M (w.heap.size + 1)) ∧ (W.heap[w.heap.size]? = some (.deferred (some [])) ∧ ¬ M w.heap.size))
      s0 W1 ?ab ?abx ?round (fun M s X h => hlen M s X h.1) hb1 hs0 ⟨hI1, ⟨hL1, fun h => by have := hM0 _ h; omega⟩, ⟨hK1, fun h => by have := hM0 _ h; omega⟩⟩))) ?behind
    case ab =>
      rintro M M' s A B ⟨hi, ⟨hl, nl⟩, ⟨hd, nd⟩⟩ ht hm
      have l1 := (Array.getElem?_eq_some_iff.1 hl).1
      have l2 := (Array.getElem?_eq_some_iff.1 hd).1
      exact ⟨hI.one M M' s A B hi ht hm, ⟨(ht.block _ l1 nl).trans hl, fun h => (hm _ h).elim nl (fun h => by omega)⟩, ⟨(ht.block _ l2 nd).trans hd, fun h => (hm _ h).elim nd (fun h => by omega)⟩⟩
    case abx =>
      rintro M M' s A B ⟨c, hi, ⟨hl, nl⟩, ⟨hd, nd⟩⟩ ht hm
      have l1 := (Array.getElem?_eq_some_iff.1 hl).1
      have l2 := (Array.getElem?_eq_some_iff.1 hd).1
      exact ⟨c, (hIx c).one M M' () A B hi ht hm, ⟨(ht.block _ l1 nl).trans hl, fun h => (hm _ h).elim nl (fun h => by omega)⟩, ⟨(ht.block _ l2 nd).trans hd, fun h => (hm _ h).elim nd (fun h => by omega)⟩⟩
    case round =>
      rintro M s x rest W ⟨hi, ⟨hl, nl⟩, ⟨hk, nd⟩⟩ hM ht
      have hlt : w.heap.size + 1 < W.heap.size := (Array.getElem?_eq_some_iff.1 hl).1
      have hy := run_yield (P := P) (args := #[enc x]) hl (by rw [hrec]; exact hps.symm)
      rw [hrec] at hy
      refine ⟨fn, _, assign, body, hy, roundIn_of_wpIn hfn (hassign _ x W _ ?_)⟩
      clear hy
      intro a' Wb tA hax
      have hM' : ∀ b, M b → b < Wb.heap.size := fun b hb => Nat.lt_of_lt_of_le (hM b hb) tA.size
      have tA' : Turns (fun b => ¬ M b) W Wb := tA.mono fun _ _ h => h.elim
      replace hi : I M s Wb := hI M M s W Wb hi (tA.mono fun _ _ h => h.elim) (fun _ h => .inl h)
      replace hk := (tA.block _ (Array.getElem?_eq_some_iff.1 hk).1 (fun h => h)).trans hk
      replace hl := (tA.block _ hlt (fun h => h)).trans hl
      replace hlt : w.heap.size + 1 < Wb.heap.size := (Array.getElem?_eq_some_iff.1 hl).1
      refine ⟨_, run_beginRound hl (by rw [hrec]), ?_⟩
      have hl2 : (Wb.putObj (w.heap.size + 1) (.loop { rec .ready none with state := .busy })).heap[w.heap.size + 1]? = some (.loop { rec .ready none with state := .busy }) := World.putObj_heap_same hlt
      have hk2 : (Wb.putObj (w.heap.size + 1) (.loop { rec .ready none with state := .busy })).heap[w.heap.size]? = some (.deferred (some [])) := (World.putObj_heap_other (by omega)).trans hk
      have hi2 : I M s (Wb.putObj (w.heap.size + 1) (.loop { rec .ready none with state := .busy })) := hI.put _ hi (by omega) hl rfl
      have tb : Turns (fun b => ¬ M b) W (Wb.putObj (w.heap.size + 1) (.loop { rec .ready none with state := .busy })) := tA'.trans (Turns.putObj (M := fun b => ¬ M b) _ _ _ nl) (fun _ _ h => h)
      refine wpIn_mono (hbody _ M s x rest a' _ (by omega) ⟨_, hl2⟩ (hAx x a' Wb _ _ _ hax hl rfl) hi2 (fun b hb => by rw [World.putObj_size]; exact hM' b hb) ht) ?_
      have fin : ∀ (jump : Option Code) (W3 : World), KeepsFrom w.heap.size (Wb.putObj (w.heap.size + 1) (.loop { rec .ready none with state := .busy })) W3 → Turns (fun b => ¬ M b) (Wb.putObj (w.heap.size + 1) (.loop { rec .ready none with state := .busy })) W3 →
          (Instr.endRound (w.heap.size + 1) jump).run P W3 = .ok (.bool jump.isNone) (W3.putObj (w.heap.size + 1) (.loop (rec (if jump.isNone then .ready else .done) jump))) ∧
          W3.heap[w.heap.size + 1]? = some (.loop { rec .ready none with state := .busy }) ∧
          (W3.putObj (w.heap.size + 1) (.loop (rec (if jump.isNone then .ready else .done) jump))).heap[w.heap.size + 1]? = some (.loop (rec (if jump.isNone then .ready else .done) jump)) ∧
          (W3.putObj (w.heap.size + 1) (.loop (rec (if jump.isNone then .ready else .done) jump))).heap[w.heap.size]? = some (.deferred (some [])) ∧
          Turns (fun b => ¬ M b) W (W3.putObj (w.heap.size + 1) (.loop (rec (if jump.isNone then .ready else .done) jump))) := fun jump W3 hk3 ht3 => by
        have hl3 := hk3.same _ _ (by omega) hl2 rfl
        have := run_endRound (P := P) jump hl3
        rw [hrec] at this ⊢
        exact ⟨this, by rw [hrec] at hl3; exact hl3, World.putObj_heap_same (Array.getElem?_eq_some_iff.1 hl3).1, (World.putObj_heap_other (by omega)).trans (hk3.same _ _ (Nat.le_refl _) hk2 rfl), (tb.trans (by rw [hrec] at ht3 ⊢; exact ht3) (fun _ _ h => h)).trans (Turns.putObj (M := fun b => ¬ M b) _ _ _ nl) (fun _ _ h => h)⟩
      rintro e a3 W3 hp
      cases e with
      | normal =>
        obtain ⟨⟨hk3, ht3⟩, s', kids, hi3, hs3, hmu, hkd⟩ := hp
        obtain ⟨hr, hl3, hl4, hk4, ht4⟩ := fin none W3 hk3 ht3
        exact ⟨_, _, hr, .inl ⟨rfl, ht4, s', kids, ⟨hI.put _ hi3 (by omega) hl3 rfl, ⟨hl4, nl⟩, hk4, nd⟩, hs3, hmu, hKd _ _ _ _ _ _ _ hkd nl hl3 rfl⟩⟩
      | ret =>
        obtain ⟨⟨hk3, ht3⟩, hi3⟩ := hp
        obtain ⟨hr, hl3, hl4, hk4, ht4⟩ := fin (some .ret) W3 hk3 ht3
        exact ⟨_, _, hr, .inr ⟨rfl, ht4, .ret, (hIx _).put _ hi3 (by omega) hl3 rfl, ⟨hl4, nl⟩, hk4, nd⟩⟩
      | exit id =>
        obtain ⟨⟨hk3, ht3⟩, hi3⟩ := hp
        obtain ⟨hr, hl3, hl4, hk4, ht4⟩ := fin (some (.exit id)) W3 hk3 ht3
        exact ⟨_, _, hr, .inr ⟨rfl, ht4, .exit id, (hIx _).put _ hi3 (by omega) hl3 rfl, ⟨hl4, nl⟩, hk4, nd⟩⟩
      | goto t =>
        obtain ⟨⟨hk3, ht3⟩, hi3⟩ := hp
        obtain ⟨hr, hl3, hl4, hk4, ht4⟩ := fin (some (.goto t)) W3 hk3 ht3
        exact ⟨_, _, hr, .inr ⟨rfl, ht4, .goto t, (hIx _).put _ hi3 (by omega) hl3 rfl, ⟨hl4, nl⟩, hk4, nd⟩⟩
      | panic ch => exact hp.elim
      | outgrown => exact hp.elim
    case behind =>
      rintro e W2 ⟨⟨v, rfl⟩, M, (⟨s, hs, hi, ⟨hl, nl⟩, ⟨hk, nd⟩⟩ | ⟨c, hi, ⟨hl, nl⟩, ⟨hk, nd⟩⟩)⟩
      · exact ⟨none, _, by have := run_endLoop (P := P) hl (by rw [hrec]; simp); rw [hrec] at this; exact this, hdone _ M s _ (Nat.le_refl _) hs (hI.put _ hi (by omega) hl rfl) ((World.putObj_heap_other (by omega)).trans hk)⟩
      · exact ⟨some c, _, by have := run_endLoop (P := P) hl (by rw [hrec]; simp); rw [hrec] at this; exact this, hstop _ c M _ (Nat.le_refl _) ((hIx c).put _ hi (by omega) hl rfl) ((World.putObj_heap_other (by omega)).trans hk)⟩
end Go.Proofs.YteehffjainffcaaDoor.valus
