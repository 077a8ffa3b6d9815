/- The document's way to a normal change: plain mathematics. -/
import Derived.Test.YteajpkoghlbneaaSplWrite
set_option linter.unusedVariables false
namespace Go.Proofs.Yteajpkoghlbneaa.spls

def keepP (k : Nat) : List Pt := if k = 0 then [] else [(1, (k : Int), [])]
/-- What flush leaves: out and kept. -/
def flO (out : List Pt) (put : List UInt8) (gap kept : Nat) : List Pt := (if 0 < kept ∧ (put ≠ [] ∨ 0 < gap) then out ++ [(1, (kept : Int), [])] else out) ++ (putP put ++ cutP gap)
def flK (put : List UInt8) (gap kept : Nat) : Nat := if 0 < kept ∧ (put ≠ [] ∨ 0 < gap) then 0 else kept
/-- The loop: out, put, next, kept. -/
abbrev DS : Type := List Pt × List UInt8 × Nat × Nat
def dstep (S : DS) (a : At) : DS := if a.1 < 0 then (S.1, S.2.1 ++ [a.2], S.2.2) else (flO S.1 S.2.1 (a.1.toNat - S.2.2.1) S.2.2.2, [], a.1.toNat + 1, flK S.2.1 (a.1.toNat - S.2.2.1) S.2.2.2 + 1)
def drun (S : DS) (l : List At) : DS := l.foldl dstep S
def dfin (S : DS) (n : Nat) : List Pt := flO S.1 S.2.1 (n - S.2.2.1) S.2.2.2 ++ keepP (flK S.2.1 (n - S.2.2.1) S.2.2.2)
theorem flO_keep (out : List Pt) (put : List UInt8) (gap kept : Nat) : flO out put gap kept ++ keepP (flK put gap kept) = (out ++ keepP kept) ++ (putP put ++ cutP gap) := by
  unfold flO flK
  by_cases hk : 0 < kept ∧ (put ≠ [] ∨ 0 < gap)
  · rw [if_pos hk, if_pos hk]
    have e : keepP kept = [(1, (kept : Int), [])] := if_neg (by omega)
    rw [e]
    show _ ++ [] = _
    rw [List.append_nil]
  · rw [if_neg hk, if_neg hk]
    by_cases h0 : kept = 0
    · subst h0
      show _ ++ [] = (out ++ []) ++ _
      rw [List.append_nil, List.append_nil]
    · have hp : put = [] := Classical.byContradiction fun h => hk ⟨by omega, .inl h⟩
      have hg : gap = 0 := Classical.byContradiction fun h => hk ⟨by omega, .inr (by omega)⟩
      subst hp hg
      show (out ++ ([] ++ [])) ++ keepP kept = (out ++ keepP kept) ++ ([] ++ [])
      rw [List.append_nil, List.append_nil, List.append_nil]
theorem lastK_app_put (L : List Pt) (p : List UInt8) (h : p ≠ []) : lastK (L ++ putP p) = false := by
  unfold putP
  rw [if_neg h]
  simp [lastK]
theorem lastK_app_cut (L : List Pt) (c : Nat) (h : 0 < c) : lastK (L ++ cutP c) = false := by
  unfold cutP
  rw [if_neg (by omega)]
  simp [lastK]
theorem lastK_flO {out : List Pt} (h : lastK out = false) (put : List UInt8) (gap kept : Nat) : lastK (flO out put gap kept) = false := by
  unfold flO
  by_cases hg : 0 < gap
  · rw [← List.append_assoc]
    exact lastK_app_cut _ _ hg
  · have hg : gap = 0 := by omega
    subst hg
    by_cases hp : put = []
    · subst hp
      rw [if_neg (fun hk => hk.2.elim (fun h => h rfl) (fun h => by omega))]
      show lastK (out ++ ([] ++ [])) = false
      rw [List.append_nil, List.append_nil]
      exact h
    · show lastK (_ ++ (putP put ++ [])) = false
      rw [List.append_nil]
      exact lastK_app_put _ _ hp
theorem add_keepP {out : List Pt} (h : lastK out = false) (k : Nat) : addK (out ++ keepP k) 1 = out ++ keepP (k + 1) := by
  unfold keepP
  rw [if_neg (by omega : ¬ k + 1 = 0)]
  by_cases h0 : k = 0
  · subst h0
    rw [if_pos rfl, List.append_nil]
    unfold addK
    rw [if_neg (by rw [h]; decide)]
  · rw [if_neg h0]
    unfold addK
    rw [if_pos (by simp [lastK])]
    simp [lastN]
/-- The document's way is the writer's. -/
theorem drun_nof : ∀ (l : List At) (out : List Pt) (put : List UInt8) (nx kept n : Nat), lastK out = false → stl (wrun (out ++ keepP kept, [], 0) (nof l put nx n)) = dfin (drun (out, put, nx, kept) l) n
  | [], out, put, nx, kept, n, h => by
    show stl (wrun (out ++ keepP kept, [], 0) (putsM put ++ cutsM (n - nx))) = flO out put (n - nx) kept ++ keepP (flK put (n - nx) kept)
    rw [wrun_app, wrun_puts, wrun_cuts, flO_keep]
    show stl (out ++ keepP kept, [] ++ put, 0 + (n - nx)) = _
    rw [List.nil_append, Nat.zero_add]
    rfl
  | a :: l, out, put, nx, kept, n, h => by
    unfold nof
    show _ = dfin (drun (dstep (out, put, nx, kept) a) l) n
    unfold dstep
    by_cases ha : a.1 < 0
    · rw [if_pos ha, if_pos ha]
      exact drun_nof l out (put ++ [a.2]) nx kept n h
    · rw [if_neg ha, if_neg ha, wrun_app, wrun_puts, wrun_app, wrun_cuts]
      show stl (wrun (addK (stl (out ++ keepP kept, [] ++ put, 0 + (a.1.toNat - nx))) 1, [], 0) (nof l [] (a.1.toNat + 1) n)) = _
      rw [List.nil_append, Nat.zero_add]
      have e : stl (out ++ keepP kept, put, a.1.toNat - nx) = flO out put (a.1.toNat - nx) kept ++ keepP (flK put (a.1.toNat - nx) kept) := by rw [flO_keep]; rfl
      rw [e, add_keepP (lastK_flO h _ _ _)]
      exact drun_nof l _ [] (a.1.toNat + 1) _ n (lastK_flO h _ _ _)
theorem doc_normal (l : List At) (n : Nat) : dfin (drun ([], [], 0, 0) l) n = nf (nof l [] 0 n) := (drun_nof l [] [] 0 0 n rfl).symm
/-- Of what a change makes of a whole text: the normal change. -/
theorem doc_nf (x : List M) : dfin (drun ([], [], 0, 0) (act ptA x (whole 0 (ov x)))) (ov x) = nf x := by rw [doc_normal, ← nof_nrm, nf_nrm]
theorem doc_cmp (a b : List M) (h : mk a = ov b) : dfin (drun ([], [], 0, 0) (act ptA b (act ptA a (whole 0 (ov a))))) (ov a) = nf (cmp b a) := by
  rw [← act_cmp ptA b a _ h (whole_len _ _)]
  have := doc_nf (cmp b a)
  rw [ov_cmp b a h] at this
  exact this
end Go.Proofs.Yteajpkoghlbneaa.spls
