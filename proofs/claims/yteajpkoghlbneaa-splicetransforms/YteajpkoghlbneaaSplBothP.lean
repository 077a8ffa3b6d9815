/- Two changes read side by side: plain mathematics. -/
import Derived.Test.YteajpkoghlbneaaSplWrite
set_option linter.unusedVariables false
namespace Go.Proofs.Yteajpkoghlbneaa.spls

/-- Bytes of a part. -/
def szP (x : Pt) : Nat := x.2.1.toNat + x.2.2.length
def tot : List Pt → Nat
  | [] => 0
  | x :: l => szP x + tot l
/-- What is left when n bytes are taken of the first part. -/
def tk (n : Nat) (x : Pt) (A : List Pt) : List Pt :=
  if n = szP x then A else if x.1 = 3 then (3, 0, x.2.2.drop n) :: A else (x.1, ((x.2.1.toNat - n : Nat) : Int), []) :: A
theorem szP_pos {x : Pt} (h : okP x) : 0 < szP x := by
  unfold szP
  rcases h with ⟨_, b, _⟩ | ⟨_, b, _⟩ | ⟨_, _, c⟩
  · omega
  · omega
  · have := List.length_pos_iff.2 c; omega
theorem tk_ok {n : Nat} {x : Pt} {A : List Pt} (h : okL (x :: A)) (hn : n ≤ szP x) : okL (tk n x A) := by
  have hx := h x List.mem_cons_self
  have hA : okL A := fun p hp => h p (List.mem_cons_of_mem _ hp)
  unfold tk
  split
  · exact hA
  · rename_i hne
    split
    · rename_i h3
      intro p hp
      rcases List.mem_cons.1 hp with rfl | hp
      · refine .inr (.inr ⟨rfl, rfl, fun e => ?_⟩)
        have e2 := congrArg List.length e
        rw [List.length_drop] at e2
        rcases hx with ⟨a, _⟩ | ⟨a, _⟩ | ⟨_, b, c⟩
        · omega
        · omega
        · unfold szP at hn hne; simp at e2; omega
      · exact hA p hp
    · rename_i h3
      intro p hp
      rcases List.mem_cons.1 hp with rfl | hp
      · rcases hx with ⟨a, b, c⟩ | ⟨a, b, c⟩ | ⟨a, b, c⟩
        · exact .inl ⟨a, by unfold szP at hn hne; rw [c] at hn hne; show (0 : Int) < ((x.2.1.toNat - n : Nat) : Int); simp at hn hne; omega, rfl⟩
        · exact .inr (.inl ⟨a, by unfold szP at hn hne; rw [c] at hn hne; show (0 : Int) < ((x.2.1.toNat - n : Nat) : Int); simp at hn hne; omega, rfl⟩)
        · exact absurd a h3
      · exact hA p hp
theorem szP_num (k m : Int) : szP (k, m, []) = m.toNat := by simp [szP]
theorem szP_text (k : Int) (s : List UInt8) : szP (k, 0, s) = s.length := by simp [szP]
theorem tk_tot {n : Nat} {x : Pt} {A : List Pt} (h : okP x) (hn : n ≤ szP x) : tot (tk n x A) + n = tot (x :: A) := by
  unfold tk
  show _ = szP x + tot A
  split
  · omega
  · rename_i hne
    obtain ⟨k, m, s⟩ := x
    split
    · rename_i h3
      show szP (3, 0, s.drop n) + tot A + n = _
      rcases h with ⟨a, _⟩ | ⟨a, _⟩ | ⟨_, b, c⟩
      · omega
      · omega
      · replace b : m = 0 := b
        subst b
        rw [szP_text] at hn ⊢
        rw [szP_text, List.length_drop]
        omega
    · rename_i h3
      show szP (k, ((m.toNat - n : Nat) : Int), []) + tot A + n = _
      have c : s = [] := by
        rcases h with ⟨a, b, c⟩ | ⟨a, b, c⟩ | ⟨a, b, c⟩
        · exact c
        · exact c
        · exact absurd a h3
      subst c
      rw [szP_num] at hn ⊢
      rw [szP_num]
      omega
/-- The bytes of a part, one by one, and of what is left of it. -/
theorem tk_keep {n m : Nat} {A : List Pt} (h : n ≤ m) (s : List UInt8) (hs : s = []) : exL ((1, (m : Int), s) :: A) = keepsM n ++ exL (tk n (1, (m : Int), s) A) := by
  subst hs
  unfold tk
  split
  · rename_i e
    have : n = m := by rw [e]; simp [szP]
    rw [exL_cons, ex_keep, Int.toNat_natCast, this]
  · rw [if_neg (by show ¬ (1 : Int) = 3; decide), exL_cons, exL_cons, ex_keep, ex_keep, ← List.append_assoc, ← keepsM_add]
    congr 2
    show (m : Int).toNat = n + (((((m : Int)).toNat - n : Nat) : Int)).toNat
    omega
theorem tk_cut {n m : Nat} {A : List Pt} (h : n ≤ m) (s : List UInt8) (hs : s = []) : exL ((2, (m : Int), s) :: A) = cutsM n ++ exL (tk n (2, (m : Int), s) A) := by
  subst hs
  unfold tk
  split
  · rename_i e
    have : n = m := by rw [e]; simp [szP]
    rw [exL_cons, ex_cut, Int.toNat_natCast, this]
  · rw [if_neg (by show ¬ (2 : Int) = 3; decide), exL_cons, exL_cons, ex_cut, ex_cut, ← List.append_assoc, ← cutsM_add]
    congr 2
    show (m : Int).toNat = n + (((((m : Int)).toNat - n : Nat) : Int)).toNat
    omega
theorem tk_put {n : Nat} {s : List UInt8} {A : List Pt} (h : n ≤ s.length) : exL ((3, 0, s) :: A) = putsM (s.take n) ++ exL (tk n (3, 0, s) A) := by
  unfold tk
  split
  · rename_i e
    have e2 : n = s.length := by rw [e]; simp [szP]
    rw [exL_cons, ex_put, e2, List.take_length]
  · rw [if_pos (by rfl), exL_cons, exL_cons, ex_put, ex_put, ← List.append_assoc, ← putsM_app, List.take_append_drop]
/-! Steps of one behind the other. -/
theorem cmp_put (a b : List M) : ∀ s : List UInt8, cmp (putsM s ++ b) a = putsM s ++ cmp b a
  | [] => rfl
  | x :: s => by show some (some x) :: cmp (putsM s ++ b) a = _; rw [cmp_put a b s]; rfl
theorem stK_cut (f : List M → List M) (a : List M) : ∀ n, stK f (cutsM n ++ a) = cutsM n ++ stK f a
  | 0 => rfl
  | n + 1 => by rw [cutsM_succ]; show some none :: stK f (cutsM n ++ a) = _; rw [stK_cut f a n]; rfl
theorem stC_cut (f : List M → List M) (a : List M) : ∀ n, stC f (cutsM n ++ a) = cutsM n ++ stC f a
  | 0 => rfl
  | n + 1 => by rw [cutsM_succ]; show some none :: stC f (cutsM n ++ a) = _; rw [stC_cut f a n]; rfl
/-- b puts nothing first. -/
def NoPut (b : List M) : Prop := ∀ x r, b ≠ some (some x) :: r
theorem cmp_cut (a b : List M) (n : Nat) (h : NoPut b) : cmp b (cutsM n ++ a) = cutsM n ++ cmp b a := by
  match b, h with
  | [], _ => rfl
  | none :: b, _ => exact stK_cut _ _ _
  | some none :: b, _ => exact stC_cut _ _ _
  | some (some x) :: b, h => exact absurd rfl (h x b)
theorem cmp_kk (a b : List M) : ∀ n, cmp (keepsM n ++ b) (keepsM n ++ a) = keepsM n ++ cmp b a
  | 0 => rfl
  | n + 1 => by rw [keepsM_succ]; show none :: cmp (keepsM n ++ b) (keepsM n ++ a) = _; rw [cmp_kk a b n]; rfl
theorem cmp_kc (a b : List M) : ∀ n, cmp (cutsM n ++ b) (keepsM n ++ a) = cutsM n ++ cmp b a
  | 0 => rfl
  | n + 1 => by rw [keepsM_succ, cutsM_succ]; show some none :: cmp (cutsM n ++ b) (keepsM n ++ a) = _; rw [cmp_kc a b n]; rfl
theorem cmp_pk (a b : List M) : ∀ s : List UInt8, cmp (keepsM s.length ++ b) (putsM s ++ a) = putsM s ++ cmp b a
  | [] => rfl
  | x :: s => by show cmp (keepsM (s.length + 1) ++ b) (some (some x) :: (putsM s ++ a)) = _; rw [keepsM_succ]; show some (some x) :: cmp (keepsM s.length ++ b) (putsM s ++ a) = _; rw [cmp_pk a b s]; rfl
theorem cmp_pc (a b : List M) : ∀ s : List UInt8, cmp (cutsM s.length ++ b) (putsM s ++ a) = cmp b a
  | [] => rfl
  | x :: s => by show cmp (cutsM (s.length + 1) ++ b) (some (some x) :: (putsM s ++ a)) = _; rw [cutsM_succ]; show cmp (cutsM s.length ++ b) (putsM s ++ a) = _; rw [cmp_pc a b s]
/-! Steps of two over each other. -/
theorem tr_p (a b : List M) : ∀ s : List UInt8, tr (putsM s ++ a) b = (putsM s ++ (tr a b).1, keepsM s.length ++ (tr a b).2)
  | [] => rfl
  | x :: s => by show (some (some x) :: (tr (putsM s ++ a) b).1, none :: (tr (putsM s ++ a) b).2) = (_, keepsM (s.length + 1) ++ _); rw [tr_p a b s, keepsM_succ]; rfl
/-- a puts nothing first. -/
theorem tr_q (a b : List M) (h : NoPut a) : ∀ s : List UInt8, tr a (putsM s ++ b) = (keepsM s.length ++ (tr a b).1, putsM s ++ (tr a b).2)
  | [] => rfl
  | x :: s => by
    have ih := tr_q a b h s
    show tr a (some (some x) :: (putsM s ++ b)) = (keepsM (s.length + 1) ++ _, _)
    rw [keepsM_succ]
    match a, h with
    | [], _ =>
      show (none :: (trN (putsM s ++ b)).1, some (some x) :: (trN (putsM s ++ b)).2) = _
      have ih' : trN (putsM s ++ b) = _ := ih
      rw [ih']
      rfl
    | none :: a, _ =>
      show (none :: (trK (tr a) (putsM s ++ b)).1, some (some x) :: (trK (tr a) (putsM s ++ b)).2) = _
      have ih' : trK (tr a) (putsM s ++ b) = _ := ih
      rw [ih']
      rfl
    | some none :: a, _ =>
      show (none :: (trC (tr a) (putsM s ++ b)).1, some (some x) :: (trC (tr a) (putsM s ++ b)).2) = _
      have ih' : trC (tr a) (putsM s ++ b) = _ := ih
      rw [ih']
      rfl
    | some (some y) :: a, h => exact absurd rfl (h y a)
theorem tr_kk (a b : List M) : ∀ n, tr (keepsM n ++ a) (keepsM n ++ b) = (keepsM n ++ (tr a b).1, keepsM n ++ (tr a b).2)
  | 0 => rfl
  | n + 1 => by rw [keepsM_succ]; show (none :: (tr (keepsM n ++ a) (keepsM n ++ b)).1, none :: (tr (keepsM n ++ a) (keepsM n ++ b)).2) = _; rw [tr_kk a b n]; rfl
theorem tr_ck (a b : List M) : ∀ n, tr (cutsM n ++ a) (keepsM n ++ b) = (cutsM n ++ (tr a b).1, (tr a b).2)
  | 0 => rfl
  | n + 1 => by rw [keepsM_succ, cutsM_succ]; show (some none :: (tr (cutsM n ++ a) (keepsM n ++ b)).1, (tr (cutsM n ++ a) (keepsM n ++ b)).2) = _; rw [tr_ck a b n]; rfl
theorem tr_kc (a b : List M) : ∀ n, tr (keepsM n ++ a) (cutsM n ++ b) = ((tr a b).1, cutsM n ++ (tr a b).2)
  | 0 => rfl
  | n + 1 => by rw [keepsM_succ, cutsM_succ]; show ((tr (keepsM n ++ a) (cutsM n ++ b)).1, some none :: (tr (keepsM n ++ a) (cutsM n ++ b)).2) = _; rw [tr_kc a b n]; rfl
theorem tr_cc (a b : List M) : ∀ n, tr (cutsM n ++ a) (cutsM n ++ b) = tr a b
  | 0 => rfl
  | n + 1 => by rw [cutsM_succ]; show tr (cutsM n ++ a) (cutsM n ++ b) = _; exact tr_cc a b n
/-- A normal change whose first part puts nothing. -/
theorem noPut_of {x : Pt} {A : List Pt} (h : okP x) (hk : x.1 ≠ 3) : NoPut (exL (x :: A)) := by
  obtain ⟨k, n, s⟩ := x
  rw [exL_cons]
  rcases h with ⟨a, b, c⟩ | ⟨a, b, c⟩ | ⟨a, b, c⟩
  · replace a : k = 1 := a
    subst a
    replace b : 0 < n := b
    rw [ex_keep, show n.toNat = (n.toNat - 1) + 1 from by omega, keepsM_succ]
    intro y r e
    cases e
  · replace a : k = 2 := a
    subst a
    replace b : 0 < n := b
    rw [ex_cut, show n.toNat = (n.toNat - 1) + 1 from by omega, cutsM_succ]
    intro y r e
    cases e
  · exact absurd a hk
theorem noPut_nil : NoPut (exL []) := fun y r e => by cases e
/-- The first part of a list, if there is one; else a part of no kind. -/
def hd (A : List Pt) : Pt := A.headD (0, 0, [])
end Go.Proofs.Yteajpkoghlbneaa.spls
