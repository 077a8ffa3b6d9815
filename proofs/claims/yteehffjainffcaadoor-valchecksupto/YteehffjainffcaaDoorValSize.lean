/- The sizes of values, and going through them: plain mathematics. -/
import Derived.Test.YteehffjainffcaaDoorValPlain
set_option linter.unusedVariables false
namespace Go.Proofs.YteehffjainffcaaDoor.valus

/-- The parts of a value, in order. -/
def parts (v : V) : List V := (opn v).2.1 ++ (opn v).2.2.map (fun e => (opnE e).2)
theorem parts_mk (x : Lab) (L E : List V) : parts (mkV x L E) = L ++ E.map (fun e => (opnE e).2) := rfl
theorem IsV.part {n : Nat} {v y : V} (h : IsV (n + 1) v) (hy : y ∈ parts v) : IsV n y := by
  obtain ⟨x, L, E, rfl, a, b, c⟩ := h
  rw [parts_mk, List.mem_append, List.mem_map] at hy
  rcases hy with hy | ⟨e, he, rfl⟩
  · exact b y hy
  · obtain ⟨k, z, rfl, hz⟩ := c e he
    exact hz
/-- The greatest, the sum. -/
def maxOf (q : V → Nat) : List V → Nat
  | [] => 0
  | x :: r => max (q x) (maxOf q r)
def sumOf (q : V → Nat) : List V → Nat
  | [] => 0
  | x :: r => q x + sumOf q r
theorem maxOf_append (q : V → Nat) : ∀ l m : List V, maxOf q (l ++ m) = max (maxOf q l) (maxOf q m)
  | [], m => by show maxOf q m = max 0 _; omega
  | x :: r, m => by
    show max _ (maxOf q (r ++ m)) = max (max _ _) _
    rw [maxOf_append q r m]
    omega
theorem sumOf_append (q : V → Nat) : ∀ l m : List V, sumOf q (l ++ m) = sumOf q l + sumOf q m
  | [], m => by show sumOf q m = 0 + _; omega
  | x :: r, m => by
    show _ + sumOf q (r ++ m) = _ + _ + _
    rw [sumOf_append q r m]
    omega
theorem maxOf_congr {p q : V → Nat} : ∀ {l : List V}, (∀ x ∈ l, p x = q x) → maxOf p l = maxOf q l
  | [], _ => rfl
  | x :: r, h => by
    show max _ _ = max _ _
    rw [h x (by simp), maxOf_congr (fun y hy => h y (by simp [hy]))]
theorem sumOf_congr {p q : V → Nat} : ∀ {l : List V}, (∀ x ∈ l, p x = q x) → sumOf p l = sumOf q l
  | [], _ => rfl
  | x :: r, h => by
    show _ + _ = _ + _
    rw [h x (by simp), sumOf_congr (fun y hy => h y (by simp [hy]))]
theorem le_maxOf {q : V → Nat} : ∀ {l : List V} {x : V}, x ∈ l → q x ≤ maxOf q l
  | y :: r, x, h => by
    show _ ≤ max _ _
    rcases List.mem_cons.1 h with rfl | h
    · omega
    · have := le_maxOf (q := q) h
      omega
theorem maxOf_le {q : V → Nat} {b : Nat} : ∀ {l : List V}, (∀ x ∈ l, q x ≤ b) → maxOf q l ≤ b
  | [], _ => Nat.zero_le _
  | x :: r, h => by
    show max _ _ ≤ b
    have h1 := h x (by simp)
    have h2 := maxOf_le (q := q) (b := b) (l := r) (fun y hy => h y (by simp [hy]))
    omega
theorem le_sumOf {q : V → Nat} : ∀ {l : List V} {x : V}, x ∈ l → q x ≤ sumOf q l
  | y :: r, x, h => by
    show _ ≤ _ + _
    rcases List.mem_cons.1 h with rfl | h
    · omega
    · have := le_sumOf (q := q) h
      omega
theorem max_le_sum {p q : V → Nat} : ∀ {l : List V}, (∀ x ∈ l, p x ≤ q x) → maxOf p l ≤ sumOf q l
  | [], _ => Nat.le_refl _
  | x :: r, h => by
    show max _ _ ≤ _ + _
    have h1 := h x (by simp)
    have h2 := max_le_sum (p := p) (q := q) (l := r) (fun y hy => h y (by simp [hy]))
    omega
def depthV : Nat → V → Nat
  | 0, _ => 0
  | n + 1, v => maxOf (depthV n) (parts v) + 1
def nodesV : Nat → V → Nat
  | 0, _ => 0
  | n + 1, v => sumOf (nodesV n) (parts v) + 1
theorem depthV_more : ∀ {n : Nat} {v : V}, IsV n v → depthV (n + 1) v = depthV n v
  | 0, _, h => h.elim
  | n + 1, v, h => by
    show maxOf (depthV (n + 1)) _ + 1 = maxOf (depthV n) _ + 1
    rw [maxOf_congr (fun x hx => depthV_more (h.part hx))]
theorem nodesV_more : ∀ {n : Nat} {v : V}, IsV n v → nodesV (n + 1) v = nodesV n v
  | 0, _, h => h.elim
  | n + 1, v, h => by
    show sumOf (nodesV (n + 1)) _ + 1 = sumOf (nodesV n) _ + 1
    rw [sumOf_congr (fun x hx => nodesV_more (h.part hx))]
theorem depthV_le {n m : Nat} {v : V} (h : IsV n v) (hm : n ≤ m) : depthV m v = depthV n v := by
  obtain ⟨d, rfl⟩ := Nat.le.dest hm
  induction d with
  | zero => rfl
  | succ d ih => exact (depthV_more (n := n + d) (h.le (by omega))).trans (ih (by omega))
theorem nodesV_le {n m : Nat} {v : V} (h : IsV n v) (hm : n ≤ m) : nodesV m v = nodesV n v := by
  obtain ⟨d, rfl⟩ := Nat.le.dest hm
  induction d with
  | zero => rfl
  | succ d ih => exact (nodesV_more (n := n + d) (h.le (by omega))).trans (ih (by omega))
theorem depth_level : ∀ {n : Nat} {v : V}, depthV n v ≤ n
  | 0, _ => Nat.le_refl _
  | n + 1, v => Nat.succ_le_succ (maxOf_le (fun x _ => depth_level))
theorem depth_nodes : ∀ {n : Nat} {v : V}, depthV n v ≤ nodesV n v
  | 0, _ => Nat.le_refl _
  | n + 1, v => Nat.succ_le_succ (max_le_sum (fun x _ => depth_nodes))
theorem depth_part {n : Nat} {v x : V} (hx : x ∈ parts v) : depthV n x < depthV (n + 1) v := Nat.lt_succ_of_le (le_maxOf hx)
theorem depth_pos {n : Nat} {v : V} (h : IsV n v) : 1 ≤ depthV n v := by
  cases n with
  | zero => exact h.elim
  | succ n => exact Nat.succ_le_succ (Nat.zero_le _)
/-- Going through, with a list of what is to do; so many may still be come to; one v: what is wrong with v itself, 0: nothing. Number 2 is ErrLarge, 5 is ErrDeep. -/
def chk (one : V → Int) : Nat → List (V × Nat) → Int
  | _, [] => 0
  | 0, _ :: _ => 2
  | f + 1, (v, d) :: r => if 20 ≤ d then 5 else if one v = 0 then chk one f ((parts v).map (fun y => (y, d + 1)) ++ r) else one v
/-- One behind the other: a number of an error, or how many may still be come to. -/
def recL (q : Nat → V → Int ⊕ Nat) : Nat → List V → Int ⊕ Nat
  | f, [] => .inr f
  | f, x :: r => match q f x with
    | .inl e => .inl e
    | .inr g => recL q g r
/-- Going through part by part: so many levels are left, so many may still be come to. -/
def recV (one : V → Int) : Nat → Nat → V → Int ⊕ Nat
  | _, 0, _ => .inl 2
  | 0, _ + 1, _ => .inl 5
  | l + 1, f + 1, v => if one v = 0 then recL (recV one l) f (parts v) else .inl (one v)
/-- What comes of it. -/
def fin (s : Int ⊕ Nat) (k : Nat → Int) : Int := match s with | .inl e => e | .inr g => k g
theorem chk_list {one : V → Int} {l : Nat} (h : ∀ v f r, chk one f ((v, 20 - l) :: r) = fin (recV one l f v) (fun g => chk one g r)) : ∀ (ps : List V) (f : Nat) (r : List (V × Nat)), chk one f (ps.map (fun y => (y, 20 - l)) ++ r) = fin (recL (recV one l) f ps) (fun g => chk one g r)
  | [], f, r => rfl
  | x :: ps, f, r => by
    rw [List.map_cons, List.cons_append, h]
    show _ = fin (match recV one l f x with | .inl e => .inl e | .inr g => recL (recV one l) g ps) _
    cases recV one l f x with
    | inl e => rfl
    | inr g => exact chk_list h ps g r
theorem chk_one (one : V → Int) : ∀ (l : Nat), l ≤ 20 → ∀ v f r, chk one f ((v, 20 - l) :: r) = fin (recV one l f v) (fun g => chk one g r)
  | l, _, v, 0, r => by cases l <;> rfl
  | 0, _, v, f + 1, r => rfl
  | l + 1, hl, v, f + 1, r => by
    have ih := chk_list (chk_one one l (by omega)) (parts v) f r
    show (if 20 ≤ 20 - (l + 1) then 5 else if one v = 0 then _ else one v) = fin (if one v = 0 then _ else _) _
    rw [if_neg (by omega)]
    by_cases h0 : one v = 0
    · rw [if_pos h0, if_pos h0, ← ih]
      have e : 20 - (l + 1) + 1 = 20 - l := by omega
      rw [e]
    · rw [if_neg h0, if_neg h0]
      rfl
/-- The whole. -/
def faultV (one : V → Int) (v : V) : Int := chk one 2000 [(v, 0)]
theorem faultV_rec (one : V → Int) (v : V) : faultV one v = fin (recV one 20 2000 v) (fun _ => 0) := by
  refine (chk_one one 20 (Nat.le_refl _) v 2000 []).trans ?_
  cases recV one 20 2000 v with
  | inl e => rfl
  | inr g => cases g <;> rfl
end Go.Proofs.YteehffjainffcaaDoor.valus
