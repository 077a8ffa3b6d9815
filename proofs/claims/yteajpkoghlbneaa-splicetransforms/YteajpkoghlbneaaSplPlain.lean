/- Changes of a text, byte by byte: plain mathematics. -/
set_option linter.unusedVariables false
namespace Go.Proofs.Yteajpkoghlbneaa.spls

/-- One byte's fate: none: it is kept; some none: it is cut; some (some b): b is put. -/
abbrev M : Type := Option (Option UInt8)
/-- A part: its kind, its number, its bytes. -/
abbrev Pt : Type := Int × Int × List UInt8
def putsM (s : List UInt8) : List M := s.map (fun b => some (some b))
def cutsM (n : Nat) : List M := List.replicate n (some none)
def keepsM (n : Nat) : List M := List.replicate n none
def ex (p : Pt) : List M := if p.1 = 1 then keepsM p.2.1.toNat else if p.1 = 2 then cutsM p.2.1.toNat else if p.1 = 3 then putsM p.2.2 else []
def exL (l : List Pt) : List M := l.flatMap ex
def ov : List M → Nat
  | [] => 0
  | none :: x => ov x + 1
  | some none :: x => ov x + 1
  | some (some _) :: x => ov x
def mk : List M → Nat
  | [] => 0
  | none :: x => mk x + 1
  | some none :: x => mk x
  | some (some _) :: x => mk x + 1
theorem ov_app : ∀ x y, ov (x ++ y) = ov x + ov y
  | [], y => by simp [ov]
  | none :: x, y => by simp only [List.cons_append, ov, ov_app x y]; omega
  | some none :: x, y => by simp only [List.cons_append, ov, ov_app x y]; omega
  | some (some b) :: x, y => by simp only [List.cons_append, ov, ov_app x y]
theorem mk_app : ∀ x y, mk (x ++ y) = mk x + mk y
  | [], y => by simp [mk]
  | none :: x, y => by simp only [List.cons_append, mk, mk_app x y]; omega
  | some none :: x, y => by simp only [List.cons_append, mk, mk_app x y]
  | some (some b) :: x, y => by simp only [List.cons_append, mk, mk_app x y]; omega
theorem ov_puts : ∀ s, ov (putsM s) = 0
  | [] => rfl
  | b :: s => ov_puts s
theorem mk_puts : ∀ s, mk (putsM s) = s.length
  | [] => rfl
  | b :: s => by show mk (putsM s) + 1 = _; rw [mk_puts s]; rfl
theorem cutsM_succ (n : Nat) : cutsM (n + 1) = some none :: cutsM n := List.replicate_succ
theorem keepsM_succ (n : Nat) : keepsM (n + 1) = none :: keepsM n := List.replicate_succ
theorem ov_cuts : ∀ n, ov (cutsM n) = n
  | 0 => rfl
  | n + 1 => by rw [cutsM_succ]; show ov (cutsM n) + 1 = _; rw [ov_cuts n]
theorem mk_cuts : ∀ n, mk (cutsM n) = 0
  | 0 => rfl
  | n + 1 => by rw [cutsM_succ]; show mk (cutsM n) = _; rw [mk_cuts n]
theorem ov_keeps : ∀ n, ov (keepsM n) = n
  | 0 => rfl
  | n + 1 => by rw [keepsM_succ]; show ov (keepsM n) + 1 = _; rw [ov_keeps n]
theorem mk_keeps : ∀ n, mk (keepsM n) = n
  | 0 => rfl
  | n + 1 => by rw [keepsM_succ]; show mk (keepsM n) + 1 = _; rw [mk_keeps n]
theorem putsM_app (s t : List UInt8) : putsM (s ++ t) = putsM s ++ putsM t := List.map_append
theorem cutsM_add (m n : Nat) : cutsM (m + n) = cutsM m ++ cutsM n := (List.replicate_append_replicate).symm
theorem keepsM_add (m n : Nat) : keepsM (m + n) = keepsM m ++ keepsM n := (List.replicate_append_replicate).symm
theorem exL_app (a b : List Pt) : exL (a ++ b) = exL a ++ exL b := List.flatMap_append
theorem exL_cons (p : Pt) (b : List Pt) : exL (p :: b) = ex p ++ exL b := List.flatMap_cons
theorem exL_one (p : Pt) : exL [p] = ex p := by rw [exL_cons]; exact List.append_nil _
theorem ex_keep (n : Int) (s : List UInt8) : ex (1, n, s) = keepsM n.toNat := rfl
theorem ex_cut (n : Int) (s : List UInt8) : ex (2, n, s) = cutsM n.toNat := rfl
theorem ex_put (n : Int) (s : List UInt8) : ex (3, n, s) = putsM s := rfl

/-! What is put first, then what is cut, between two that are kept. -/
def go : List M → List UInt8 → Nat → List M
  | [], p, c => putsM p ++ cutsM c
  | none :: x, p, c => putsM p ++ (cutsM c ++ none :: go x [] 0)
  | some none :: x, p, c => go x p (c + 1)
  | some (some b) :: x, p, c => go x (p ++ [b]) c
def nrm (x : List M) : List M := go x [] 0
theorem ov_go : ∀ x p c, ov (go x p c) = ov x + c
  | [], p, c => by simp only [go, ov_app, ov_puts, ov_cuts, ov]
  | none :: x, p, c => by
    have := ov_go x [] 0
    simp only [go, ov_app, ov_puts, ov_cuts, ov, this]
    omega
  | some none :: x, p, c => by
    have := ov_go x p (c + 1)
    simp only [go, ov, this]
    omega
  | some (some b) :: x, p, c => ov_go x (p ++ [b]) c
theorem mk_go : ∀ x p c, mk (go x p c) = mk x + p.length
  | [], p, c => by simp only [go, mk_app, mk_puts, mk_cuts, mk]; omega
  | none :: x, p, c => by
    have := mk_go x [] 0
    simp only [go, mk_app, mk_puts, mk_cuts, mk, this, List.length_nil]
    omega
  | some none :: x, p, c => mk_go x p (c + 1)
  | some (some b) :: x, p, c => by
    have := mk_go x (p ++ [b]) c
    simp only [go, mk, this, List.length_append, List.length_cons, List.length_nil]
    omega
theorem ov_nrm (x : List M) : ov (nrm x) = ov x := ov_go x [] 0
theorem mk_nrm (x : List M) : mk (nrm x) = mk x := by unfold nrm; rw [mk_go]; rfl

/-! What a change makes of a list. -/
def act {α : Type} (pt : UInt8 → α) : List M → List α → List α
  | [], s => []
  | none :: x, s => match s with
    | [] => []
    | a :: s => a :: act pt x s
  | some none :: x, s => act pt x s.tail
  | some (some b) :: x, s => pt b :: act pt x s
theorem act_puts {α : Type} (pt : UInt8 → α) (x : List M) (s : List α) : ∀ p, act pt (putsM p ++ x) s = p.map pt ++ act pt x s
  | [] => rfl
  | b :: p => by show pt b :: act pt (putsM p ++ x) s = _; rw [act_puts pt x s p]; rfl
theorem act_cuts {α : Type} (pt : UInt8 → α) (x : List M) : ∀ n (s : List α), act pt (cutsM n ++ x) s = act pt x (s.drop n)
  | 0, s => rfl
  | n + 1, s => by rw [cutsM_succ]; show act pt (cutsM n ++ x) s.tail = _; rw [act_cuts pt x n]; congr 1; cases s <;> simp
theorem act_keeps {α : Type} (pt : UInt8 → α) (x : List M) : ∀ n (s : List α), n ≤ s.length → act pt (keepsM n ++ x) s = s.take n ++ act pt x (s.drop n)
  | 0, s, h => rfl
  | n + 1, [], h => by simp at h
  | n + 1, a :: s, h => by rw [keepsM_succ]; show a :: act pt (keepsM n ++ x) s = _; rw [act_keeps pt x n s (by simpa using h)]; rfl
theorem act_go {α : Type} (pt : UInt8 → α) : ∀ x p c (u s : List α), u.length = c → s.length = ov x → act pt (go x p c) (u ++ s) = p.map pt ++ act pt x s
  | [], p, c, u, s, hu, hs => by
    show act pt (putsM p ++ cutsM c) _ = _
    rw [act_puts]
    have e := act_cuts pt [] c (u ++ s)
    rw [List.append_nil] at e
    rw [e]
    rfl
  | none :: x, p, c, u, s, hu, hs => by
    show act pt (putsM p ++ (cutsM c ++ none :: go x [] 0)) _ = _
    rw [act_puts, act_cuts, ← hu, List.drop_left]
    congr 1
    cases s with
    | nil => rfl
    | cons a s =>
      show a :: act pt (go x [] 0) s = a :: act pt x s
      have := act_go pt x [] 0 [] s rfl (by simpa [ov] using hs)
      rw [List.nil_append] at this
      rw [this]
      rfl
  | some none :: x, p, c, u, s, hu, hs => by
    show act pt (go x p (c + 1)) (u ++ s) = _
    cases s with
    | nil => simp [ov] at hs
    | cons a s =>
      have := act_go pt x p (c + 1) (u ++ [a]) s (by simp [hu]) (by simpa [ov] using hs)
      rw [List.append_assoc] at this
      exact this
  | some (some b) :: x, p, c, u, s, hu, hs => by
    show act pt (go x (p ++ [b]) c) (u ++ s) = _
    rw [act_go pt x (p ++ [b]) c u s hu hs, List.map_append, List.append_assoc]
    rfl
theorem act_nrm {α : Type} (pt : UInt8 → α) (x : List M) (s : List α) (h : s.length = ov x) : act pt (nrm x) s = act pt x s := by
  have := act_go pt x [] 0 [] s rfl h
  rwa [List.nil_append, List.map_nil, List.nil_append] at this
theorem act_len {α : Type} (pt : UInt8 → α) : ∀ x (s : List α), s.length = ov x → (act pt x s).length = mk x
  | [], s, h => rfl
  | none :: x, [], h => by simp [ov] at h
  | none :: x, a :: s, h => by show (act pt x s).length + 1 = mk x + 1; rw [act_len pt x s (by simpa [ov] using h)]
  | some none :: x, s, h => by show (act pt x s.tail).length = mk x; exact act_len pt x s.tail (by rw [List.length_tail, h]; rfl)
  | some (some b) :: x, s, h => by show (act pt x s).length + 1 = mk x + 1; rw [act_len pt x s h]
theorem act_map {α β : Type} (pt : UInt8 → α) (f : α → β) : ∀ x (s : List α), act (fun b => f (pt b)) x (s.map f) = (act pt x s).map f
  | [], s => rfl
  | none :: x, [] => rfl
  | none :: x, a :: s => by show f a :: act _ x (s.map f) = f a :: (act pt x s).map f; rw [act_map pt f x s]
  | some none :: x, s => by show act _ x (s.map f).tail = (act pt x s.tail).map f; rw [← List.map_tail, act_map pt f x s.tail]
  | some (some b) :: x, s => by show f (pt b) :: act _ x (s.map f) = f (pt b) :: (act pt x s).map f; rw [act_map pt f x s]

/-! Atoms: a place of the text that was, or a byte that is put (place -1). -/
abbrev At : Type := Int × UInt8
def ptA (b : UInt8) : At := (-1, b)
def whole : Nat → Nat → List At
  | i, 0 => []
  | i, n + 1 => ((i : Int), 0) :: whole (i + 1) n
theorem whole_len : ∀ i n, (whole i n).length = n
  | i, 0 => rfl
  | i, n + 1 => by show (whole (i + 1) n).length + 1 = n + 1; rw [whole_len]
theorem whole_add : ∀ i m n, whole i (m + n) = whole i m ++ whole (i + m) n
  | i, 0, n => by rw [Nat.zero_add, Nat.add_zero]; rfl
  | i, m + 1, n => by
    rw [show m + 1 + n = (m + n) + 1 from by omega]
    show (_ :: whole (i + 1) (m + n)) = (_ :: whole (i + 1) m) ++ _
    rw [whole_add (i + 1) m n, show i + 1 + m = i + (m + 1) from by omega]
    rfl
/-- Normal bytes of atoms: p is put here, next is the place behind the last one that stays. -/
def nof : List At → List UInt8 → Nat → Nat → List M
  | [], p, next, n => putsM p ++ cutsM (n - next)
  | a :: l, p, next, n => if a.1 < 0 then nof l (p ++ [a.2]) next n else putsM p ++ (cutsM (a.1.toNat - next) ++ none :: nof l [] (a.1.toNat + 1) n)
theorem nof_go : ∀ x p c i, go x p c = nof (act ptA x (whole (i + c) (ov x))) p i (i + c + ov x)
  | [], p, c, i => by show putsM p ++ cutsM c = putsM p ++ cutsM (i + c + 0 - i); rw [show i + c + 0 - i = c from by omega]
  | none :: x, p, c, i => by
    have := nof_go x [] 0 (i + c + 1)
    show putsM p ++ (cutsM c ++ none :: go x [] 0) = nof ((((i + c : Nat) : Int), (0 : UInt8)) :: act ptA x (whole (i + c + 1) (ov x))) p i (i + c + (ov x + 1))
    rw [this]
    unfold nof
    rw [if_neg (by show ¬ (((i + c : Nat) : Int) < 0); omega), show (((i + c : Nat) : Int).toNat - i) = c from by omega, Int.toNat_natCast, show i + c + 1 + 0 = i + c + 1 from rfl, show i + c + (ov x + 1) = i + c + 1 + ov x from by omega]
    congr 3
    cases act ptA x (whole (i + c + 1) (ov x)) <;> rfl
  | some none :: x, p, c, i => by
    have := nof_go x p (c + 1) i
    show go x p (c + 1) = nof (act ptA x (whole (i + c + 1) (ov x))) p i (i + c + (ov x + 1))
    rw [this, show i + (c + 1) = i + c + 1 from by omega, show i + c + (ov x + 1) = i + c + 1 + ov x from by omega]
  | some (some b) :: x, p, c, i => by
    have := nof_go x (p ++ [b]) c i
    show go x (p ++ [b]) c = nof (((-1 : Int), b) :: act ptA x (whole (i + c) (ov x))) p i (i + c + ov x)
    rw [this]
    conv => rhs; unfold nof
    rw [if_pos (by show (-1 : Int) < 0; decide)]
theorem nof_nrm (x : List M) : nrm x = nof (act ptA x (whole 0 (ov x))) [] 0 (ov x) := by
  have := nof_go x [] 0 0
  rwa [Nat.zero_add, Nat.zero_add] at this
theorem nrm_of_act {x y : List M} (h : ov x = ov y) (h2 : act ptA x (whole 0 (ov x)) = act ptA y (whole 0 (ov x))) : nrm x = nrm y := by
  rw [nof_nrm x, nof_nrm y, h2, h]

/-! One behind the other. -/
def stK (f : List M → List M) : List M → List M
  | [] => []
  | none :: a => none :: f a
  | some none :: a => some none :: stK f a
  | some (some x) :: a => some (some x) :: f a
def stC (f : List M → List M) : List M → List M
  | [] => []
  | none :: a => some none :: f a
  | some none :: a => some none :: stC f a
  | some (some x) :: a => f a
def cmp : List M → List M → List M
  | [], a => a
  | none :: b, a => stK (cmp b) a
  | some none :: b, a => stC (cmp b) a
  | some (some x) :: b, a => some (some x) :: cmp b a
theorem ov_cmp : ∀ b a, mk a = ov b → ov (cmp b a) = ov a
  | [], a, h => rfl
  | none :: b, a, h => by
    show ov (stK (cmp b) a) = ov a
    induction a with
    | nil => rfl
    | cons m a ih =>
      rcases m with _ | _ | x
      · show ov (cmp b a) + 1 = ov a + 1
        rw [ov_cmp b a (by simpa [mk, ov] using h)]
      · show ov (stK (cmp b) a) + 1 = ov a + 1
        rw [ih h]
      · exact ov_cmp b a (by simpa [mk, ov] using h)
  | some none :: b, a, h => by
    show ov (stC (cmp b) a) = ov a
    induction a with
    | nil => rfl
    | cons m a ih =>
      rcases m with _ | _ | x
      · show ov (cmp b a) + 1 = ov a + 1
        rw [ov_cmp b a (by simpa [mk, ov] using h)]
      · show ov (stC (cmp b) a) + 1 = ov a + 1
        rw [ih h]
      · exact ov_cmp b a (by simpa [mk, ov] using h)
  | some (some x) :: b, a, h => ov_cmp b a h
theorem mk_zero_act {α : Type} (pt : UInt8 → α) : ∀ a (s : List α), mk a = 0 → act pt a s = []
  | [], s, h => rfl
  | none :: a, s, h => by simp [mk] at h
  | some none :: a, s, h => mk_zero_act pt a s.tail h
  | some (some b) :: a, s, h => by simp [mk] at h
theorem act_cmp {α : Type} (pt : UInt8 → α) : ∀ b a (s : List α), mk a = ov b → s.length = ov a → act pt (cmp b a) s = act pt b (act pt a s)
  | [], a, s, h, hs => by show act pt a s = []; exact mk_zero_act pt a s h
  | none :: b, a, s, h, hs => by
    show act pt (stK (cmp b) a) s = _
    induction a generalizing s with
    | nil => simp [mk, ov] at h
    | cons m a ih =>
      rcases m with _ | _ | x
      · cases s with
        | nil => simp [ov] at hs
        | cons c s => show c :: act pt (cmp b a) s = c :: act pt b (act pt a s); rw [act_cmp pt b a s (by simpa [mk, ov] using h) (by simpa [ov] using hs)]
      · show act pt (stK (cmp b) a) s.tail = act pt (none :: b) (act pt a s.tail)
        exact ih s.tail h (by rw [List.length_tail, hs]; rfl)
      · show pt x :: act pt (cmp b a) s = pt x :: act pt b (act pt a s)
        rw [act_cmp pt b a s (by simpa [mk, ov] using h) hs]
  | some none :: b, a, s, h, hs => by
    show act pt (stC (cmp b) a) s = _
    induction a generalizing s with
    | nil => simp [mk, ov] at h
    | cons m a ih =>
      rcases m with _ | _ | x
      · cases s with
        | nil => simp [ov] at hs
        | cons c s => show act pt (cmp b a) s = act pt b (act pt a s); rw [act_cmp pt b a s (by simpa [mk, ov] using h) (by simpa [ov] using hs)]
      · show act pt (stC (cmp b) a) s.tail = act pt (some none :: b) (act pt a s.tail)
        exact ih s.tail h (by rw [List.length_tail, hs]; rfl)
      · show act pt (cmp b a) s = act pt b (act pt a s)
        rw [act_cmp pt b a s (by simpa [mk, ov] using h) hs]
  | some (some x) :: b, a, s, h, hs => by
    show pt x :: act pt (cmp b a) s = pt x :: act pt b (act pt a s)
    rw [act_cmp pt b a s h hs]
theorem mk_cmp (b a : List M) (h : mk a = ov b) : mk (cmp b a) = mk b := by
  have e := act_cmp ptA b a (whole 0 (ov a)) h (whole_len _ _)
  have l1 := act_len ptA (cmp b a) (whole 0 (ov a)) (by rw [whole_len, ov_cmp b a h])
  have l2 := act_len ptA b (act ptA a (whole 0 (ov a))) (by rw [act_len ptA a _ (whole_len _ _), h])
  rw [← l1, e, l2]
/-- Of three it is no matter which two are joined first. -/
theorem cmp_three (a b c : List M) (h1 : mk a = ov b) (h2 : mk b = ov c) : nrm (cmp c (nrm (cmp b a))) = nrm (cmp (nrm (cmp c b)) a) := by
  have o1 := ov_cmp b a h1
  have m1 := mk_cmp b a h1
  have o2 := ov_cmp c b h2
  have m2 := mk_cmp c b h2
  have e1 : ov (cmp c (nrm (cmp b a))) = ov a := by rw [ov_cmp c _ (by rw [mk_nrm, m1, h2]), ov_nrm, o1]
  have e2 : ov (cmp (nrm (cmp c b)) a) = ov a := by rw [ov_cmp _ a (by rw [ov_nrm, o2, h1])]
  refine nrm_of_act (e1.trans e2.symm) ?_
  rw [e1, act_cmp ptA c _ _ (by rw [mk_nrm, m1, h2]) (by rw [whole_len, ov_nrm, o1]), act_nrm ptA _ _ (by rw [whole_len, o1]), act_cmp ptA b a _ h1 (whole_len _ _),
    act_cmp ptA _ a _ (by rw [ov_nrm, o2, h1]) (whole_len _ _), act_nrm ptA _ _ (by rw [act_len ptA a _ (whole_len _ _), o2, h1]), act_cmp ptA c b _ h2 (by rw [act_len ptA a _ (whole_len _ _), h1])]
theorem cmp_keeps : ∀ a, cmp (keepsM (mk a)) a = a := by
  have aux : ∀ (a : List M) (n : Nat), mk a = n + 1 → (∀ a', mk a' = n → cmp (keepsM n) a' = a') → stK (cmp (keepsM n)) a = a := by
    intro a
    induction a with
    | nil => intro n h; simp [mk] at h
    | cons m a ih =>
      intro n h hn
      rcases m with _ | _ | x
      · show none :: cmp (keepsM n) a = _; rw [hn a (by simpa [mk] using h)]
      · show some none :: stK (cmp (keepsM n)) a = _; rw [ih n h hn]
      · show some (some x) :: cmp (keepsM n) a = _; rw [hn a (by simpa [mk] using h)]
  have : ∀ n a, mk a = n → cmp (keepsM n) a = a := by
    intro n
    induction n with
    | zero => intro a h; rfl
    | succ n ih => intro a h; rw [keepsM_succ]; exact aux a n h ih
  exact fun a => this _ a rfl
theorem keeps_cmp : ∀ b, cmp b (keepsM (ov b)) = b
  | [] => rfl
  | none :: b => by show stK (cmp b) (keepsM (ov b + 1)) = _; rw [keepsM_succ]; show none :: cmp b (keepsM (ov b)) = _; rw [keeps_cmp b]
  | some none :: b => by show stC (cmp b) (keepsM (ov b + 1)) = _; rw [keepsM_succ]; show some none :: cmp b (keepsM (ov b)) = _; rw [keeps_cmp b]
  | some (some x) :: b => by show some (some x) :: cmp b (keepsM (ov b)) = _; rw [keeps_cmp b]

/-! Two of one text, over each other. -/
def trN : List M → List M × List M
  | some (some y) :: b => (none :: (trN b).1, some (some y) :: (trN b).2)
  | _ :: b => trN b
  | [] => ([], [])
def trK (f : List M → List M × List M) : List M → List M × List M
  | [] => ([], [])
  | none :: b => (none :: (f b).1, none :: (f b).2)
  | some none :: b => ((f b).1, some none :: (f b).2)
  | some (some y) :: b => (none :: (trK f b).1, some (some y) :: (trK f b).2)
def trC (f : List M → List M × List M) : List M → List M × List M
  | [] => ([], [])
  | none :: b => (some none :: (f b).1, (f b).2)
  | some none :: b => f b
  | some (some y) :: b => (none :: (trC f b).1, some (some y) :: (trC f b).2)
def tr : List M → List M → List M × List M
  | [], b => trN b
  | none :: a, b => trK (tr a) b
  | some none :: a, b => trC (tr a) b
  | some (some x) :: a, b => (some (some x) :: (tr a b).1, none :: (tr a b).2)
/-- What both say of their sizes and what they make. -/
theorem tr_all {α : Type} (pt : UInt8 → α) : ∀ a b (s : List α), ov a = ov b → s.length = ov a →
    ov (tr a b).1 = mk b ∧ ov (tr a b).2 = mk a ∧ act pt (tr a b).2 (act pt a s) = act pt (tr a b).1 (act pt b s)
  | [], b, s, h, hs => by
    show ov (trN b).1 = _ ∧ ov (trN b).2 = _ ∧ act pt (trN b).2 (act pt [] s) = act pt (trN b).1 (act pt b s)
    induction b with
    | nil => exact ⟨rfl, rfl, rfl⟩
    | cons m b ih =>
      rcases m with _ | _ | y
      · simp [ov] at h
      · simp [ov] at h
      · obtain ⟨i1, i2, i3⟩ := ih h
        exact ⟨by show ov (trN b).1 + 1 = mk b + 1; rw [i1], i2, by show pt y :: act pt (trN b).2 [] = pt y :: act pt (trN b).1 (act pt b s); rw [← i3]; rfl⟩
  | none :: a, b, s, h, hs => by
    cases s with
    | nil => simp [ov] at hs
    | cons c s =>
      show ov (trK (tr a) b).1 = _ ∧ ov (trK (tr a) b).2 = _ ∧ act pt (trK (tr a) b).2 (c :: act pt a s) = act pt (trK (tr a) b).1 (act pt b (c :: s))
      induction b with
      | nil => simp [ov] at h
      | cons m b ih =>
        rcases m with _ | _ | y
        · obtain ⟨i1, i2, i3⟩ := tr_all pt a b s (by simpa [ov] using h) (by simpa [ov] using hs)
          exact ⟨by show ov (tr a b).1 + 1 = mk b + 1; rw [i1], by show ov (tr a b).2 + 1 = mk a + 1; rw [i2], by show c :: act pt (tr a b).2 (act pt a s) = c :: act pt (tr a b).1 (act pt b s); rw [i3]⟩
        · obtain ⟨i1, i2, i3⟩ := tr_all pt a b s (by simpa [ov] using h) (by simpa [ov] using hs)
          exact ⟨i1, by show ov (tr a b).2 + 1 = mk a + 1; rw [i2], i3⟩
        · obtain ⟨i1, i2, i3⟩ := ih h
          exact ⟨by show ov (trK (tr a) b).1 + 1 = mk b + 1; rw [i1], i2, by show pt y :: act pt (trK (tr a) b).2 (c :: act pt a s) = pt y :: act pt (trK (tr a) b).1 (act pt b (c :: s)); rw [i3]⟩
  | some none :: a, b, s, h, hs => by
    cases s with
    | nil => simp [ov] at hs
    | cons c s =>
      show ov (trC (tr a) b).1 = _ ∧ ov (trC (tr a) b).2 = _ ∧ act pt (trC (tr a) b).2 (act pt a s) = act pt (trC (tr a) b).1 (act pt b (c :: s))
      induction b with
      | nil => simp [ov] at h
      | cons m b ih =>
        rcases m with _ | _ | y
        · obtain ⟨i1, i2, i3⟩ := tr_all pt a b s (by simpa [ov] using h) (by simpa [ov] using hs)
          exact ⟨by show ov (tr a b).1 + 1 = mk b + 1; rw [i1], i2, i3⟩
        · obtain ⟨i1, i2, i3⟩ := tr_all pt a b s (by simpa [ov] using h) (by simpa [ov] using hs)
          exact ⟨i1, i2, i3⟩
        · obtain ⟨i1, i2, i3⟩ := ih h
          exact ⟨by show ov (trC (tr a) b).1 + 1 = mk b + 1; rw [i1], i2, by show pt y :: act pt (trC (tr a) b).2 (act pt a s) = pt y :: act pt (trC (tr a) b).1 (act pt b (c :: s)); rw [i3]⟩
  | some (some x) :: a, b, s, h, hs => by
    obtain ⟨i1, i2, i3⟩ := tr_all pt a b s h hs
    exact ⟨i1, by show ov (tr a b).2 + 1 = mk a + 1; rw [i2], by show pt x :: act pt (tr a b).2 (act pt a s) = pt x :: act pt (tr a b).1 (act pt b s); rw [i3]⟩
theorem keeps_tr : ∀ b, tr (keepsM (ov b)) b = (keepsM (mk b), b)
  | [] => rfl
  | none :: b => by
    show tr (keepsM (ov b + 1)) (none :: b) = (keepsM (mk b + 1), _)
    rw [keepsM_succ, keepsM_succ]
    show (none :: (tr (keepsM (ov b)) b).1, none :: (tr (keepsM (ov b)) b).2) = _
    rw [keeps_tr b]
  | some none :: b => by
    show tr (keepsM (ov b + 1)) (some none :: b) = (keepsM (mk b), _)
    rw [keepsM_succ]
    show ((tr (keepsM (ov b)) b).1, some none :: (tr (keepsM (ov b)) b).2) = _
    rw [keeps_tr b]
  | some (some x) :: b => by
    have ih := keeps_tr b
    show tr (keepsM (ov b)) (some (some x) :: b) = (keepsM (mk b + 1), _)
    rw [keepsM_succ]
    cases h : ov b with
    | zero =>
      rw [h] at ih
      show (none :: (trN b).1, some (some x) :: (trN b).2) = _
      have ih' : trN b = (keepsM (mk b), b) := ih
      rw [ih']
    | succ n =>
      rw [h, keepsM_succ] at ih
      rw [keepsM_succ]
      show (none :: (trK (tr (keepsM n)) b).1, some (some x) :: (trK (tr (keepsM n)) b).2) = _
      have ih' : trK (tr (keepsM n)) b = (keepsM (mk b), b) := ih
      rw [ih']
/-! The way back. -/
def inv : List M → List UInt8 → List M
  | [], s => []
  | none :: x, s => none :: inv x s.tail
  | some none :: x, s => some (some (s.headD 0)) :: inv x s.tail
  | some (some b) :: x, s => some none :: inv x s
theorem ov_inv : ∀ x s, ov (inv x s) = mk x
  | [], s => rfl
  | none :: x, s => by show ov (inv x s.tail) + 1 = mk x + 1; rw [ov_inv]
  | some none :: x, s => ov_inv x s.tail
  | some (some b) :: x, s => by show ov (inv x s) + 1 = mk x + 1; rw [ov_inv]
theorem mk_inv : ∀ x s, mk (inv x s) = ov x
  | [], s => rfl
  | none :: x, s => by show mk (inv x s.tail) + 1 = ov x + 1; rw [mk_inv]
  | some none :: x, s => by show mk (inv x s.tail) + 1 = ov x + 1; rw [mk_inv]
  | some (some b) :: x, s => mk_inv x s
theorem act_inv : ∀ x (s : List UInt8), s.length = ov x → act id (inv x s) (act id x s) = s
  | [], [], h => rfl
  | [], a :: s, h => by simp [ov] at h
  | none :: x, [], h => by simp [ov] at h
  | none :: x, a :: s, h => by show a :: act id (inv x s) (act id x s) = a :: s; rw [act_inv x s (by simpa [ov] using h)]
  | some none :: x, [], h => by simp [ov] at h
  | some none :: x, a :: s, h => by show a :: act id (inv x s) (act id x s) = a :: s; rw [act_inv x s (by simpa [ov] using h)]
  | some (some b) :: x, s, h => act_inv x s h
theorem inv_inv : ∀ x (s : List UInt8), s.length = ov x → inv (inv x s) (act id x s) = x
  | [], s, h => rfl
  | none :: x, [], h => by simp [ov] at h
  | none :: x, a :: s, h => by show none :: inv (inv x s) (act id x s) = _; rw [inv_inv x s (by simpa [ov] using h)]
  | some none :: x, [], h => by simp [ov] at h
  | some none :: x, a :: s, h => by show some none :: inv (inv x s) (act id x s) = _; rw [inv_inv x s (by simpa [ov] using h)]
  | some (some b) :: x, s, h => by show some (some b) :: inv (inv x s) (act id x s) = _; rw [inv_inv x s h]
theorem inv_puts (x : List M) (s : List UInt8) : ∀ p, inv (putsM p ++ x) s = cutsM p.length ++ inv x s
  | [] => rfl
  | b :: p => by show some none :: inv (putsM p ++ x) s = cutsM (p.length + 1) ++ _; rw [inv_puts x s p, cutsM_succ]; rfl
theorem inv_cuts (x : List M) : ∀ (u s : List UInt8), inv (cutsM u.length ++ x) (u ++ s) = putsM u ++ inv x s
  | [], s => rfl
  | a :: u, s => by show inv (cutsM (u.length + 1) ++ x) (a :: (u ++ s)) = _; rw [cutsM_succ]; show some (some a) :: inv (cutsM u.length ++ x) (u ++ s) = _; rw [inv_cuts x u s]; rfl
theorem go_puts (x : List M) : ∀ p q c, go (putsM p ++ x) q c = go x (q ++ p) c
  | [], q, c => by rw [List.append_nil]; rfl
  | b :: p, q, c => by show go (putsM p ++ x) (q ++ [b]) c = _; rw [go_puts x p, List.append_assoc]; rfl
theorem go_cuts (x : List M) : ∀ n q c, go (cutsM n ++ x) q c = go x q (c + n)
  | 0, q, c => rfl
  | n + 1, q, c => by rw [cutsM_succ]; show go (cutsM n ++ x) q (c + 1) = _; rw [go_cuts x n, show c + 1 + n = c + (n + 1) from by omega]
theorem go_inv : ∀ y p c (u t : List UInt8) q d, u.length = c → t.length = ov y → go (inv (go y p c) (u ++ t)) q d = go (inv y t) (q ++ u) (d + p.length)
  | [], p, c, u, t, q, d, hu, ht => by
    show go (inv (putsM p ++ cutsM c) (u ++ t)) q d = _
    have e := inv_cuts [] u t
    rw [List.append_nil, hu] at e
    rw [inv_puts, e, go_cuts, go_puts]
  | none :: y, p, c, u, [], q, d, hu, ht => by simp [ov] at ht
  | none :: y, p, c, u, a :: t, q, d, hu, ht => by
    show go (inv (putsM p ++ (cutsM c ++ none :: go y [] 0)) (u ++ a :: t)) q d = _
    have e := inv_cuts (none :: go y [] 0) u (a :: t)
    rw [hu] at e
    rw [inv_puts, e, go_cuts, go_puts]
    have ih := go_inv y [] 0 [] t [] 0 rfl (by simpa [ov] using ht)
    rw [List.nil_append] at ih
    show putsM (q ++ u) ++ (cutsM (d + p.length) ++ none :: go (inv (go y [] 0) t) [] 0) = putsM (q ++ u) ++ (cutsM (d + p.length) ++ none :: go (inv y t) [] 0)
    rw [ih]
    rfl
  | some none :: y, p, c, u, [], q, d, hu, ht => by simp [ov] at ht
  | some none :: y, p, c, u, a :: t, q, d, hu, ht => by
    show go (inv (go y p (c + 1)) (u ++ a :: t)) q d = go (some (some a) :: inv y t) (q ++ u) (d + p.length)
    have ih := go_inv y p (c + 1) (u ++ [a]) t q d (by simp [hu]) (by simpa [ov] using ht)
    rw [List.append_assoc] at ih
    rw [show u ++ a :: t = u ++ ([a] ++ t) from rfl, ih]
    show go (inv y t) _ _ = go (inv y t) (q ++ u ++ [a]) (d + p.length)
    rw [List.append_assoc]
  | some (some b) :: y, p, c, u, t, q, d, hu, ht => by
    show go (inv (go y (p ++ [b]) c) (u ++ t)) q d = go (inv y t) (q ++ u) (d + p.length + 1)
    rw [go_inv y (p ++ [b]) c u t q d hu ht, List.length_append]
    rfl
theorem nrm_inv (y : List M) (t : List UInt8) (h : t.length = ov y) : nrm (inv (nrm y) t) = nrm (inv y t) := by
  have := go_inv y [] 0 [] t [] 0 rfl h
  rwa [List.nil_append] at this
theorem nrm_back (x : List M) (s : List UInt8) (h : s.length = ov x) : nrm (inv (nrm (inv x s)) (act id x s)) = nrm x := by
  rw [nrm_inv _ _ (by rw [ov_inv, act_len id x s h]), inv_inv x s h]
theorem nrm_act_back (x : List M) (s : List UInt8) (h : s.length = ov x) : act id (nrm (inv x s)) (act id x s) = s := by
  rw [act_nrm id _ _ (by rw [ov_inv, act_len id x s h]), act_inv x s h]
end Go.Proofs.Yteajpkoghlbneaa.spls
