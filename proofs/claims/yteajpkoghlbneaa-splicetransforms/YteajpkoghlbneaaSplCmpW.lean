/- The walks of package splice: compose. -/
import Derived.Test.YteajpkoghlbneaaSplBothW
set_option linter.unusedVariables false
namespace Go.Proofs.Yteajpkoghlbneaa.spls
open Go.RowKit

theorem next_any (X : Nat → Prop) (R : Nat) (A : List Pt) (w : World) (h : Rd X R A w) (hl : A.length ≤ 1000000) :
    Calls Try.prog 19 #[.pointer (some ⟨R, 0, none⟩)] w fun e w' => e = .returned (.agg #[.int .i64 (hd A).1, .int .i64 (hd A).2.1, .string ⟨(hd A).2.2.toArray⟩]) ∧ Below w.heap.size w w' := by
  cases A with
  | nil => exact next_none X R w h
  | cons x A => exact next_some X R x A w h hl
/-- The sets of a start. -/
def XAs (w : World) (v1 : Value) (b : Nat) : Prop := b = w.heap.size ∨ v1.ownBlock = some b
def XBs (w : World) (v2 : Value) (b : Nat) : Prop := b = w.heap.size + 1 ∨ v2.ownBlock = some b
def XOs (v1 v2 : Value) (b : Nat) : Prop := v1.ownBlock = some b ∨ v2.ownBlock = some b
theorem geo_start (w : World) (v1 v2 : Value) (A B : List Pt) (b1 b2 k : Nat) (h1 : OwnP w b1 v1 A) (h2 : OwnP w b2 v2 B) (hne : ∀ g, v1.ownBlock = some g → v2.ownBlock ≠ some g) : Geo w (w.heap.size + 3 + k) (XAs w v1) (XBs w v2) (XOs v1 v2) := by
  have l1 := own_lt h1
  have l2 := own_lt h2
  refine ⟨?_, ?_, ?_, ?_, ?_, by omega⟩
  · rintro b (rfl | h)
    · omega
    · have := l1 b h; omega
  · rintro b (rfl | h)
    · omega
    · have := l2 b h; omega
  · rintro b (rfl | h) (h' | h')
    · omega
    · have := l2 _ h'; omega
    · have := l1 b h; omega
    · exact hne b h h'
  · rintro b (rfl | h) hb
    · omega
    · exact .inl h
  · rintro b (rfl | h) hb
    · omega
    · exact .inr h
theorem bo_start (w : World) (v1 v2 : Value) (A B : List Pt) (b1 b2 : Nat) (h1 : OwnP w b1 v1 A) (h2 : OwnP w b2 v2 B) (wl : World) (hw : wl = ((w.alloc (.cells #[v1] 50)).alloc (.cells #[v2] 50)).alloc (.cells #[.slice none 0 0, .slice none 0 0, .int .i64 0] 53)) :
    Bo w (w.heap.size + 3) w.heap.size (w.heap.size + 1) (w.heap.size + 2) (XAs w v1) (XBs w v2) (XOs v1 v2) (fun _ _ => True) [] A B w0 wl := by
  subst hw
  have l1 := own_lt h1
  have l2 := own_lt h2
  have c1 : ∀ Y, Chg Y w (w.alloc (.cells #[v1] 50)) := fun Y => (Chg.refl Y w).alloc _
  have c2 : ∀ Y, Chg Y w ((w.alloc (.cells #[v1] 50)).alloc (.cells #[v2] 50)) := fun Y => (c1 Y).alloc _
  have c3 : ∀ Y, Chg Y w (((w.alloc (.cells #[v1] 50)).alloc (.cells #[v2] 50)).alloc (.cells #[.slice none 0 0, .slice none 0 0, .int .i64 0] 53)) := fun Y => (c2 Y).alloc _
  have s1 : (w.alloc (.cells #[v1] 50)).heap.size = w.heap.size + 1 := by simp
  have s2 : ((w.alloc (.cells #[v1] 50)).alloc (.cells #[v2] 50)).heap.size = w.heap.size + 2 := by simp
  have kA := ((blk_alloc w #[v1] 50).alloc (.cells #[v2] 50)).alloc (.cells #[.slice none 0 0, .slice none 0 0, .int .i64 0] 53)
  have kB := (blk_alloc (w.alloc (.cells #[v1] 50)) #[v2] 50).alloc (.cells #[.slice none 0 0, .slice none 0 0, .int .i64 0] 53)
  rw [s1] at kB
  have hw := wr_new ((w.alloc (.cells #[v1] 50)).alloc (.cells #[v2] 50))
  rw [s2] at hw
  have o1 : OwnP _ b1 v1 A := own_chg h1 (c3 (fun _ => False)) (fun _ _ h => h)
  have o2 : OwnP _ b2 v2 B := own_chg h2 (c3 (fun _ => False)) (fun _ _ h => h)
  refine ⟨fun b => b = w.heap.size + 2, fun _ => False, rd_new o1 kA, rd_new o2 kB, hw, trivial, fun b hb => ?_, fun b hb => hb.elim, c3 _, by simp, fun k hk => absurd hk List.not_mem_nil⟩
  have hb : b = w.heap.size + 2 := hb
  subst hb
  refine ⟨?_, ?_, fun h => h, by omega, by simp⟩
  · rintro (h | h)
    · omega
    · have := l1 _ h; omega
  · rintro (h | h)
    · omega
    · have := l2 _ h; omega
/-- What compose's loop keeps. -/
structure CI (z : List M) (A B : List Pt) (y : List M) : Prop where
  a : okL A
  b : okL B
  m : mk (exL A) = ov (exL B)
  z : y ++ cmp (exL B) (exL A) = z
  oa : ov (exL A) ≤ 20000
  ma : mk (exL A) ≤ 20000
  ob : mk (exL B) ≤ 20000
theorem ok_one {x : Pt} {A : List Pt} (h : okL (x :: A)) : okP x := h x List.mem_cons_self
theorem ok_tl {x : Pt} {A : List Pt} (h : okL (x :: A)) : okL A := fun p hp => h p (List.mem_cons_of_mem _ hp)
theorem sz_le {x : Pt} {A : List Pt} (h : okP x) (h1 : ov (exL (x :: A)) ≤ 20000) (h2 : mk (exL (x :: A)) ≤ 20000) : szP x ≤ 20000 := by
  rw [exL_cons, ov_app] at h1
  rw [exL_cons, mk_app] at h2
  obtain ⟨k, n, s⟩ := x
  rcases h with ⟨a, b, c⟩ | ⟨a, b, c⟩ | ⟨a, b, c⟩
  · replace a : k = 1 := a; replace c : s = [] := c; subst a c; rw [ex_keep, ov_keeps] at h1; rw [szP_num]; omega
  · replace a : k = 2 := a; replace c : s = [] := c; subst a c; rw [ex_cut, ov_cuts] at h1; rw [szP_num]; omega
  · replace a : k = 3 := a; replace b : n = 0 := b; subst a b; rw [ex_put, mk_puts] at h2; rw [szP_text]; omega
theorem len_le {A : List Pt} (h : okL A) (h1 : ov (exL A) ≤ 20000) (h2 : mk (exL A) ≤ 20000) : A.length ≤ 1000000 := by
  have h := h
  have : A.length ≤ ov (exL A) + mk (exL A) := okL_len h
  omega
/-- b puts: it is put. -/
theorem CI.put {z : List M} {A B : List Pt} {s : List UInt8} {y : List M} (h : CI z A ((3, 0, s) :: B) y) : CI z A B (y ++ putsM s) := by
  obtain ⟨h1, h2, h3, h4, h5, h6, h7⟩ := h
  rw [exL_cons, ex_put] at h3 h4 h7
  rw [ov_app, ov_puts] at h3
  rw [mk_app] at h7
  rw [cmp_put] at h4
  exact ⟨h1, ok_tl h2, by omega, by rw [List.append_assoc]; exact h4, h5, h6, by omega⟩
/-- a cuts: it is cut. -/
theorem CI.cut {z : List M} {A B : List Pt} {n : Nat} {y : List M} (h : CI z ((2, (n : Int), []) :: A) B y) (hb : NoPut (exL B)) : CI z A B (y ++ cutsM n) := by
  obtain ⟨h1, h2, h3, h4, h5, h6, h7⟩ := h
  rw [exL_cons, ex_cut, Int.toNat_natCast] at h3 h4 h5 h6
  rw [mk_app, mk_cuts] at h3 h6
  rw [ov_app] at h5
  rw [cmp_cut _ _ _ hb] at h4
  exact ⟨ok_tl h1, h2, by omega, by rw [List.append_assoc]; exact h4, by omega, by omega, h7⟩
/-- The next n bytes of both. -/
theorem CI.both {z : List M} {p q : Pt} {A B : List Pt} {n : Nat} {y : List M} (h : CI z (p :: A) (q :: B) y) (hp : p.1 = 1 ∨ p.1 = 3) (hq : q.1 = 1 ∨ q.1 = 2) (hn : n ≤ szP p) (hn2 : n ≤ szP q) : CI z (tk n p A) (tk n q B) (y ++ midC p q n) := by
  obtain ⟨h1, h2, h3, h4, h5, h6, h7⟩ := h
  have t1 := tk_ok h1 hn
  have t2 := tk_ok h2 hn2
  obtain ⟨pk, pn, ps⟩ := p
  obtain ⟨qk, qn, qs⟩ := q
  have oq := ok_one h2
  have op := ok_one h1
  have fq : ∃ m : Nat, qn = (m : Int) ∧ qs = [] := by
    rcases oq with ⟨a, b, c⟩ | ⟨a, b, c⟩ | ⟨a, b, c⟩
    · exact ⟨qn.toNat, by replace b : 0 < qn := b; omega, c⟩
    · exact ⟨qn.toNat, by replace b : 0 < qn := b; omega, c⟩
    · rcases hq with hq | hq
      · replace hq : qk = 1 := hq; replace a : qk = 3 := a; omega
      · replace hq : qk = 2 := hq; replace a : qk = 3 := a; omega
  obtain ⟨m, rfl, rfl⟩ := fq
  rw [szP_num] at hn2
  have hn3 : n ≤ m := by omega
  rcases hp with hp | hp
  · replace hp : pk = 1 := hp
    subst hp
    have fp : ∃ m : Nat, pn = (m : Int) ∧ ps = [] := by
      rcases op with ⟨a, b, c⟩ | ⟨a, b, c⟩ | ⟨a, b, c⟩
      · exact ⟨pn.toNat, by replace b : 0 < pn := b; omega, c⟩
      · replace a : (1 : Int) = 2 := a; omega
      · replace a : (1 : Int) = 3 := a; omega
    obtain ⟨l, rfl, rfl⟩ := fp
    rw [szP_num] at hn
    have hl : n ≤ l := by omega
    rw [tk_keep hl [] rfl] at h3 h4 h5 h6
    rcases hq with hq | hq
    · replace hq : qk = 1 := hq
      subst hq
      rw [tk_keep hn3 [] rfl] at h3 h4 h7
      rw [mk_app, ov_app, mk_keeps, ov_keeps] at h3
      rw [cmp_kk] at h4
      rw [ov_app] at h5
      rw [mk_app] at h6 h7
      exact ⟨t1, t2, by omega, by rw [List.append_assoc]; exact h4, by omega, by omega, by omega⟩
    · replace hq : qk = 2 := hq
      subst hq
      rw [tk_cut hn3 [] rfl] at h3 h4 h7
      rw [mk_app, ov_app, mk_keeps, ov_cuts] at h3
      rw [cmp_kc] at h4
      rw [ov_app] at h5
      rw [mk_app] at h6 h7
      exact ⟨t1, t2, by omega, by rw [List.append_assoc]; exact h4, by omega, by omega, by omega⟩
  · replace hp : pk = 3 := hp
    subst hp
    have fp : pn = 0 := by
      rcases op with ⟨a, b, c⟩ | ⟨a, b, c⟩ | ⟨a, b, c⟩
      · replace a : (3 : Int) = 1 := a; omega
      · replace a : (3 : Int) = 2 := a; omega
      · exact b
    subst fp
    rw [szP_text] at hn
    rw [tk_put hn] at h3 h4 h5 h6
    have hlen : (ps.take n).length = n := by rw [List.length_take]; omega
    rcases hq with hq | hq
    · replace hq : qk = 1 := hq
      subst hq
      rw [tk_keep hn3 [] rfl] at h3 h4 h7
      rw [mk_app, ov_app, mk_puts, ov_keeps, hlen] at h3
      have e := cmp_pk (exL (tk n (3, 0, ps) A)) (exL (tk n (1, (m : Int), []) B)) (ps.take n)
      rw [hlen] at e
      rw [e] at h4
      rw [ov_app] at h5
      rw [mk_app] at h6 h7
      exact ⟨t1, t2, by omega, by rw [List.append_assoc]; exact h4, by omega, by omega, by omega⟩
    · replace hq : qk = 2 := hq
      subst hq
      rw [tk_cut hn3 [] rfl] at h3 h4 h7
      rw [mk_app, ov_app, mk_puts, ov_cuts, hlen] at h3
      have e := cmp_pc (exL (tk n (3, 0, ps) A)) (exL (tk n (2, (m : Int), []) B)) (ps.take n)
      rw [hlen] at e
      rw [e] at h4
      rw [ov_app] at h5
      rw [mk_app] at h6 h7
      exact ⟨t1, t2, by omega, by show (y ++ []) ++ _ = z; rw [List.append_nil]; exact h4, by omega, by omega, by omega⟩
theorem ci_fits {z : List M} {A B : List Pt} {y : List M} (h : CI z A B y) (hz1 : ov z ≤ 20000) (hz2 : mk z ≤ 20000) : Fits (wrun w0 y) 40000 := by
  have h4 := h.z
  rw [← h4, ov_app] at hz1
  rw [← h4, mk_app] at hz2
  exact st_fits _ _ (by omega) (by omega)
/-- Where nothing is put and nothing is cut, both have bytes that stand. -/
theorem ci_heads {z : List M} {A B : List Pt} {y : List M} (h : CI z A B y) (hne : ¬ (A = [] ∧ B = [])) (hq : (hd B).1 ≠ 3) (hp : (hd A).1 ≠ 2) : ∃ p A' q B', A = p :: A' ∧ B = q :: B' ∧ (p.1 = 1 ∨ p.1 = 3) ∧ (q.1 = 1 ∨ q.1 = 2) := by
  have kinds : ∀ {x : Pt}, okP x → x.1 = 1 ∨ x.1 = 2 ∨ x.1 = 3 := fun hx => by rcases hx with ⟨a, _⟩ | ⟨a, _⟩ | ⟨a, _⟩ <;> simp [a]
  have posO : ∀ {x : Pt} {L : List Pt}, okP x → x.1 ≠ 3 → 0 < ov (exL (x :: L)) := fun {x L} hx hk => by
    rw [exL_cons, ov_app]
    obtain ⟨k, n, s⟩ := x
    rcases hx with ⟨a, b, c⟩ | ⟨a, b, c⟩ | ⟨a, b, c⟩
    · replace a : k = 1 := a; subst a; rw [ex_keep, ov_keeps]; replace b : 0 < n := b; omega
    · replace a : k = 2 := a; subst a; rw [ex_cut, ov_cuts]; replace b : 0 < n := b; omega
    · exact absurd a hk
  have posM : ∀ {x : Pt} {L : List Pt}, okP x → x.1 ≠ 2 → 0 < mk (exL (x :: L)) := fun {x L} hx hk => by
    rw [exL_cons, mk_app]
    obtain ⟨k, n, s⟩ := x
    rcases hx with ⟨a, b, c⟩ | ⟨a, b, c⟩ | ⟨a, b, c⟩
    · replace a : k = 1 := a; subst a; rw [ex_keep, mk_keeps]; replace b : 0 < n := b; omega
    · exact absurd a hk
    · replace a : k = 3 := a; subst a; rw [ex_put, mk_puts]; have := List.length_pos_iff.2 c; replace this : 0 < s.length := this; omega
  cases A with
  | nil =>
    cases B with
    | nil => exact absurd ⟨rfl, rfl⟩ hne
    | cons q B =>
      have := posO (L := B) (ok_one h.b) hq
      rw [← h.m] at this
      exact absurd this (by simp [exL, mk])
  | cons p A =>
    cases B with
    | nil =>
      have := posM (L := A) (ok_one h.a) hp
      rw [h.m] at this
      exact absurd this (by simp [exL, ov])
    | cons q B =>
      refine ⟨p, A, q, B, rfl, rfl, ?_, ?_⟩
      · rcases kinds (ok_one h.a) with e | e | e
        · exact .inl e
        · exact absurd e hp
        · exact .inr e
      · rcases kinds (ok_one h.b) with e | e | e
        · exact .inl e
        · exact .inr e
        · exact absurd e hq
theorem hd_cons (x : Pt) (A : List Pt) : hd (x :: A) = x := rfl
theorem head_put {B : List Pt} (h : okL B) (hq : (hd B).1 = 3) : ∃ s B', B = (3, 0, s) :: B' := by
  cases B with
  | nil => exact absurd hq (by decide)
  | cons q B =>
    obtain ⟨k, n, s⟩ := q
    replace hq : k = 3 := hq
    rcases ok_one h with ⟨a, b, c⟩ | ⟨a, b, c⟩ | ⟨a, b, c⟩
    · replace a : k = 1 := a; omega
    · replace a : k = 2 := a; omega
    · replace b : n = 0 := b
      subst hq b
      exact ⟨s, B, rfl⟩
theorem head_cut {A : List Pt} (h : okL A) (hp : (hd A).1 = 2) : ∃ (n : Nat) (A' : List Pt), A = (2, (n : Int), []) :: A' := by
  cases A with
  | nil => exact absurd hp (by decide)
  | cons q A =>
    obtain ⟨k, n, s⟩ := q
    replace hp : k = 2 := hp
    rcases ok_one h with ⟨a, b, c⟩ | ⟨a, b, c⟩ | ⟨a, b, c⟩
    · replace a : k = 1 := a; omega
    · replace c : s = [] := c
      replace b : 0 < n := b
      subst hp c
      exact ⟨n.toNat, A, by rw [show ((n.toNat : Nat) : Int) = n from by omega]⟩
    · replace a : k = 3 := a; omega
theorem noPut_hd {B : List Pt} (h : okL B) (hq : (hd B).1 ≠ 3) : NoPut (exL B) := by
  cases B with
  | nil => exact noPut_nil
  | cons q B => exact noPut_of (ok_one h) hq
end Go.Proofs.Yteajpkoghlbneaa.spls
