/- The walks of package splice: transformBytes. -/
import Derived.Test.YteajpkoghlbneaaSplCmpW
set_option linter.unusedVariables false
namespace Go.Proofs.Yteajpkoghlbneaa.spls
open Go.RowKit

/-- What both do with the next n bytes. -/
def midL (p q : Pt) (n : Nat) : List M := if q.1 = 1 then (if p.1 = 1 then keepsM n else cutsM n) else []
def midR (p q : Pt) (n : Nat) : List M := if p.1 = 1 then (if q.1 = 1 then keepsM n else cutsM n) else []
/-- Two writers and what else stands. -/
abbrev Bo2 (w : World) (n1 RA RB R D : Nat) (XA XB XO : Nat → Prop) (Kp : List (Nat × Array Value)) (A B : List Pt) (S T : WS) (wr : World) : Prop := Bo w n1 RA RB R XA XB XO (fun X u => Wr X D T u) Kp A B S wr
section
variable {w : World} {n1 RA RB R D : Nat} {XA XB XO : Nat → Prop} {Kp : List (Nat × Array Value)} {A B : List Pt} {S T : WS} {wr : World}
/-- The second writer writes. -/
theorem Bo2.write2 (G : Geo w n1 XA XB XO) (h : Bo2 w n1 RA RB R D XA XB XO Kp A B S T wr) {F : Nat} {args : Array Value} {T' : WS} (hf : ∀ X, Wr X D T wr → Calls Try.prog F args wr fun e w' => e = .returned (.tuple #[]) ∧ WrTo X D T' wr w') :
    Calls Try.prog F args wr fun e w' => e = .returned (.tuple #[]) ∧ Bo2 w n1 RA RB R D XA XB XO Kp A B S T' w' :=
  (h.swap.write G (std_wr R S) hf).mono fun e w' h => ⟨h.1, h.2.swap⟩
end
set_option maxHeartbeats 8000000 in
set_option maxRecDepth 100000 in
theorem transformBytes_any {w : World} {n1 RA RB R D : Nat} {XA XB XO : Nat → Prop} {Kp : List (Nat × Array Value)} {A B : List Pt} {S T : WS} {wr : World} (G : Geo w n1 XA XB XO) (h : Bo2 w n1 RA RB R D XA XB XO Kp A B S T wr) (p q : Pt) (n : Nat) (hF : Fits S 40000) (hF2 : Fits T 40000) (hp : p.1 = 1 ∨ p.1 = 2) (hq : q.1 = 1 ∨ q.1 = 2) (hn : n ≤ 20000) :
    Calls Try.prog 24 #[.pointer (some ⟨R, 0, none⟩), .pointer (some ⟨D, 0, none⟩), agg3 p, agg3 q, .int .i64 (n : Int)] wr fun e w' => e = .returned (.tuple #[]) ∧ Bo2 w n1 RA RB R D XA XB XO Kp A B (wrun S (midL p q n)) (wrun T (midR p q n)) w' := by
  obtain ⟨pk, pn, ps⟩ := p
  obtain ⟨qk, qn, qs⟩ := q
  dsimp only [agg3]
  obtain ⟨f1, f2, f3, f4, f5⟩ := hF
  obtain ⟨e1, e2, e3, e4, e5⟩ := hF2
  have hb : Below wr.heap.size wr ((wr.alloc (.cells #[.int .i64 pk, .int .i64 pn, .string ⟨ps.toArray⟩] 46)).alloc (.cells #[.int .i64 qk, .int .i64 qn, .string ⟨qs.toArray⟩] 46)) := ((Below.refl _ wr).alloc (Nat.le_refl _) _).alloc (by simp) _
  have h1 := h.below G (std_wr D T) hb
  have HG := hide G
  rcases hp with hp | hp <;> rcases hq with hq | hq
  · replace hp : pk = 1 := hp
    replace hq : qk = 1 := hq
    subst hp hq
    have HK : Hid (wrun S (midL (1, pn, ps) (1, qn, qs) n) = wK n S ∧ wrun T (midR (1, pn, ps) (1, qn, qs) n) = wK n T) := hide ⟨by rw [← wrun_keeps]; rfl, by rw [← wrun_keeps]; rfl⟩
    have K := hide (h1.write G (std_wr D T) (F := 21) (args := #[.pointer (some ⟨R, 0, none⟩), .int .i64 (n : Int)]) (S' := wK n S) (fun X hX => wkeep_any X R S _ n hX f1 (by omega) (by omega) (by omega) (by omega) (fun x hx => by have := f5 x hx; omega)))
    have HE := hide (And.intro e1 (And.intro e2 (And.intro e3 (And.intro e4 e5))))
    clear h h1 f1 f2 f3 f4 f5 hb e1 e2 e3 e4 e5 G
    generalize (⟨ps.toArray⟩ : ByteArray) = PS at *
    generalize (⟨qs.toArray⟩ : ByteArray) = QS at *
    go_enter Try.func24, Try.ntmps24
    go_wp2_with fail
    refine (unhide K).mono ?_
    rintro e w1 ⟨rfl, H⟩
    have K2 := hide (Bo2.write2 HG.out H (F := 21) (args := #[.pointer (some ⟨D, 0, none⟩), .int .i64 (n : Int)]) (T' := wK n T) (fun X hX => wkeep_any X D T _ n hX HE.out.1 (by omega) (by have := HE.out.2.1; omega) (by have := HE.out.2.2.1; omega) (by have := HE.out.2.2.2.1; omega) (fun x hx => by have := HE.out.2.2.2.2 x hx; omega)))
    clear H K
    go_wp2_with fail
    refine (unhide K2).mono ?_
    rintro e w2 ⟨rfl, H2⟩
    have HH := hide H2
    clear H2 K2
    go_wp2
    go_end0
    exact ⟨rfl, by rw [HK.out.1, HK.out.2]; exact HH.out⟩
  · replace hp : pk = 1 := hp
    replace hq : qk = 2 := hq
    subst hp hq
    have HK : Hid (wrun S (midL (1, pn, ps) (2, qn, qs) n) = S ∧ wrun T (midR (1, pn, ps) (2, qn, qs) n) = wC n T) := hide ⟨rfl, by rw [← wrun_cuts]; rfl⟩
    have K := hide (Bo2.write2 G h1 (F := 31) (args := #[.pointer (some ⟨D, 0, none⟩), .int .i64 (n : Int)]) (T' := wC n T) (fun X hX => wcut_any X D T _ n hX (by omega)))
    clear h h1 f1 f2 f3 f4 f5 hb e1 e2 e3 e4 e5 G
    generalize (⟨ps.toArray⟩ : ByteArray) = PS at *
    generalize (⟨qs.toArray⟩ : ByteArray) = QS at *
    go_enter Try.func24, Try.ntmps24
    go_wp2_with fail
    refine (unhide K).mono ?_
    rintro e w2 ⟨rfl, H2⟩
    have HH := hide H2
    clear H2 K
    go_wp2
    go_end0
    exact ⟨rfl, by rw [HK.out.1, HK.out.2]; exact HH.out⟩
  · replace hp : pk = 2 := hp
    replace hq : qk = 1 := hq
    subst hp hq
    have HK : Hid (wrun S (midL (2, pn, ps) (1, qn, qs) n) = wC n S ∧ wrun T (midR (2, pn, ps) (1, qn, qs) n) = T) := hide ⟨by rw [← wrun_cuts]; rfl, rfl⟩
    have K := hide (h1.write G (std_wr D T) (F := 31) (args := #[.pointer (some ⟨R, 0, none⟩), .int .i64 (n : Int)]) (S' := wC n S) (fun X hX => wcut_any X R S _ n hX (by omega)))
    clear h h1 f1 f2 f3 f4 f5 hb e1 e2 e3 e4 e5 G
    generalize (⟨ps.toArray⟩ : ByteArray) = PS at *
    generalize (⟨qs.toArray⟩ : ByteArray) = QS at *
    go_enter Try.func24, Try.ntmps24
    go_wp2_with fail
    refine (unhide K).mono ?_
    rintro e w2 ⟨rfl, H2⟩
    have HH := hide H2
    clear H2 K
    go_wp2
    go_end0
    exact ⟨rfl, by rw [HK.out.1, HK.out.2]; exact HH.out⟩
  · replace hp : pk = 2 := hp
    replace hq : qk = 2 := hq
    subst hp hq
    have HK : Hid (wrun S (midL (2, pn, ps) (2, qn, qs) n) = S ∧ wrun T (midR (2, pn, ps) (2, qn, qs) n) = T) := hide ⟨rfl, rfl⟩
    have HH := hide h1
    clear h h1 f1 f2 f3 f4 f5 hb e1 e2 e3 e4 e5 G
    generalize (⟨ps.toArray⟩ : ByteArray) = PS at *
    generalize (⟨qs.toArray⟩ : ByteArray) = QS at *
    go_enter Try.func24, Try.ntmps24
    go_wp2
    go_end0
    exact ⟨rfl, by rw [HK.out.1, HK.out.2]; exact HH.out⟩
/-- What transform's loop keeps: y, x: what was written of either. -/
structure TI (zl zr : List M) (A B : List Pt) (y x : List M) : Prop where
  a : okL A
  b : okL B
  m : ov (exL A) = ov (exL B)
  l : y ++ (tr (exL A) (exL B)).1 = zl
  r : x ++ (tr (exL A) (exL B)).2 = zr
  oa : ov (exL A) ≤ 20000
  ma : mk (exL A) ≤ 20000
  mb : mk (exL B) ≤ 20000
theorem ti_a {zl zr : List M} {A B : List Pt} {s : List UInt8} {y x : List M} (h : TI zl zr ((3, 0, s) :: A) B y x) : TI zl zr A B (y ++ putsM s) (x ++ keepsM s.length) := by
  obtain ⟨h1, h2, h3, h4, h5, h6, h7, h8⟩ := h
  rw [exL_cons, ex_put] at h3 h4 h5 h6 h7
  rw [ov_app, ov_puts] at h3 h6
  rw [mk_app] at h7
  rw [tr_p] at h4 h5
  exact ⟨ok_tl h1, h2, by omega, by rw [List.append_assoc]; exact h4, by rw [List.append_assoc]; exact h5, by omega, by omega, h8⟩
theorem ti_b {zl zr : List M} {A B : List Pt} {s : List UInt8} {y x : List M} (h : TI zl zr A ((3, 0, s) :: B) y x) (ha : NoPut (exL A)) : TI zl zr A B (y ++ keepsM s.length) (x ++ putsM s) := by
  obtain ⟨h1, h2, h3, h4, h5, h6, h7, h8⟩ := h
  rw [exL_cons, ex_put] at h3 h4 h5 h8
  rw [ov_app, ov_puts] at h3
  rw [mk_app] at h8
  rw [tr_q _ _ ha] at h4 h5
  exact ⟨h1, ok_tl h2, by omega, by rw [List.append_assoc]; exact h4, by rw [List.append_assoc]; exact h5, h6, h7, by omega⟩
/-- The form of a part that keeps, or cuts. -/
theorem num_form {x : Pt} (h : okP x) (hk : x.1 = 1 ∨ x.1 = 2) : ∃ m : Nat, x.2.1 = (m : Int) ∧ x.2.2 = [] := by
  rcases h with ⟨a, b, c⟩ | ⟨a, b, c⟩ | ⟨a, b, c⟩
  · exact ⟨x.2.1.toNat, by omega, c⟩
  · exact ⟨x.2.1.toNat, by omega, c⟩
  · rcases hk with e | e <;> omega
theorem ti_both {zl zr : List M} {p q : Pt} {A B : List Pt} {n : Nat} {y x : List M} (h : TI zl zr (p :: A) (q :: B) y x) (hp : p.1 = 1 ∨ p.1 = 2) (hq : q.1 = 1 ∨ q.1 = 2) (hn : n ≤ szP p) (hn2 : n ≤ szP q) : TI zl zr (tk n p A) (tk n q B) (y ++ midL p q n) (x ++ midR p q n) := by
  obtain ⟨h1, h2, h3, h4, h5, h6, h7, h8⟩ := h
  have t1 := tk_ok h1 hn
  have t2 := tk_ok h2 hn2
  obtain ⟨m, e1, e2⟩ := num_form (ok_one h1) hp
  obtain ⟨l, e3, e4⟩ := num_form (ok_one h2) hq
  obtain ⟨pk, pn, ps⟩ := p
  obtain ⟨qk, qn, qs⟩ := q
  replace e1 : pn = (m : Int) := e1
  replace e2 : ps = [] := e2
  replace e3 : qn = (l : Int) := e3
  replace e4 : qs = [] := e4
  subst e1 e2 e3 e4
  rw [szP_num] at hn hn2
  have hm : n ≤ m := by omega
  have hl : n ≤ l := by omega
  rcases hp with hp | hp <;> rcases hq with hq | hq
  · replace hp : pk = 1 := hp
    replace hq : qk = 1 := hq
    subst hp hq
    rw [tk_keep hm [] rfl] at h3 h4 h5 h6 h7
    rw [tk_keep hl [] rfl] at h3 h4 h5 h8
    rw [ov_app, ov_app, ov_keeps] at h3
    rw [tr_kk] at h4 h5
    rw [ov_app] at h6
    rw [mk_app] at h7 h8
    exact ⟨t1, t2, by omega, by rw [List.append_assoc]; exact h4, by rw [List.append_assoc]; exact h5, by omega, by omega, by omega⟩
  · replace hp : pk = 1 := hp
    replace hq : qk = 2 := hq
    subst hp hq
    rw [tk_keep hm [] rfl] at h3 h4 h5 h6 h7
    rw [tk_cut hl [] rfl] at h3 h4 h5 h8
    rw [ov_app, ov_app, ov_keeps, ov_cuts] at h3
    rw [tr_kc] at h4 h5
    rw [ov_app] at h6
    rw [mk_app] at h7 h8
    exact ⟨t1, t2, by omega, by show (y ++ []) ++ _ = zl; rw [List.append_nil]; exact h4, by rw [List.append_assoc]; exact h5, by omega, by omega, by omega⟩
  · replace hp : pk = 2 := hp
    replace hq : qk = 1 := hq
    subst hp hq
    rw [tk_cut hm [] rfl] at h3 h4 h5 h6 h7
    rw [tk_keep hl [] rfl] at h3 h4 h5 h8
    rw [ov_app, ov_app, ov_keeps, ov_cuts] at h3
    rw [tr_ck] at h4 h5
    rw [ov_app] at h6
    rw [mk_app] at h7 h8
    exact ⟨t1, t2, by omega, by rw [List.append_assoc]; exact h4, by show (x ++ []) ++ _ = zr; rw [List.append_nil]; exact h5, by omega, by omega, by omega⟩
  · replace hp : pk = 2 := hp
    replace hq : qk = 2 := hq
    subst hp hq
    rw [tk_cut hm [] rfl] at h3 h4 h5 h6 h7
    rw [tk_cut hl [] rfl] at h3 h4 h5 h8
    rw [ov_app, ov_app, ov_cuts] at h3
    rw [tr_cc] at h4 h5
    rw [ov_app] at h6
    rw [mk_app] at h7 h8
    exact ⟨t1, t2, by omega, by show (y ++ []) ++ _ = zl; rw [List.append_nil]; exact h4, by show (x ++ []) ++ _ = zr; rw [List.append_nil]; exact h5, by omega, by omega, by omega⟩
theorem ti_fits {zl zr : List M} {A B : List Pt} {y x : List M} (h : TI zl zr A B y x) (h1 : ov zl ≤ 40000) (h2 : mk zl ≤ 40000) (h3 : ov zr ≤ 40000) (h4 : mk zr ≤ 40000) : Fits (wrun w0 y) 40000 ∧ Fits (wrun w0 x) 40000 := by
  have el := h.l
  have er := h.r
  rw [← el, ov_app] at h1
  rw [← el, mk_app] at h2
  rw [← er, ov_app] at h3
  rw [← er, mk_app] at h4
  exact ⟨st_fits _ _ (by omega) (by omega), st_fits _ _ (by omega) (by omega)⟩
theorem ti_heads {zl zr : List M} {A B : List Pt} {y x : List M} (h : TI zl zr A B y x) (hne : ¬ (A = [] ∧ B = [])) (hp : (hd A).1 ≠ 3) (hq : (hd B).1 ≠ 3) : ∃ p A' q B', A = p :: A' ∧ B = q :: B' ∧ (p.1 = 1 ∨ p.1 = 2) ∧ (q.1 = 1 ∨ q.1 = 2) := by
  have kinds : ∀ {x : Pt}, okP x → x.1 = 1 ∨ x.1 = 2 ∨ x.1 = 3 := fun hx => by rcases hx with ⟨a, _⟩ | ⟨a, _⟩ | ⟨a, _⟩ <;> simp [a]
  have posO : ∀ {x : Pt} {L : List Pt}, okP x → x.1 ≠ 3 → 0 < ov (exL (x :: L)) := fun {x L} hx hk => by
    rw [exL_cons, ov_app]
    obtain ⟨k, n, s⟩ := x
    rcases hx with ⟨a, b, c⟩ | ⟨a, b, c⟩ | ⟨a, b, c⟩
    · replace a : k = 1 := a; subst a; rw [ex_keep, ov_keeps]; replace b : 0 < n := b; omega
    · replace a : k = 2 := a; subst a; rw [ex_cut, ov_cuts]; replace b : 0 < n := b; omega
    · exact absurd a hk
  cases A with
  | nil =>
    cases B with
    | nil => exact absurd ⟨rfl, rfl⟩ hne
    | cons q B =>
      have := posO (L := B) (ok_one h.b) hq
      rw [← h.m] at this
      exact absurd this (by simp [exL, ov])
  | cons p A =>
    cases B with
    | nil =>
      have := posO (L := A) (ok_one h.a) hp
      rw [h.m] at this
      exact absurd this (by simp [exL, ov])
    | cons q B =>
      refine ⟨p, A, q, B, rfl, rfl, ?_, ?_⟩
      · rcases kinds (ok_one h.a) with e | e | e
        · exact .inl e
        · exact .inr e
        · exact absurd e hp
      · rcases kinds (ok_one h.b) with e | e | e
        · exact .inl e
        · exact .inr e
        · exact absurd e hq
theorem bo_start2 (w : World) (v1 v2 : Value) (A B : List Pt) (b1 b2 : Nat) (h1 : OwnP w b1 v1 A) (h2 : OwnP w b2 v2 B) (wl : World) (hw : wl = (((w.alloc (.cells #[v1] 50)).alloc (.cells #[v2] 50)).alloc (.cells #[.slice none 0 0, .slice none 0 0, .int .i64 0] 53)).alloc (.cells #[.slice none 0 0, .slice none 0 0, .int .i64 0] 53)) :
    Bo2 w (w.heap.size + 3 + 1) w.heap.size (w.heap.size + 1) (w.heap.size + 2) (w.heap.size + 3) (XAs w v1) (XBs w v2) (XOs v1 v2) [] A B w0 w0 wl := by
  subst hw
  obtain ⟨XW, XZ, r1, r2, r3, _, r5, _, r7, r8, _⟩ := bo_start w v1 v2 A B b1 b2 h1 h2 _ rfl
  have l1 := own_lt h1
  have l2 := own_lt h2
  generalize hu : ((w.alloc (.cells #[v1] 50)).alloc (.cells #[v2] 50)).alloc (.cells #[.slice none 0 0, .slice none 0 0, .int .i64 0] 53) = u at *
  have su : u.heap.size = w.heap.size + 3 := by rw [← hu]; simp
  have hc : Chg (fun _ => False) u (u.alloc (.cells #[.slice none 0 0, .slice none 0 0, .int .i64 0] 53)) := (Chg.refl _ u).alloc _
  have sv : (u.alloc (.cells #[.slice none 0 0, .slice none 0 0, .int .i64 0] 53)).heap.size = w.heap.size + 4 := by simp; omega
  have hw := wr_new u
  rw [su] at hw
  refine ⟨XW, fun b => b = w.heap.size + 3, r1.chg hc (fun _ _ _ h => h), r2.chg hc (fun _ _ _ h => h), r3.chg hc (fun _ _ _ h => h), hw, fun b hb => ?_, fun b hb => ?_, r7.trans (hc.mono (fun _ _ h => h.elim)), by omega, fun k hk => absurd hk List.not_mem_nil⟩
  · obtain ⟨a, b', c, d, e⟩ := r5 b hb
    exact ⟨a, b', fun e' => by have e' : b = w.heap.size + 3 := e'; omega, d, by omega⟩
  · have hb : b = w.heap.size + 3 := hb
    subst hb
    refine ⟨?_, ?_, by omega, by omega⟩
    · rintro (h | h)
      · omega
      · have := l1 _ h; omega
    · rintro (h | h)
      · omega
      · have := l2 _ h; omega
end Go.Proofs.Yteajpkoghlbneaa.spls
