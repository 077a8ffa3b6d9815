/- Of our texts, what this claim reaches. -/
import Derived.Test.YtnbfnjhbmeocfaaGreatDoorPgoBS
import Derived.Test.YtnbfnjhbmeocfaaGreatDoorPgoAA
import Derived.Test.YtnbfnjhbmeocfaaGreatDoorPgoAS
set_option linter.unusedVariables false
namespace Go.Proofs.YtnbfnjhbmeocfaaGreatDoor.valus
open trees (nd Sym pv entP KSeg)
def LeafR (s : ByteArray) (l : List toks.Tk) (j : Nat) (x : V ⊕ (Int × Int)) : Prop :=
  ∃ (h : j < l.length) (lab : Lab) (er : Int), LeafTo (s.extract l[j].fro l[j].til).data.toList l[j].kind lab er ∧ ((er = 0 ∧ x = .inl (mkV lab [] [])) ∨ (er ≠ 0 ∧ x = .inr ((l[j].fro : Int), er)))
def MeanR (kr : List (List UInt8) → Nat → List UInt8 ⊕ (Int × Int) → Prop) (lf : Nat → V ⊕ (Int × Int) → Prop) : Nat → trees.T → V ⊕ (Int × Int) → Prop
  | 0, _, _ => False
  | f + 1, t, x => ∃ k a e l, t = nd k a e l ∧ ((k = 3 ∧ TabTo kr (MeanR kr lf f) l [] x) ∨ (k = 5 ∧ ListTo (MeanR kr lf f) l [] x) ∨ (k ≠ 3 ∧ k ≠ 5 ∧ lf a x))
def FormT (N : Nat) : Nat → trees.T → Prop
  | 0, _ => False
  | n + 1, t => ∃ k a e l, t = nd k a e l ∧ l.length ≤ 20000 ∧ ((k = 1 ∧ a < N) ∨ (k = 5 ∧ ∀ y ∈ l, FormT N n y) ∨ (k = 3 ∧ ∀ y ∈ l, ∃ ek ea ee kk ka ke v, y = nd ek ea ee [nd kk ka ke [], v] ∧ ka < N ∧ FormT N n v))
theorem kseg_len {q : List Sym → trees.R} {ec : UInt8} : ∀ (l : List trees.T) (ts : List Sym) (e : Nat), KSeg q ec l ts e → l.length ≤ ts.length
  | [], _, _, _ => Nat.zero_le _
  | t :: l, ts, e, h => by
    obtain ⟨seg, y, rest, h1, h2, rfl, h3⟩ := h
    have := List.length_pos_iff.2 h1
    rcases h3 with ⟨_, h4⟩ | ⟨_, rfl, _⟩
    · have := kseg_len l rest e h4
      simp only [List.length_cons, List.length_append]
      omega
    · simp only [List.length_cons, List.length_append, List.length_nil]
      omega
theorem form_pv (N : Nat) : ∀ (lv : Nat) (seg : List Sym) (t : trees.T), (∀ x ∈ seg, x.2 < N) → seg.length ≤ 20000 → pv lv seg = .inr (t, []) → FormT N lv t
  | 0, seg, t, _, _, h => by
    obtain ⟨lv', e, _⟩ := trees.pv_form h
    omega
  | lv + 1, seg, t, hx, hl, h => by
    have ih := form_pv N lv
    obtain ⟨lv', e, hf⟩ := trees.pv_form h
    have e' : lv' = lv := by omega
    subst e'
    have in_part : ∀ (ts pre sg post : List Sym) (x : Sym), seg = x :: ts → ts = pre ++ (sg ++ post) → (∀ z ∈ sg, z.2 < N) ∧ sg.length ≤ 20000 := fun ts pre sg post x e1 e2 => by
      subst e1
      subst e2
      refine ⟨fun z hz => hx z (by simp [hz]), ?_⟩
      simp only [List.length_cons, List.length_append] at hl
      omega
    rcases hf with ⟨x, rfl, _, rfl⟩ | ⟨x, ts, l, e, hsg, _, rfl, hk⟩ | ⟨x, ts, l, e, hsg, _, rfl, hk⟩
    · exact ⟨1, x.2, x.2 + 1, [], rfl, by simp, .inl ⟨rfl, hx x (by simp)⟩⟩
    · have hll := kseg_len l ts e hk
      refine ⟨3, x.2, e, l, rfl, by rw [hsg] at hl; simp only [List.length_cons] at hl; omega, .inr (.inr ⟨rfl, fun y hy => ?_⟩)⟩
      obtain ⟨j, hj, rfl⟩ := List.getElem_of_mem hy
      obtain ⟨pre, sg, post, e1, _, h3⟩ := trees.kseg_mem l ts e hk j hj
      obtain ⟨hz, hsl⟩ := in_part ts pre sg post x hsg e1
      obtain ⟨y, m, sv, v, rfl, _, _, hv, e4⟩ := trees.ent_form h3
      refine ⟨_, _, _, _, _, _, v, e4, hz y (by simp), ih sv v (fun z hz' => hz z (by simp [hz'])) ?_ hv⟩
      simp only [List.length_cons] at hsl
      omega
    · have hll := kseg_len l ts e hk
      refine ⟨5, x.2, e, l, rfl, by rw [hsg] at hl; simp only [List.length_cons] at hl; omega, .inr (.inl ⟨rfl, fun y hy => ?_⟩)⟩
      obtain ⟨j, hj, rfl⟩ := List.getElem_of_mem hy
      obtain ⟨pre, sg, post, e1, _, h3⟩ := trees.kseg_mem l ts e hk j hj
      obtain ⟨hz, hsl⟩ := in_part ts pre sg post x hsg e1
      exact ih sg _ hz hsl h3
end Go.Proofs.YtnbfnjhbmeocfaaGreatDoor.valus
set_option linter.unusedVariables false
namespace Go.Proofs.YtnbfnjhbmeocfaaGreatDoor.valus
open Go.RowKit Go.Shelf
open trees (nd Lies)
theorem mout_up {n m R : Nat} {s : ByteArray} {l : List toks.Tk} {pl er : Int} {Rel Rel' : V ⊕ (Int × Int) → Prop} {w : World} {e : Ending} {w' : World} (hnm : n ≤ m) (hR : ∀ x, Rel x → Rel' x) (h : MOut n R s l pl er Rel w e w') : MOut m R s l pl er Rel' w e w' := by
  obtain ⟨h, ho⟩ := h
  refine ⟨?_, ho⟩
  rcases h with ⟨k, nn, b, z, pL, nL, cL, pE, nE, cE, v, h1, h2, h3, h4⟩ | ⟨pq, h1, h2, h3⟩
  · exact .inl ⟨k, nn, b, z, pL, nL, cL, pE, nE, cE, v, h1, hR _ h2, h3.to hnm, h4⟩
  · exact .inr ⟨pq, h1, hR _ h2, h3⟩
theorem leaf_lies (ok : Nat → Prop) (n : Nat) (w : World) (k nn : Int) (b : Nat) (z : ByteArray) (hn : -9223372036854775808 ≤ nn ∧ nn ≤ 9223372036854775807) (hb : b < 18446744073709551616) (hz : z.size ≤ maxLen) (hk : -9223372036854775808 ≤ k ∧ k ≤ 9223372036854775807) : LiesV ok (n + 1) w [.int .i64 k, .int .i64 nn, .int .u64 (b : Int), .string z, .slice none 0 0, .slice none 0 0] (mkV (k, nn, b, z.data.toList) [] []) :=
  ⟨k, nn, b, z, [], [], none, none, 0, 0, rfl, rfl, ⟨hk, hn, hb, hz⟩, ⟨Nat.le_refl _, Nat.zero_le _, Nat.le_refl _, Nat.zero_le _⟩, fun h => absurd rfl h, fun h => absurd rfl h⟩
theorem near_fits {t : List UInt8} {sg v : Nat} {e : Int} (hs : sg ≤ 9223372036854775808) (h : bigs.Res t sg v e) : v < 18446744073709551616 := by
  rcases h with ⟨W, P, x, r, _, h2, h3⟩ | ⟨_, h2, _⟩
  · have := bigs.nearD_range h2
    rcases h3 with ⟨_, h4, _⟩ | ⟨_, h4, _⟩ <;> omega
  · omega
theorem reads_fits {l : List UInt8} {v : Nat} {x : Int} (h : bigs.ReadsTo l v x) : v < 18446744073709551616 := by
  rcases h with ⟨_, h, _⟩ | ⟨_, _, h, _⟩ | ⟨_, _, t, sg, h1, h2⟩
  · omega
  · omega
  · have hs : sg ≤ 9223372036854775808 := by rcases h1 with ⟨_, h⟩ | ⟨_, _, h⟩ <;> omega
    rcases h2 with ⟨_, h, _⟩ | ⟨_, h⟩
    · omega
    · exact near_fits hs h
theorem leafTo_fits {src : List UInt8} {kind : Nat} {lab : Lab} {er : Int} (h : LeafTo src kind lab er) : (0 ≤ lab.1 ∧ lab.1 ≤ 4) ∧ (-9223372036854775808 ≤ lab.2.1 ∧ lab.2.1 ≤ 9223372036854775807) ∧ lab.2.2.1 < 18446744073709551616 ∧ lab.2.2.2.length ≤ src.length := by
  unfold LeafTo at h
  by_cases hk : kind = 4
  · rw [if_pos hk] at h
    have hr := bigs.res_range src
    rcases h with ⟨_, rfl, _⟩ | ⟨_, rfl, _⟩ | ⟨_, rfl, _⟩ | ⟨_, ⟨_, _, rfl⟩ | ⟨_, v, hv, rfl⟩⟩
    · exact ⟨by decide, by decide, by decide, Nat.zero_le _⟩
    · exact ⟨by decide, by decide, by decide, Nat.zero_le _⟩
    · exact ⟨by decide, by decide, by decide, Nat.zero_le _⟩
    · split
      · exact ⟨by simp, hr, by simp, Nat.zero_le _⟩
      · exact ⟨by decide, by decide, by decide, Nat.zero_le _⟩
    · have := reads_fits hv
      split
      · exact ⟨by simp, by simp, this, Nat.zero_le _⟩
      · exact ⟨by decide, by decide, by decide, Nat.zero_le _⟩
  · rw [if_neg hk] at h
    obtain ⟨_, rfl⟩ := h
    split
    · exact ⟨by simp, by simp, by simp, resM_len src⟩
    · exact ⟨by decide, by decide, by decide, Nat.zero_le _⟩
theorem read_all (R : Nat) (s : ByteArray) (l : List toks.Tk) (hs : s.size ≤ 100000) (hgd : ∀ (j : Nat) (h : j < l.length), l[j].fro ≤ l[j].til ∧ l[j].til ≤ s.size) : ∀ (n : Nat) (t : trees.T), FormT l.length n t → ∀ m, 2 * n ≤ m → ReadK m R s l t (MeanR (KeyR s l) (LeafR s l) n t)
  | 0, t, h, _, _ => h.elim
  | n + 1, t, hf, 0, hm => by omega
  | n + 1, t, hf, 1, hm => by omega
  | n + 1, t, hf, m' + 2, hmn => by
    have ih := read_all R s l hs hgd n
    obtain ⟨m, hmm⟩ : ∃ m, m = m' + 1 := ⟨_, rfl⟩
    have e0 : m' + 2 = m + 1 := by omega
    rw [e0]
    obtain ⟨k, a, e, T, rfl, hTl, hf⟩ := hf
    intro w pl er u0 u1 u2 u3 hm hlies hT
    have hRw := hm.lt
    have frm : ∀ v, Below w.heap.size w v → ∃ (p : Option Addr) (cap : Nat), [u0, u1, u2, u3] = [Value.int .i64 (k : Int), .int .i64 (a : Int), .int .i64 (e : Int), .slice p T.length cap] ∧ T.length ≤ cap ∧ (T ≠ [] → ∃ b o, p = some ⟨b, o, none⟩ ∧ b < R ∧ ∀ (j : Nat) (h : j < T.length), ∃ us : List Value, us.length = 4 ∧ (∀ i, i < 4 → v.cell? ⟨b, o + j * 4 + i, none⟩ = us[i]?) ∧ Lies (fun b => b < R) m v us T[j]) := fun v hv => by
      obtain ⟨k', a', e', l', p, cap, h1, h2, h3, h4⟩ := hlies.below hv
      obtain ⟨rfl, rfl, rfl, rfl⟩ := trees.nd_inj h1
      refine ⟨p, cap, h2, h3, fun hT => ?_⟩
      obtain ⟨b, o, q1, q2, q3, q4⟩ := h4 hT
      exact ⟨b, o, q1, q2, q4⟩
    obtain ⟨p, cap, h2, h3, _⟩ := frm w (Below.refl _ w)
    injection h2 with e0 h2
    injection h2 with e1 h2
    injection h2 with e2 h2
    injection h2 with e3 _
    subst e0 e1 e2 e3
    have row : ∀ v, Below w.heap.size w v → (T ≠ [] → ∃ b o, p = some ⟨b, o, none⟩ ∧ b < R ∧ ∀ (j : Nat) (h : j < T.length), ∃ us : List Value, us.length = 4 ∧ (∀ i, i < 4 → v.cell? ⟨b, o + j * 4 + i, none⟩ = us[i]?) ∧ Lies (fun b => b < R) m v us T[j]) := fun v hv => by
      obtain ⟨p', cap', q1, _, q3⟩ := frm v hv
      injection q1 with _ q1
      injection q1 with _ q1
      injection q1 with _ q1
      injection q1 with q1 _
      injection q1 with q1 _ _
      subst q1
      exact q3
    have tab : ∀ v, Below w.heap.size w v → Tabs R v := fun v hv => hT.only hRw (only_of_belowM hv)
    rcases hf with ⟨rfl, ha⟩ | ⟨rfl, hk⟩ | ⟨rfl, hk⟩
    · refine val_leaf (m + 1) R s l pl er _ w hRw _ _ _ _ _ _ (by decide) (by decide) (fun v hv => ?_)
      refine (leaf_any v R s l pl er (hm.later hv) ((1 : Nat) : Int) (e : Int) a ha (hgd a ha) hs p T.length cap (tab v hv).1).mono ?_
      rintro e1 w' ⟨h, ho⟩
      refine ⟨?_, ho⟩
      rcases h with ⟨vk, vn, vb, vz, rfl, hL, hm'⟩ | ⟨x, ve, rfl, hne, hL, hm'⟩
      · obtain ⟨f1, f2, f3, f4⟩ := leafTo_fits hL
        have hxs : (s.extract l[a].fro l[a].til).data.toList.length ≤ 100000 := by
          have : (s.extract l[a].fro l[a].til).data.toList.length = (s.extract l[a].fro l[a].til).size := rfl
          have : (s.extract l[a].fro l[a].til).size = min l[a].til s.size - l[a].fro := by simp
          have := (hgd a ha).2
          omega
        have hz : vz.size ≤ maxLen := by
          have : vz.data.toList.length = vz.size := rfl
          simp only at f4
          unfold maxLen
          omega
        simp only at f1 f2 f3
        exact .inl ⟨vk, vn, vb, vz, none, 0, 0, none, 0, 0, _, rfl, ⟨1, a, e, T, rfl, .inr (.inr ⟨by decide, by decide, ha, _, 0, hL, .inl ⟨rfl, rfl⟩⟩)⟩, leaf_lies _ m _ vk vn vb vz f2 f3 hz ⟨by omega, by omega⟩, hm'⟩
      · exact .inr ⟨((l[a].fro : Int), ve), rfl, ⟨1, a, e, T, rfl, .inr (.inr ⟨by decide, by decide, ha, x, ve, hL, .inr ⟨hne, rfl⟩⟩)⟩, hm'⟩
    · refine val_list (m + 1) R s l pl er _ w hRw _ _ _ _ _ _ rfl (fun v hv => ?_)
      refine (list_any m R s l pl er (MeanR (KeyR s l) (LeafR s l) n) v (hm.later hv) (tab v hv) (a : Int) (e : Int) p cap T ⟨h3, by omega⟩ (row v hv) (fun t ht => ih t (hk t ht) m (by omega))).mono ?_
      intro e1 w' h
      exact mout_up (Nat.le_refl _) (fun x hx => ⟨5, a, e, T, rfl, .inr (.inl ⟨rfl, hx⟩)⟩) h
    · subst hmm
      refine val_table (m' + 1 + 1) R s l pl er _ w hRw _ _ _ _ _ _ rfl (fun v hv => ?_)
      refine (table_any m' R s l pl er (MeanR (KeyR s l) (LeafR s l) n) v (hm.later hv) (tab v hv) hs hgd (a : Int) (e : Int) p cap T ⟨h3, by omega⟩ (row v hv) (fun t ht => ?_)).mono ?_
      · obtain ⟨ek, ea, ee, kk, ka, ke, y, q1, q2, q3⟩ := hk t ht
        exact ⟨ek, ea, ee, kk, ka, ke, y, q1, q2, ih y q3 m' (by omega)⟩
      · intro e1 w' h
        exact mout_up (by omega) (fun x hx => ⟨3, a, e, T, rfl, .inl ⟨rfl, hx⟩⟩) h
end Go.Proofs.YtnbfnjhbmeocfaaGreatDoor.valus
set_option linter.unusedVariables false
namespace Go.Proofs.YtnbfnjhbmeocfaaGreatDoor.valus
open trees (nd Sym pv entP KSeg)
abbrev KR := List (List UInt8) → Nat → List UInt8 ⊕ (Int × Int) → Prop
abbrev LR := Nat → V ⊕ (Int × Int) → Prop
def keysE (E : List V) : List (List UInt8) := E.map (fun e => (opnE e).1)
def Each (R : trees.T → V ⊕ (Int × Int) → Prop) : List trees.T → List V → Prop
  | [], [] => True
  | t :: l, v :: vs => R t (.inl v) ∧ Each R l vs
  | _, _ => False
theorem listTo_each {R : trees.T → V ⊕ (Int × Int) → Prop} : ∀ (l : List trees.T) (acc : List V) (v : V), ListTo R l acc (.inl v) ↔ ∃ vs, Each R l vs ∧ v = mkV (5, 0, 0, []) (acc ++ vs) []
  | [], acc, v => by
    constructor
    · intro h
      injection h with h
      exact ⟨[], trivial, by rw [h, List.append_nil]⟩
    · rintro ⟨vs, h1, h2⟩
      cases vs with
      | nil => rw [h2, List.append_nil]; rfl
      | cons a b => exact h1.elim
  | t :: l, acc, v => by
    constructor
    · intro h
      rcases h with ⟨y, h1, h2⟩ | ⟨pq, _, h2⟩
      · obtain ⟨vs, h3, h4⟩ := (listTo_each l _ v).1 h2
        exact ⟨y :: vs, ⟨h1, h3⟩, by rw [h4, List.append_assoc]; rfl⟩
      · cases h2
    · rintro ⟨vs, h1, h2⟩
      cases vs with
      | nil => exact h1.elim
      | cons y vs => exact .inl ⟨y, h1.1, (listTo_each l _ v).2 ⟨vs, h1.2, by rw [h2, List.append_assoc]; rfl⟩⟩
def EachE (kr : KR) (R : trees.T → V ⊕ (Int × Int) → Prop) : List (List UInt8) → List trees.T → List V → Prop
  | _, [], [] => True
  | keys, t :: l, e :: es => ∃ ek ea ee kk ka ke v key y, t = nd ek ea ee [nd kk ka ke [], v] ∧ kr keys ka (.inl key) ∧ R v (.inl y) ∧ e = ent key y ∧ EachE kr R (keys ++ [key]) l es
  | _, _, _ => False
theorem keysE_snoc (acc : List V) (key : List UInt8) (y : V) : keysE (acc ++ [ent key y]) = keysE acc ++ [key] := by
  unfold keysE
  rw [List.map_append]
  rfl
theorem tabTo_each {kr : KR} {R : trees.T → V ⊕ (Int × Int) → Prop} : ∀ (l : List trees.T) (acc : List V) (v : V), TabTo kr R l acc (.inl v) ↔ ∃ es, EachE kr R (keysE acc) l es ∧ ∃ E, E.Perm (acc ++ es) ∧ AscE E ∧ v = mkV (6, 0, 0, []) [] E
  | [], acc, v => by
    constructor
    · rintro ⟨E, h1, h2, h3⟩
      injection h3 with h3
      exact ⟨[], trivial, E, by rw [List.append_nil]; exact h1, h2, h3⟩
    · rintro ⟨es, h1, E, h2, h3, h4⟩
      cases es with
      | nil => exact ⟨E, by rw [List.append_nil] at h2; exact h2, h3, by rw [h4]⟩
      | cons a b => exact h1.elim
  | t :: l, acc, v => by
    constructor
    · rintro ⟨ek, ea, ee, kk, ka, ke, y, h0, h⟩
      rcases h with ⟨key, h1, h2⟩ | ⟨pq, _, h2⟩
      · rcases h2 with ⟨z, h3, h4⟩ | ⟨pq, _, h4⟩
        · obtain ⟨es, h5, E, h6, h7, h8⟩ := (tabTo_each l _ v).1 h4
          rw [keysE_snoc] at h5
          exact ⟨ent key z :: es, ⟨ek, ea, ee, kk, ka, ke, y, key, z, h0, h1, h3, rfl, h5⟩, E, by rw [List.append_assoc] at h6; exact h6, h7, h8⟩
        · cases h4
      · cases h2
    · rintro ⟨es, h1, E, h6, h7, h8⟩
      cases es with
      | nil => exact h1.elim
      | cons e es =>
        obtain ⟨ek, ea, ee, kk, ka, ke, y, key, z, h0, h1, h3, rfl, h5⟩ := h1
        refine ⟨ek, ea, ee, kk, ka, ke, y, h0, .inl ⟨key, h1, .inl ⟨z, h3, (tabTo_each l _ v).2 ⟨es, ?_, E, ?_, h7, h8⟩⟩⟩⟩
        · rw [keysE_snoc]
          exact h5
        · rw [List.append_assoc]
          exact h6
theorem sumOf_perm {N : V → Nat} {l m : List V} (h : l.Perm m) : sumOf N l = sumOf N m := by
  induction h with
  | nil => rfl
  | cons x _ ih => show N x + _ = N x + _; rw [ih]
  | swap x y l => show N y + (N x + _) = N x + (N y + _); omega
  | trans _ _ a b => exact a.trans b
theorem sumOf_mapM (N : V → Nat) (f : V → V) : ∀ E : List V, sumOf N (E.map f) = sumOf (fun x => N (f x)) E
  | [] => rfl
  | a :: b => by show _ + _ = _ + _; rw [sumOf_mapM N f b]
theorem kseg_sum {q : List Sym → trees.R} {ec : UInt8} {R : trees.T → V ⊕ (Int × Int) → Prop} {N : V → Nat} (hN : ∀ seg t v, q seg = .inr (t, []) → R t (.inl v) → N v ≤ seg.length) : ∀ (l : List trees.T) (ts : List Sym) (e : Nat) (vs : List V), KSeg q ec l ts e → Each R l vs → sumOf N vs ≤ ts.length
  | [], _, _, [], _, _ => Nat.zero_le _
  | [], _, _, _ :: _, _, h => h.elim
  | _ :: _, _, _, [], _, h => h.elim
  | t :: l, ts, e, v :: vs, h, hv => by
    obtain ⟨seg, y, rest, h1, h2, rfl, h3⟩ := h
    have n1 := hN seg t v h2 hv.1
    show N v + sumOf N vs ≤ _
    rw [List.length_append, List.length_cons]
    rcases h3 with ⟨_, h4⟩ | ⟨_, rfl, rfl, _⟩
    · have := kseg_sum hN l rest e vs h4 hv.2
      omega
    · have : vs = [] := by
        cases vs with
        | nil => rfl
        | cons a b => exact hv.2.elim
      subst this
      simp only [sumOf]
      omega
theorem kseg_sumE {q : List Sym → trees.R} {ec : UInt8} {kr : KR} {R : trees.T → V ⊕ (Int × Int) → Prop} {N : V → Nat} (hN : ∀ seg t v, q seg = .inr (t, []) → R t (.inl v) → N v ≤ seg.length) : ∀ (l : List trees.T) (ts : List Sym) (e : Nat) (keys : List (List UInt8)) (es : List V), KSeg (entP q) ec l ts e → EachE kr R keys l es → sumOf (fun x => N (opnE x).2) es ≤ ts.length
  | [], _, _, _, [], _, _ => Nat.zero_le _
  | [], _, _, _, _ :: _, _, h => h.elim
  | _ :: _, _, _, _, [], _, h => h.elim
  | t :: l, ts, e, keys, x :: es, h, hv => by
    obtain ⟨seg, y, rest, h1, h2, rfl, h3⟩ := h
    obtain ⟨ek, ea, ee, kk, ka, ke, v, key, z, h0, _, hz, rfl, h5⟩ := hv
    obtain ⟨x, m, sv, v', rfl, _, _, hv', e2⟩ := trees.ent_form h2
    rw [e2] at h0
    obtain ⟨_, _, _, h0⟩ := trees.nd_inj h0
    injection h0 with _ h0
    injection h0 with h0 _
    subst h0
    have n1 := hN sv v' z hv' hz
    show N z + sumOf _ es ≤ _
    rw [List.length_append, List.length_cons, List.length_cons, List.length_cons]
    rcases h3 with ⟨_, h4⟩ | ⟨_, rfl, rfl, _⟩
    · have := kseg_sumE hN l rest e _ es h4 h5
      omega
    · have : es = [] := by
        cases es with
        | nil => rfl
        | cons a b => exact h5.elim
      subst this
      simp only [sumOf]
      omega
theorem mean_nodes {kr : KR} {lf : LR} (hlf : ∀ a v, lf a (.inl v) → ∃ lab, v = mkV lab [] []) (g : Nat) : ∀ (lv f : Nat) (seg : List Sym) (t : trees.T) (v : V), pv lv seg = .inr (t, []) → MeanR kr lf f t (.inl v) → ∀ g, nodesV g v ≤ seg.length
  | 0, _, seg, t, v, h, _ => by
    obtain ⟨lv', e, _⟩ := trees.pv_form h
    omega
  | lv + 1, 0, _, _, _, _, h => h.elim
  | lv + 1, f + 1, seg, t, v, h, hm => by
    intro g
    have ih := mean_nodes (kr := kr) hlf g lv f
    obtain ⟨k, a, e, l, rfl, hm⟩ := hm
    obtain ⟨lv', e', hf⟩ := trees.pv_form h
    have e2 : lv' = lv := by omega
    subst e2
    cases g with
    | zero => exact Nat.zero_le _
    | succ g =>
      rcases hf with ⟨x, rfl, _, h1⟩ | ⟨x, ts, l', e', rfl, _, h1, hk⟩ | ⟨x, ts, l', e', rfl, _, h1, hk⟩
      · obtain ⟨rfl, _, _, _⟩ := trees.nd_inj h1
        rcases hm with ⟨h2, _⟩ | ⟨h2, _⟩ | ⟨_, _, h2⟩
        · omega
        · omega
        · obtain ⟨lab, rfl⟩ := hlf _ _ h2
          exact Nat.le_refl 1
      · obtain ⟨rfl, _, _, rfl⟩ := trees.nd_inj h1
        rcases hm with ⟨_, h2⟩ | ⟨h2, _⟩ | ⟨h2, _⟩
        · obtain ⟨es, h3, E, h4, _, rfl⟩ := (tabTo_each _ _ _).1 h2
          have := kseg_sumE (N := nodesV g) (fun seg t v a b => ih seg t v a b g) l ts e' _ es hk h3
          show sumOf (nodesV g) (parts _) + 1 ≤ _
          rw [parts_mk, List.nil_append, List.length_cons]
          rw [sumOf_mapM, sumOf_perm h4, List.nil_append]
          omega
        · omega
        · omega
      · obtain ⟨rfl, _, _, rfl⟩ := trees.nd_inj h1
        rcases hm with ⟨h2, _⟩ | ⟨_, h2⟩ | ⟨_, h2, _⟩
        · omega
        · obtain ⟨vs, h3, rfl⟩ := (listTo_each _ _ _).1 h2
          have := kseg_sum (N := nodesV g) (fun seg t v a b => ih seg t v a b g) l ts e' vs hk h3
          show sumOf (nodesV g) (parts _) + 1 ≤ _
          rw [parts_mk, List.map_nil, List.append_nil, List.nil_append, List.length_cons]
          omega
        · omega
end Go.Proofs.YtnbfnjhbmeocfaaGreatDoor.valus
set_option linter.unusedVariables false
namespace Go.Proofs.YtnbfnjhbmeocfaaGreatDoor.valus
open trees (nd)
def Fun1 {α β : Type} (R : α → β → Prop) : Prop := ∀ a x y, R a x → R a y → x = y
theorem listTo_unique {R : trees.T → V ⊕ (Int × Int) → Prop} (hR : Fun1 R) : ∀ (l : List trees.T) (acc : List V) (x y : V ⊕ (Int × Int)), ListTo R l acc x → ListTo R l acc y → x = y
  | [], _, _, _, h, k => by rw [h, k]
  | t :: l, acc, x, y, h, k => by
    rcases h with ⟨v, h1, h2⟩ | ⟨pq, h1, h2⟩ <;> rcases k with ⟨u, k1, k2⟩ | ⟨rs, k1, k2⟩
    · have e := hR _ _ _ h1 k1
      injection e with e
      subst e
      exact listTo_unique hR l _ _ _ h2 k2
    · have e := hR _ _ _ h1 k1
      cases e
    · have e := hR _ _ _ h1 k1
      cases e
    · have e := hR _ _ _ h1 k1
      rw [h2, k2, e]
theorem asc_unique {E F acc : List V} (h : E.Perm acc) (h2 : AscE E) (k : F.Perm acc) (k2 : AscE F) : E = F :=
  List.Perm.eq_of_pairwise (fun a b _ _ h1 h2 => absurd h2 (cmpB_asym h1)) h2 k2 (h.trans k.symm)
theorem tabTo_unique {kr : KR} {R : trees.T → V ⊕ (Int × Int) → Prop} (hk : ∀ keys, Fun1 (kr keys)) (hR : Fun1 R) : ∀ (l : List trees.T) (acc : List V) (x y : V ⊕ (Int × Int)), TabTo kr R l acc x → TabTo kr R l acc y → x = y
  | [], _, _, _, ⟨E, h1, h2, h3⟩, ⟨F, k1, k2, k3⟩ => by rw [h3, k3, asc_unique h1 h2 k1 k2]
  | t :: l, acc, x, y, h, k => by
    obtain ⟨ek, ea, ee, kk, ka, ke, v, e, h⟩ := h
    obtain ⟨ek', ea', ee', kk', ka', ke', v', e', k⟩ := k
    rw [e] at e'
    obtain ⟨_, _, _, e2⟩ := trees.nd_inj e'
    injection e2 with e3 e4
    injection e4 with e4 _
    obtain ⟨_, rfl, _, _⟩ := trees.nd_inj e3
    subst e4
    rcases h with ⟨key, h1, h2⟩ | ⟨pq, h1, h2⟩ <;> rcases k with ⟨key', k1, k2⟩ | ⟨rs, k1, k2⟩
    · have q := hk _ _ _ _ h1 k1
      injection q with q
      subst q
      rcases h2 with ⟨z, h3, h4⟩ | ⟨pq, h3, h4⟩ <;> rcases k2 with ⟨z', k3, k4⟩ | ⟨rs, k3, k4⟩
      · have q := hR _ _ _ h3 k3
        injection q with q
        subst q
        exact tabTo_unique hk hR l _ _ _ h4 k4
      · have q := hR _ _ _ h3 k3
        cases q
      · have q := hR _ _ _ h3 k3
        cases q
      · rw [h4, k4, hR _ _ _ h3 k3]
    · have q := hk _ _ _ _ h1 k1
      cases q
    · have q := hk _ _ _ _ h1 k1
      cases q
    · have q := hk _ _ _ _ h1 k1
      injection q with q
      rw [h2, k2, q]
theorem meanR_unique {kr : KR} {lf : LR} (hk : ∀ keys, Fun1 (kr keys)) (hl : Fun1 lf) : ∀ (f : Nat), Fun1 (MeanR kr lf f)
  | 0 => fun _ _ _ h => h.elim
  | f + 1 => fun t x y h k => by
    have ih := meanR_unique hk hl f
    obtain ⟨k1, a, e, l, rfl, h⟩ := h
    obtain ⟨k2, a', e', l', e2, k⟩ := k
    obtain ⟨rfl, rfl, rfl, rfl⟩ := trees.nd_inj e2
    rcases h with ⟨h1, h2⟩ | ⟨h1, h2⟩ | ⟨h1, h2, h3⟩ <;> rcases k with ⟨k1, k2⟩ | ⟨k1, k2⟩ | ⟨k1, k2, k3⟩
    · exact tabTo_unique hk ih _ _ _ _ h2 k2
    · omega
    · exact absurd h1 k1
    · omega
    · exact listTo_unique ih _ _ _ _ h2 k2
    · exact absurd h1 k2
    · exact absurd k1 h1
    · exact absurd k1 h2
    · exact hl _ _ _ h3 k3
theorem wordTo_unique {l : List UInt8} {x y : Lab} {e f : Int} (h : WordTo l x e) (k : WordTo l y f) : x = y ∧ e = f := by
  rcases h with ⟨h1, h2, h3⟩ | ⟨h1, h2, h3⟩ | ⟨h1, h2, h3⟩ | ⟨⟨n1, n2, n3⟩, h⟩ <;> rcases k with ⟨k1, k2, k3⟩ | ⟨k1, k2, k3⟩ | ⟨k1, k2, k3⟩ | ⟨⟨m1, m2, m3⟩, k⟩
  · exact ⟨by rw [h2, k2], by rw [h3, k3]⟩
  · rw [h1] at k1; cases k1
  · rw [h1] at k1; cases k1
  · exact absurd h1 m1
  · rw [h1] at k1; cases k1
  · exact ⟨by rw [h2, k2], by rw [h3, k3]⟩
  · rw [h1] at k1; cases k1
  · exact absurd h1 m2
  · rw [h1] at k1; cases k1
  · rw [h1] at k1; cases k1
  · exact ⟨by rw [h2, k2], by rw [h3, k3]⟩
  · exact absurd h1 m3
  · exact absurd k1 n1
  · exact absurd k1 n2
  · exact absurd k1 n3
  · rcases h with ⟨h1, h2, h3⟩ | ⟨h1, v, h2, h3⟩ <;> rcases k with ⟨k1, k2, k3⟩ | ⟨k1, u, k2, k3⟩
    · subst h2 k2
      exact ⟨by rw [h3, k3], rfl⟩
    · exact absurd k1 h1
    · exact absurd h1 k1
    · obtain ⟨q1, q2⟩ := bigs.reads_unique h2 k2
      subst q1 q2
      exact ⟨by rw [h3, k3], rfl⟩
theorem leafTo_unique {src : List UInt8} {k : Nat} {x y : Lab} {e f : Int} (h : LeafTo src k x e) (g : LeafTo src k y f) : x = y ∧ e = f := by
  unfold LeafTo at h g
  by_cases hk : k = 4
  · rw [if_pos hk] at h g
    exact wordTo_unique h g
  · rw [if_neg hk] at h g
    obtain ⟨h1, h2⟩ := h
    obtain ⟨g1, g2⟩ := g
    subst h1 g1
    exact ⟨by rw [h2, g2], rfl⟩
theorem keyTo_unique {src : List UInt8} {k : Nat} {x y : List UInt8} {e f : Int} (h : KeyTo src k x e) (g : KeyTo src k y f) : x = y ∧ e = f := by
  unfold KeyTo at h g
  by_cases hk : k = 4
  · rw [if_pos hk] at h g
    by_cases hb : escs.bareL src = true
    · rw [if_pos hb] at h g
      exact ⟨by rw [h.1, g.1], by rw [h.2, g.2]⟩
    · rw [if_neg hb] at h g
      exact ⟨by rw [h.1, g.1], by rw [h.2, g.2]⟩
  · rw [if_neg hk] at h g
    exact ⟨by rw [h.1, g.1], by rw [h.2, g.2]⟩
abbrev Tok2 := Nat × List UInt8
def LeafG (ct : Nat → Tok2) (pl : Nat → Int) (j : Nat) (x : V ⊕ (Int × Int)) : Prop :=
  ∃ (lab : Lab) (er : Int), LeafTo (ct j).2 (ct j).1 lab er ∧ ((er = 0 ∧ x = .inl (mkV lab [] [])) ∨ (er ≠ 0 ∧ x = .inr (pl j, er)))
def KeyG (ct : Nat → Tok2) (pl : Nat → Int) (keys : List (List UInt8)) (j : Nat) (x : List UInt8 ⊕ (Int × Int)) : Prop :=
  ∃ (key : List UInt8) (ke : Int), KeyTo (ct j).2 (ct j).1 key ke ∧ ((ke = 0 ∧ key ∉ keys ∧ x = .inl key) ∨ (ke = 0 ∧ key ∈ keys ∧ x = .inr (pl j, 6)) ∨ (ke ≠ 0 ∧ x = .inr (pl j, ke)))
theorem leafG_fun (ct : Nat → Tok2) (pl : Nat → Int) : Fun1 (LeafG ct pl) := fun j x y h k => by
  obtain ⟨lab, er, h1, h2⟩ := h
  obtain ⟨lab', er', k1, k2⟩ := k
  obtain ⟨rfl, rfl⟩ := leafTo_unique h1 k1
  rcases h2 with ⟨a, b⟩ | ⟨a, b⟩ <;> rcases k2 with ⟨c, d⟩ | ⟨c, d⟩
  · rw [b, d]
  · exact absurd a c
  · exact absurd c a
  · rw [b, d]
theorem keyG_fun (ct : Nat → Tok2) (pl : Nat → Int) (keys : List (List UInt8)) : Fun1 (KeyG ct pl keys) := fun j x y h k => by
  obtain ⟨key, ke, h1, h2⟩ := h
  obtain ⟨key', ke', k1, k2⟩ := k
  obtain ⟨rfl, rfl⟩ := keyTo_unique h1 k1
  rcases h2 with ⟨a, b, c⟩ | ⟨a, b, c⟩ | ⟨a, c⟩ <;> rcases k2 with ⟨a', b', c'⟩ | ⟨a', b', c'⟩ | ⟨a', c'⟩
  · rw [c, c']
  · exact absurd b' b
  · exact absurd a a'
  · exact absurd b b'
  · rw [c, c']
  · exact absurd a a'
  · exact absurd a' a
  · exact absurd a' a
  · rw [c, c']
def ctOf (s : ByteArray) (l : List toks.Tk) (j : Nat) : Tok2 := if h : j < l.length then (l[j].kind, (s.extract l[j].fro l[j].til).data.toList) else (0, [])
def plOf (l : List toks.Tk) (j : Nat) : Int := if h : j < l.length then (l[j].fro : Int) else 0
theorem leafR_iff {s : ByteArray} {l : List toks.Tk} {j : Nat} {x : V ⊕ (Int × Int)} (hj : j < l.length) : LeafR s l j x ↔ LeafG (ctOf s l) (plOf l) j x := by
  unfold LeafR LeafG ctOf plOf
  simp only [dif_pos hj]
  constructor
  · rintro ⟨_, lab, er, h⟩
    exact ⟨lab, er, h⟩
  · rintro ⟨lab, er, h⟩
    exact ⟨hj, lab, er, h⟩
theorem keyR_iff {s : ByteArray} {l : List toks.Tk} {keys : List (List UInt8)} {j : Nat} {x : List UInt8 ⊕ (Int × Int)} (hj : j < l.length) : KeyR s l keys j x ↔ KeyG (ctOf s l) (plOf l) keys j x := by
  unfold KeyR KeyG ctOf plOf
  simp only [dif_pos hj]
  constructor
  · rintro ⟨_, lab, er, h⟩
    exact ⟨lab, er, h⟩
  · rintro ⟨lab, er, h⟩
    exact ⟨hj, lab, er, h⟩
theorem leafR_fun (s : ByteArray) (l : List toks.Tk) : Fun1 (LeafR s l) := fun j x y h k => by
  have hj := h.1
  exact leafG_fun _ _ j x y ((leafR_iff hj).1 h) ((leafR_iff hj).1 k)
theorem keyR_fun (s : ByteArray) (l : List toks.Tk) (keys : List (List UInt8)) : Fun1 (KeyR s l keys) := fun j x y h k => by
  have hj := h.1
  exact keyG_fun _ _ keys j x y ((keyR_iff hj).1 h) ((keyR_iff hj).1 k)
end Go.Proofs.YtnbfnjhbmeocfaaGreatDoor.valus
