/- The program's reader: byte by byte. -/
import Derived.Test.YtdpoiagnjdajbaaDoorPtelAR
import Derived.Test.YtdpoiagnjdajbaaDoorPtelAP
import Derived.Test.YtdpoiagnjdajbaaDoorPtelAF
import Derived.Test.YtdpoiagnjdajbaaDoorPtelAB
set_option linter.unusedVariables false
namespace Go.Proofs.YtdpoiagnjdajbaaDoor.valus
open Go.RowKit Go.Shelf

/-- These bytes lie from o on in block g. -/
def BytesAt (W : World) (p : Option Addr) (l : List UInt8) (R : Nat) : Prop := l ≠ [] → ∃ g o, p = some ⟨g, o, none⟩ ∧ g < R ∧ ∀ j u, (l.map cellB)[j]? = some u → W.cell? ⟨g, o + j, none⟩ = some u
/-- The reader in block R stands so. -/
def RdAt (W : World) (R : Nat) (s : St) : Prop :=
  ∃ p c, Blk W R #[.slice p s.1.length c, .bool s.2.1, .int .i64 (s.2.2 : Int)] 46 ∧ s.1.length ≤ c ∧ c ≤ maxLen ∧ BytesAt W p s.1 R
theorem BytesAt.kept {W W' : World} {p : Option Addr} {l : List UInt8} {R : Nat} (h : BytesAt W p l R) (hb : ∀ b, b < R → W'.heap[b]? = W.heap[b]?) : BytesAt W' p l R := fun hl => by
  obtain ⟨g, o, h1, h2, h4⟩ := h hl
  exact ⟨g, o, h1, h2, fun j u hj => (World.cell?_of_block (a := ⟨g, o + j, none⟩) (hb g h2)).trans (h4 j u hj)⟩
theorem RdAt.lt {W : World} {R : Nat} {s : St} (h : RdAt W R s) : R < W.heap.size := by
  obtain ⟨p, c, hb, _⟩ := h
  exact hb.lt
theorem RdAt.later {W W' : World} {R : Nat} {s : St} (h : RdAt W R s) (hb : Below W.heap.size W W') : RdAt W' R s := by
  have hl := h.lt
  obtain ⟨p, c, h1, h2, h3, h4⟩ := h
  exact ⟨p, c, (hb.block R hl).trans h1, h2, h3, h4.kept (fun b hlt => hb.block b (by omega))⟩
/-- Only the reader's block has turned. -/
abbrev Only (R : Nat) (w w' : World) : Prop := w.grownBy w' (some R)
theorem Only.refl (R : Nat) (w : World) : Only R w w := ⟨rfl, rfl, rfl, Nat.le_refl _, fun _ _ _ => rfl⟩
theorem Only.trans {R : Nat} {a b c : World} (h : Only R a b) (k : Only R b c) : Only R a c :=
  ⟨k.os.trans h.os, k.tape.trans h.tape, k.output.trans h.output, Nat.le_trans h.size k.size, fun q hq hn => (k.block q (Nat.lt_of_lt_of_le hq h.size) hn).trans (h.block q hq hn)⟩
theorem only_set (R : Nat) (w : World) (o : Nat) (v : Value) : Only R w (w.setCell ⟨R, o, none⟩ v) := ⟨rfl, rfl, rfl, by simp [World.setCell], fun b _ hn => Below.heap_setCell _ _ _ _ (fun e => hn (by rw [e]))⟩
set_option maxHeartbeats 2000000 in
theorem fail_any (w : World) (R : Nat) (s : St) (h : RdAt w R s) : Calls Tryd.prog 37 #[.pointer (some ⟨R, 0, none⟩)] w fun e w' => (∃ v, e = .returned v) ∧ RdAt w' R (failM s) ∧ Only R w w' := by
  obtain ⟨p, c, hb, h2, h3, h4⟩ := h
  have c0 := hb.cell 0 _ rfl
  have c1 := hb.cell 1 _ rfl
  have f0 := hb.froz 0
  have f1 := hb.froz 1
  have hb1 := hb.set 1 (.bool true)
  have g0 := hb1.cell 0 _ rfl
  have k0 := hb1.froz 0
  have hb2 := hb1.set 0 (.slice none 0 0)
  go_enter Tryd.func37, Tryd.ntmps37
  go_wp2
  go_end0
  refine ⟨⟨_, rfl⟩, ⟨none, 0, ?_, Nat.le_refl _, Nat.zero_le _, fun h => absurd rfl h⟩, (only_set R w 1 _).trans (only_set R _ 0 _)⟩
  exact hb2
set_option maxHeartbeats 4000000 in
theorem byte_any (w : World) (R : Nat) (s : St) (h : RdAt w R s) : Calls Tryd.prog 38 #[.pointer (some ⟨R, 0, none⟩)] w fun e w' => e = .returned (.int .u8 ((byteM s).1.toNat : Int)) ∧ RdAt w' R (byteM s).2 ∧ Only R w w' := by
  obtain ⟨l, x⟩ := s
  cases l with
  | nil =>
    have HF := hide (fail_any w R ([], x) h)
    obtain ⟨p, c, hb, h2, h3, h4⟩ := h
    have c0 := hb.cell 0 _ rfl
    simp only [List.length_nil] at c0
    clear h2 h3 h4
    go_enter Tryd.func38, Tryd.ntmps38
    go_wp2_with (go_at_call 37; refine (unhide HF).mono ?_; rintro e w1 ⟨⟨v, rfl⟩, hr, ho⟩)
    go_ret
    exact ⟨rfl, hr, ho⟩
  | cons y r =>
    obtain ⟨p, c, hb, h2, h3, h4⟩ := h
    obtain ⟨g, o, rfl, hlt, hc⟩ := h4 (by simp)
    have hne : g ≠ R := by omega
    have c0 := hb.cell 0 _ rfl
    simp only [List.length_cons] at c0 h2
    have f0 := hb.froz 0
    have y0 : w.cell? ⟨g, o, none⟩ = some (.int .u8 (y.toNat : Int)) := hc 0 _ rfl
    have h63 : r.length + 1 ≤ 9223372036854775807 := by unfold maxLen at h3; omega
    have hfin : ∀ q, (r ≠ [] → q = some ⟨g, o + 1, none⟩) → RdAt (w.setCell ⟨R, 0, none⟩ (.slice q r.length (c - 1))) R (r, x) := fun q hq => by
      refine ⟨q, c - 1, hb.set 0 (.slice q r.length (c - 1)), by simp only; omega, by omega, fun hr => ?_⟩
      refine ⟨g, o + 1, hq hr, hlt, fun j u hj => ?_⟩
      have := hc (j + 1) u (by simpa using hj)
      rw [show o + 1 + j = o + (j + 1) by omega]
      rw [← this]
      exact World.cell?_of_block (Below.heap_setCell _ _ _ _ (fun e => hne e))
    have HF := hide hfin
    clear hfin hc h3
    by_cases hc1 : c = 1
    · subst hc1
      obtain rfl : r = [] := List.eq_nil_of_length_eq_zero (by omega)
      simp only [List.length_nil, Nat.zero_add] at c0 h2 h63
      go_enter Tryd.func38, Tryd.ntmps38
      go_wp2
      go_ret
      exact ⟨rfl, HF.out (some ⟨g, o, none⟩) (fun h => absurd rfl h), only_set R w 0 _⟩
    · go_enter Tryd.func38, Tryd.ntmps38
      go_wp2
      go_ret
      exact ⟨rfl, HF.out _ (fun _ => rfl), only_set R w 0 _⟩
theorem u8_test {c : UInt8} {d : Nat} (hd : d < 256) : (c = UInt8.ofNat d) ↔ (c.toNat : Int) = (d : Int) := by
  constructor
  · intro h
    rw [h, u8_small hd]
  · intro h
    apply UInt8.toNat_inj.1
    rw [u8_small hd]
    omega
set_option maxHeartbeats 4000000 in
theorem inside_any (w : World) (R : Nat) (s : St) (h : RdAt w R s) : Calls Tryd.prog 65 #[.pointer (some ⟨R, 0, none⟩)] w fun e w' => e = .returned (.bool (insideM s).1) ∧ RdAt w' R (insideM s).2 ∧ Only R w w' := by
  have HB := hide (byte_any w R s h)
  have HF : ∀ w1, Hid (RdAt w1 R (byteM s).2 → Calls Tryd.prog 37 #[.pointer (some ⟨R, 0, none⟩)] w1 fun e w' => (∃ v, e = .returned v) ∧ RdAt w' R (failM (byteM s).2) ∧ Only R w1 w') := fun w1 h1 => fail_any w1 R _ h1
  clear h
  by_cases c1 : (byteM s).1 = 255
  · have e : insideM s = (true, (byteM s).2) := if_pos c1
    rw [e]
    rw [c1] at HB
    generalize (byteM s).2 = s1 at *
    have z : ((255 : UInt8).toNat : Int) = 255 := rfl
    rw [z] at HB
    clear e c1 HF
    go_enter Tryd.func65, Tryd.ntmps65
    go_wp2_with (go_at_call 38; refine (unhide HB).mono ?_; rintro e w1 ⟨rfl, hr, ho⟩)
    go_ret
    exact ⟨rfl, hr, ho⟩
  · by_cases c2 : (byteM s).1 = 0
    · have e : insideM s = (false, (byteM s).2) := by unfold insideM; rw [if_neg c1, if_pos c2]
      rw [e]
      rw [c2] at HB
      generalize (byteM s).2 = s1 at *
      have z : ((0 : UInt8).toNat : Int) = 0 := rfl
      rw [z] at HB
      clear e c1 c2 HF
      go_enter Tryd.func65, Tryd.ntmps65
      go_wp2_with (go_at_call 38; refine (unhide HB).mono ?_; rintro e w1 ⟨rfl, hr, ho⟩)
      go_ret
      exact ⟨rfl, hr, ho⟩
    · have e : insideM s = (false, failM (byteM s).2) := by unfold insideM; rw [if_neg c1, if_neg c2]
      rw [e]
      have t1 : (((byteM s).1.toNat : Int) == 255) = false := beq_eq_false_iff_ne.2 (fun h => c1 ((u8_test (d := 255) (by omega)).2 h))
      have t2 : (((byteM s).1.toNat : Int) == 0) = false := beq_eq_false_iff_ne.2 (fun h => c2 ((u8_test (d := 0) (by omega)).2 h))
      generalize ((byteM s).1.toNat : Int) = zb at *
      generalize (byteM s).2 = s1 at *
      clear e c1 c2
      go_enter Tryd.func65, Tryd.ntmps65
      go_wp2_with (first
        | (go_at_call 38; refine (unhide HB).mono ?_; rintro e w1 ⟨rfl, hr, ho⟩)
        | (go_at_call 37; refine (unhide (HF _) hr).mono ?_; rintro e w2 ⟨⟨v, rfl⟩, hr2, ho2⟩))
      go_ret
      exact ⟨rfl, hr2, ho.trans ho2⟩
set_option maxHeartbeats 4000000 in
theorem has_any (w : World) (R : Nat) (s : St) (h : RdAt w R s) : Calls Tryd.prog 68 #[.pointer (some ⟨R, 0, none⟩)] w fun e w' => e = .returned (.bool (hasM s).1) ∧ RdAt w' R (hasM s).2 ∧ Only R w w' := by
  have HB := hide (byte_any w R s h)
  have HF : ∀ w1, Hid (RdAt w1 R (byteM s).2 → Calls Tryd.prog 37 #[.pointer (some ⟨R, 0, none⟩)] w1 fun e w' => (∃ v, e = .returned v) ∧ RdAt w' R (failM (byteM s).2) ∧ Only R w1 w') := fun w1 h1 => fail_any w1 R _ h1
  clear h
  by_cases c1 : (byteM s).1 = 1
  · have e : hasM s = (true, (byteM s).2) := if_pos c1
    rw [e]
    rw [c1] at HB
    generalize (byteM s).2 = s1 at *
    have z : ((1 : UInt8).toNat : Int) = 1 := rfl
    rw [z] at HB
    clear e c1 HF
    go_enter Tryd.func68, Tryd.ntmps68
    go_wp2_with (go_at_call 38; refine (unhide HB).mono ?_; rintro e w1 ⟨rfl, hr, ho⟩)
    go_ret
    exact ⟨rfl, hr, ho⟩
  · by_cases c2 : (byteM s).1 = 0
    · have e : hasM s = (false, (byteM s).2) := by unfold hasM; rw [if_neg c1, if_pos c2]
      rw [e]
      rw [c2] at HB
      generalize (byteM s).2 = s1 at *
      have z : ((0 : UInt8).toNat : Int) = 0 := rfl
      rw [z] at HB
      clear e c1 c2 HF
      go_enter Tryd.func68, Tryd.ntmps68
      go_wp2_with (go_at_call 38; refine (unhide HB).mono ?_; rintro e w1 ⟨rfl, hr, ho⟩)
      go_ret
      exact ⟨rfl, hr, ho⟩
    · have e : hasM s = (false, failM (byteM s).2) := by unfold hasM; rw [if_neg c1, if_neg c2]
      rw [e]
      have t1 : (((byteM s).1.toNat : Int) == 1) = false := beq_eq_false_iff_ne.2 (fun h => c1 ((u8_test (d := 1) (by omega)).2 h))
      have t2 : (((byteM s).1.toNat : Int) == 0) = false := beq_eq_false_iff_ne.2 (fun h => c2 ((u8_test (d := 0) (by omega)).2 h))
      generalize ((byteM s).1.toNat : Int) = zb at *
      generalize (byteM s).2 = s1 at *
      clear e c1 c2
      go_enter Tryd.func68, Tryd.ntmps68
      go_wp2_with (first
        | (go_at_call 38; refine (unhide HB).mono ?_; rintro e w1 ⟨rfl, hr, ho⟩)
        | (go_at_call 37; refine (unhide (HF _) hr).mono ?_; rintro e w2 ⟨⟨v, rfl⟩, hr2, ho2⟩))
      go_ret
      exact ⟨rfl, hr2, ho.trans ho2⟩
end Go.Proofs.YtdpoiagnjdajbaaDoor.valus
/- Rows of values, or of entries, that are being made. -/
set_option linter.unusedVariables false
namespace Go.Proofs.YtdpoiagnjdajbaaDoor.valus
open Go.RowKit Go.Shelf

/-- What is told of cells stands where their blocks do. -/
def KeptQ (Q : (Nat → Prop) → World → List Value → V → Prop) : Prop :=
  ∀ (ok ok' : Nat → Prop) (w w' : World) (us : List Value) (y : V), Q ok w us y → (∀ b, ok b → ok' b) → w.heap.size ≤ w'.heap.size → (∀ b, ok b → b < w.heap.size → w'.heap[b]? = w.heap[b]?) → Q ok' w' us y
def okR (n0 : Nat) (W : World) (v : Value) (b : Nat) : Prop := n0 ≤ b ∧ b < W.heap.size ∧ some b ≠ v.ownBlock
/-- The slice v has these, k cells each, in a block of its own from n0 on; what they hold lies from n0 on, too, and elsewhere. -/
def OwnR (T : TypeId) (k : Nat) (Q : (Nat → Prop) → World → List Value → V → Prop) (n0 : Nat) (W : World) (v : Value) (F : List V) : Prop :=
  ∃ rows : List (List Value), W.ownsRow n0 T k v F.length rows.flatten ∧ rows.length = F.length ∧ ∀ (i : Nat) (us : List Value), rows[i]? = some us → us.length = k ∧ ∃ y, F[i]? = some y ∧ Q (okR n0 W v) W us y
theorem OwnR.nil (T : TypeId) (k : Nat) (Q : (Nat → Prop) → World → List Value → V → Prop) (n0 : Nat) (W : World) : OwnR T k Q n0 W (.slice none 0 0) [] := ⟨[], World.ownsRow_nil _ _ _ _, rfl, fun i us h => by simp at h⟩
theorem OwnR.lt {T : TypeId} {k : Nat} {Q : (Nat → Prop) → World → List Value → V → Prop} {n0 : Nat} {W : World} {v : Value} {F : List V} (h : OwnR T k Q n0 W v F) : ∀ g, v.ownBlock = some g → n0 ≤ g ∧ g < W.heap.size := fun g hg => by
  obtain ⟨rows, ho, _⟩ := h
  exact World.ownsRow.lt ho g hg
/-- The reader's block turns: the row stands. -/
theorem OwnR.only {T : TypeId} {k : Nat} {Q : (Nat → Prop) → World → List Value → V → Prop} (hQ : KeptQ Q) {n0 R : Nat} {W W' : World} {v : Value} {F : List V} (h : OwnR T k Q n0 W v F) (hR : R < n0) (ho : Only R W W') : OwnR T k Q n0 W' v F := by
  have hlt := h.lt
  obtain ⟨rows, hw, hl, hr⟩ := h
  refine ⟨rows, World.ownsRow.kept hw (row := some R) ho ?_, hl, fun i us hi => ?_⟩
  · exact Classical.byCases (fun e : v.ownBlock = none => .inl e) (fun e => .inr (fun e2 => by have := hlt R e2; omega))
  · obtain ⟨h1, y, h2, h3⟩ := hr i us hi
    exact ⟨h1, y, h2, hQ _ _ _ _ _ _ h3 (fun b hb => ⟨hb.1, Nat.lt_of_lt_of_le hb.2.1 ho.size, hb.2.2⟩) ho.size (fun b hb hlt' => ho.block b hlt' (fun e => by injection e with e; have := hb.1; omega))⟩
/-- One more. -/
theorem OwnR.push {T tS : TypeId} {k by' : Nat} {Q : (Nat → Prop) → World → List Value → V → Prop} (hQ : KeptQ Q) {i : TypeInfo} {z : Value} (ht : Tryd.prog.underlying tS = some (.slice T)) (hi : Tryd.prog.info? T = some i) (hz : i.zero = some z) (hsize : i.size = k) (hby : i.bytes = by') (hzs : z.cells.size = k) (hk : 0 < k) (hb200 : by' ≤ 200)
    {n0 : Nat} {W : World} {v : Value} {F : List V} (h : OwnR T k Q n0 W v F) (hn : n0 ≤ W.heap.size) (us : List Value) (y : V) (hus : us.length = k) (h1 : ∀ u ∈ us, u.oneCell' = true) (hq : Q (okR n0 W v) W us y) (hlen : F.length ≤ 100000000) (ty : TypeId) :
    ∃ v' W', (Builtin.append_ #[tS, tS] ty #[v, .slice (some ⟨W.heap.size, 0, none⟩) 1 1]).run Tryd.prog (W.alloc (.cells us.toArray T)) = .ok v' W' ∧ OwnR T k Q n0 W' v' (F ++ [y]) ∧ Grew W W' v v' := by
  have hlt := h.lt
  obtain ⟨rows, hw, hl, hr⟩ := h
  have hb : Below W.heap.size W (W.alloc (.cells us.toArray T)) := (Below.refl _ W).alloc (Nat.le_refl _) _
  have hw1 : (W.alloc (.cells us.toArray T)).ownsRow n0 T k v F.length rows.flatten := by
    refine World.ownsRow.kept hw (row := none) ⟨hb.os, hb.tape, hb.output, hb.size, fun b hlt _ => hb.block b hlt⟩ ?_
    cases hv : v.ownBlock with
    | none => exact .inl rfl
    | some g => exact .inr (by simp)
  have hbytes : (F.length + 1) * by' ≤ 140737488355328 := by
    have := Nat.mul_le_mul (by omega : F.length + 1 ≤ 100000001) hb200
    omega
  obtain ⟨v', W', hrun, hown', hgrow, _, hat⟩ := run_append_own_at (P := Tryd.prog) (W.alloc (.cells us.toArray T)) n0 tS ty T i z k by' ht hi hz hsize hby hzs hk v _ _ hw1 ⟨W.heap.size, 0, none⟩ 1 1 us (by omega) (fun j u hj => by
    rw [Addr.add_lit, Nat.zero_add]
    exact Blk.cell (blk_alloc W us.toArray T) j u (by simpa using hj)) h1 (by unfold maxLen; omega) hbytes (by simp; omega)
  have hg : Grew W W' v v' := (Grew.below hb v).trans ⟨hgrow, hat.imp id (fun h => ⟨_, h, Nat.le_refl _⟩)⟩
  have hs := hg.by'.size
  have okk : ∀ b, okR n0 W v b → okR n0 W' v' b := fun b hb' => ⟨hb'.1, by have := hb'.2.1; omega, (hg.block hb'.2.1 hb'.2.2).2⟩
  have blk : ∀ b, okR n0 W v b → b < W.heap.size → W'.heap[b]? = W.heap[b]? := fun b hb' hlt' => (hg.block hlt' hb'.2.2).1
  refine ⟨v', W', hrun, ⟨rows ++ [us], ?_, by simp [hl], fun j xs hj => ?_⟩, hg⟩
  · rw [List.length_append]
    simpa using hown'
  · rcases Nat.lt_or_ge j rows.length with hlt' | hge
    · rw [List.getElem?_append_left hlt'] at hj
      obtain ⟨a1, y', a2, a3⟩ := hr j xs hj
      exact ⟨a1, y', by rw [List.getElem?_append_left (by rw [← hl]; exact hlt')]; exact a2, hQ _ _ _ _ _ _ a3 okk hs blk⟩
    · rw [List.getElem?_append_right hge] at hj
      have hj0 : j - rows.length = 0 := by
        rcases Nat.eq_zero_or_pos (j - rows.length) with h0 | h0
        · exact h0
        · rw [List.getElem?_eq_none (by simp; omega)] at hj
          cases hj
      rw [hj0] at hj
      simp only [List.getElem?_cons_zero, Option.some.injEq] at hj
      subst hj
      refine ⟨hus, y, ?_, hQ _ _ _ _ _ _ hq okk hs blk⟩
      rw [List.getElem?_append_right (by rw [← hl]; exact hge), ← hl, hj0]
      rfl
theorem flatK_at {d : Nat} : ∀ {rows : List (List Value)} {i r : Nat} {us : List Value}, (∀ (i : Nat) (us : List Value), rows[i]? = some us → us.length = d) → rows[i]? = some us → r < d → rows.flatten[i * d + r]? = us[r]?
  | [], i, r, us, _, h, _ => by simp at h
  | a :: rows, 0, r, us, hd, h, hr => by
    simp only [List.getElem?_cons_zero, Option.some.injEq] at h
    subst h
    have := hd 0 a rfl
    rw [List.flatten_cons, Nat.zero_mul, Nat.zero_add, List.getElem?_append_left (by omega)]
  | a :: rows, i + 1, r, us, hd, h, hr => by
    have ha := hd 0 a rfl
    rw [List.getElem?_cons_succ] at h
    have := flatK_at (fun i us hi => hd (i + 1) us (by simpa using hi)) h hr
    rw [List.flatten_cons, List.getElem?_append_right (by rw [ha, Nat.add_mul]; omega), ha, ← this]
    congr 1
    rw [Nat.add_mul]
    omega
/-- The row as it lies. -/
theorem OwnR.row {T : TypeId} {k : Nat} {Q : (Nat → Prop) → World → List Value → V → Prop} (hQ : KeptQ Q) {n0 : Nat} {W : World} {v : Value} {F : List V} (h : OwnR T k Q n0 W v F) : ∃ p c, v = .slice p F.length c ∧ F.length ≤ c ∧ c ≤ maxLen ∧ RowIn (fun b => n0 ≤ b ∧ b < W.heap.size) W p k F.length (fun j us => ∃ y, F[j]? = some y ∧ Q (fun b => n0 ≤ b ∧ b < W.heap.size) W us y) := by
  obtain ⟨rows, ⟨hl, ho⟩, hrl, hr⟩ := h
  rcases ho with ⟨rfl, h0⟩ | ⟨g, cap, cur, rfl, hg0, hg, h1, h2, h3, h4⟩
  · exact ⟨none, 0, by rw [h0], by omega, Nat.zero_le _, fun hn => absurd h0 hn⟩
  · have hgl := (Array.getElem?_eq_some_iff.1 hg).1
    refine ⟨_, cap, rfl, h1, h2, fun hn => ⟨g, 0, rfl, ⟨hg0, hgl⟩, hgl, fun j hj => ?_⟩⟩
    obtain ⟨us, hus⟩ : ∃ us, rows[j]? = some us := ⟨_, List.getElem?_eq_getElem (by rw [hrl]; exact hj)⟩
    obtain ⟨u1, y, u2, u3⟩ := hr j us hus
    refine ⟨us, u1, fun i hi => ?_, y, u2, hQ _ _ _ _ _ _ u3 (fun b hb => ⟨hb.1, hb.2.1⟩) (Nat.le_refl _) (fun _ _ _ => rfl)⟩
    have e := flatK_at (fun i us hi => (hr i us hi).1) hus hi
    have hlt : j * k + i < F.length * k := by
      have : (j + 1) * k ≤ F.length * k := Nat.mul_le_mul_right _ (by omega)
      rw [Nat.add_mul] at this
      omega
    rw [← h4, List.getElem?_take_of_lt hlt, Array.getElem?_toList] at e
    rw [← e, Nat.zero_add]
    simp [World.cell?, hg]
/-- Values, and entries. -/
def QV (f : Nat) (ok : Nat → Prop) (w : World) (us : List Value) (y : V) : Prop := LiesV ok f w us y
def QE (f : Nat) (ok : Nat → Prop) (w : World) (us : List Value) (e : V) : Prop := ∃ (key : ByteArray) (y : V) (xs : List Value), e = ent key.data.toList y ∧ us = .string key :: xs ∧ key.size ≤ maxLen ∧ LiesV ok f w xs y
theorem QV_kept (f : Nat) : KeptQ (QV f) := fun ok ok' w w' us y h ho hs hb => LiesV.kept ho hs hb h
theorem QE_kept (f : Nat) : KeptQ (QE f) := fun ok ok' w w' us y h ho hs hb => by
  obtain ⟨key, y', xs, e1, e2, e3, e4⟩ := h
  exact ⟨key, y', xs, e1, e2, e3, e4.kept ho hs hb⟩
end Go.Proofs.YtdpoiagnjdajbaaDoor.valus
