/- A region that draws its order: its first operations only read in a class of worlds, the last ones stand in one order. -/
import Derived.Test.YtobbbhmkcmbekabGreatDoorPartAM
import Derived.StillTail
import Derived.Deep.QuietTactic
set_option linter.unusedVariables false
namespace Go.Proofs.YtobbbhmkcmbekabGreatDoor.bigs
open Go.RowKit

section
variable {P : Program} {ops : Array Oper} {md : Region.Mode} {C : World → Prop} {n : Nat} {L : Array Bool → Act → Prop}

/-- The head of the region, in whatever order, then L. -/
def headAny (P : Program) (md : Region.Mode) (ops : Array Oper) (C : World → Prop) (n : Nat) (L : Array Bool → Act → Prop) : Nat → Array Bool → Act → Prop
  | 0, s, a => L s a
  | f + 1, s, a => Region.ready md ops s ≠ [] ∧ ∀ i ∈ Region.ready md ops s, i < n ∧ qOp P ops C i (headAny P md ops C n L f (s.setIfInBounds i true)) a

theorem headAny_any {g : Nat} {Q : Exit → Act → World → Prop} (hL : ∀ s a w, C w → L s a → wpAny P md ops Q g s a w) : ∀ (f : Nat) (s : Array Bool) (a : Act) (w : World), C w → headAny P md ops C n L f s a → wpAny P md ops Q (f + g) s a w := by
  intro f
  induction f with
  | zero => intro s a w hw h; rw [Nat.zero_add]; exact hL s a w hw h
  | succ f ih =>
    intro s a w hw h
    rw [show f + 1 + g = (f + g) + 1 by omega]
    exact ⟨fun e => absurd e h.1, fun i hi => wpOp_of_qOp hw (fun a' w' hw' h' => ih _ a' w' hw' h') (h.2 i hi).2⟩

theorem headAny_one {i : Nat} {o : Oper} {v : Value} (hi : ops[i]? = some o) (ns : ∀ (j : Nat) (o : Oper) cs b, ops[j]? = some o → o.op ≠ .select cs b) (hs : Region.sinkB md ops n = true) (hc : Region.chainB md ops n = true) (hn : n < ops.size) (hin : i < n)
    (fin : ∀ s a, L s a → ∀ j ∈ Region.ready md ops s, n ≤ j) : ∀ (f : Nat) (s : Array Bool) (a : Act), HeadInv md ops n s →
      (∀ j oj, ops[j]? = some oj → j ≠ i → s.getD j true = false → (∀ e ∈ oj.after, Region.binds md e = true → e.on ≠ i) → o.apart ops oj = true) → i ∈ Region.ready md ops s → YieldsIn P ops C o v a →
      headAny P md ops C n L f (s.setIfInBounds i true) (a.put o.dst v) → headAny P md ops C n L (f + 1) s a := by
  intro f
  induction f with
  | zero =>
    intro s a inv fr hr hy H
    refine ⟨fun e => (by rw [e] at hr; cases hr), fun j hj => ?_⟩
    have hjn : j < n := Nat.lt_of_not_le fun g => tail_waits hs hc hn inv _ i rfl hin (mem_ready.1 hr).1 j g hj
    refine ⟨hjn, ?_⟩
    by_cases e : j = i
    · rw [e]; exact hy.qOp hi H
    · exact absurd (fin _ _ H j (ready_mono hj e)) (by omega)
  | succ f ih =>
    intro s a inv fr hr hy H
    have un := (mem_ready.1 hr).1
    refine ⟨fun e => (by rw [e] at hr; cases hr), fun j hj => ?_⟩
    have hjn : j < n := Nat.lt_of_not_le fun g => tail_waits hs hc hn inv _ i rfl hin un j g hj
    refine ⟨hjn, ?_⟩
    by_cases e : j = i
    · rw [e]; exact hy.qOp hi H
    · obtain ⟨unj, oj, hoj, hall⟩ := mem_ready.1 hj
      have away : ∀ x ∈ oj.after, Region.binds md x = true → x.on ≠ i := by
        intro x hx hb hxi
        have := hall x hx hb
        rw [hxi, getD_both un] at this
        cases this
      have both := qOp_put hoj (fr j oj hoj e unj away) (fun cs b => ns i o cs b hi) (fun cs b => ns j oj cs b hoj) hy (H.2 j (ready_mono hj e)).2
      refine qOp_mono (fun a' h3 => ih (s.setIfInBounds j true) a' (inv.set hj hjn) ?_ (ready_mono hr (Ne.symm e)) h3.1 ?_) both
      · intro k ok hk hki unk hno
        refine fr k ok hk hki ?_ hno
        by_cases jk : j = k
        · rw [← jk]; exact unj
        · rwa [getD_set_ne true jk] at unk
      · rw [Array.setIfInBounds_comm _ _ e]
        exact h3.2

theorem headAny_walk {g : Nat} {R : Act → Prop} (ns : Region.noSelect ops = true) (hs : Region.sinkB md ops n = true) (hc : Region.chainB md ops n = true) (hn : n < ops.size) :
    ∀ (l : List Oper) (k : Nat) (s : Array Bool) (a : Act), (∀ j, j < l.length → l[j]? = ops[k + j]?) → k + l.length = n → HeadInv md ops n s → Region.lexHead md ops g l.length k s = true → wpQuiet P ops C R l a →
      headAny P md ops C n (fun s' a' => Region.seqB md ops g n s' = true ∧ R a') l.length s a := by
  intro l
  induction l with
  | nil =>
    intro k s a _ hk _ hB h
    have e : k = n := hk
    rw [e] at hB
    exact ⟨hB, h⟩
  | cons o l ih =>
    intro k s a hl hk inv hB h
    have h0 : ops[k]? = some o := by
      have := hl 0 (Nat.succ_pos _)
      rw [Nat.add_zero] at this
      exact this.symm
    simp only [List.length_cons, Region.lexHead, Bool.and_eq_true] at hB
    have kn : k < n := by rw [List.length_cons] at hk; omega
    have hr : k ∈ Region.ready md ops s := List.contains_iff_mem.1 hB.1.1
    have st : qOp P ops C k (wpQuiet P ops C R l) a := by
      unfold qOp
      rw [h0]
      exact h
    obtain ⟨v, hy, hK⟩ := yieldsIn_of_qOp h0 st
    refine headAny_one h0 (Region.noSelect_spec ns) hs hc hn kn (fun _ _ q => seqB_ready q.1) l.length s a inv (Region.free_spec h0 hB.1.2) hr hy (ih (k + 1) _ _ ?_ ?_ (inv.set hr kn) hB.2 hK)
    · intro j hj
      have := hl (j + 1) (by rw [List.length_cons]; omega)
      rwa [List.getElem?_cons_succ, show k + (j + 1) = k + 1 + j by omega] at this
    · rw [List.length_cons] at hk; omega

/-- The first n operations only read, in every world of the class; the others come in the order of the text. -/
theorem region_tail {id : Nat} {Q : Exit → Act → World → Prop} {a : Act} {w : World} {l : List Oper} (n : Nat) (hm : P.follows .mixedOrders = true) (hB : Region.lexTailB .any l.toArray n = true) (hC : C { w with drawn := w.drawn + 1 })
    (h : wpQuiet P l.toArray C (fun a' => ∀ w', C w' → wpList P l.toArray Q (l.drop n) a' w') (l.take n) a) : (Code.region id l.toArray true).wp P Q a w := by
  simp only [Region.lexTailB, Bool.and_eq_true, decide_eq_true_eq] at hB
  obtain ⟨⟨⟨⟨ns, hn⟩, hs⟩, hc⟩, lex⟩ := hB
  have nl : n < l.length := by simpa using hn
  have tl : (l.take n).length = n := by rw [List.length_take]; omega
  have dl : (l.drop n).length = l.toArray.size - n := by simp
  have inv : HeadInv .any l.toArray n (Array.replicate l.toArray.size false) :=
    ⟨by simp, fun j oj _ hl => (by rw [getD_replicate_false] at hl; cases hl), fun t _ ht => getD_in (by simpa using ht) (getD_replicate_false _ _)⟩
  have H := headAny_walk (P := P) (C := C) (md := .any) (g := l.toArray.size - n) ns hs hc hn (l.take n) 0 _ a (fun j hj => by
    rw [tl] at hj
    simp [hj]) (by rw [tl, Nat.zero_add]) inv (by rw [tl]; exact lex) h
  refine wp_region_any hm ?_
  have R := headAny_any (Q := Q) (g := l.toArray.size - n) (fun s a' w' hw' hL => by
    have := wpAny_of_seq (P := P) (md := .any) (Q' := Q) (l.drop n) n s a' w' (fun j => by simp [List.getElem?_drop]) (by rw [dl]; exact hL.1) (hL.2 w' hw')
    rwa [dl] at this) _ _ _ _ hC H
  rw [tl, show n + (l.toArray.size - n) = l.toArray.size by omega] at R
  exact R
end
end Go.Proofs.YtobbbhmkcmbekabGreatDoor.bigs
/- The walks of package float: exact, inUnits, floorLog10. -/
set_option linter.unusedVariables false
namespace Go.Proofs.YtobbbhmkcmbekabGreatDoor.bigs
open Go.RowKit

theorem bits_zero_iff (n : Nat) : bits n = 0 ↔ n = 0 := by
  constructor
  · intro h
    by_cases c : n = 0
    · exact c
    · have := bits_one c; omega
  · intro h; rw [h, bits_zero]
set_option maxHeartbeats 4000000 in
set_option maxRecDepth 100000 in
theorem exactD_any (w : World) (d : Value) (A B : Nat) (h : DivOf w d A B) (h0 : 0 < B) :
    Calls Tryz.prog 31 #[d] w fun e w' => e = .returned (.bool (decide (A % B = 0))) ∧ Below w.heap.size w w' := by
  obtain ⟨a1, n1, c1, a2, n2, c2, a3, n3, c3, rfl, h1, h2, k, h3, sk, lk, hk⟩ := h
  have hbl : (wdig B).length ≤ 10000 := by rw [← hk]; exact Nat.le_trans (wdig_len_words sk) lk
  have hml : (wdig (A % B)).length ≤ 900000 := Nat.le_trans (wdig_mono (Nat.le_of_lt (Nat.mod_lt A h0))) (by omega)
  have KL : ∀ w', Below w.heap.size w w' → Hid (Calls Tryz.prog 45 #[.slice a2 n2 c2] w' fun e w'' => e = .returned (.int .i64 (bits (A % B))) ∧ Below w'.heap.size w' w'') := fun w' hb => by
    have h := len_any w' _ (wdig (A % B)) (h2.below hb) (words_wdig _) (by omega)
    rw [wval_wdig] at h
    exact hide h
  have HD : Hid (decide ((bits (A % B) : Int) = 0) = decide (A % B = 0)) := hide (by have := bits_zero_iff (A % B); simp; omega)
  have b0 : Below w.heap.size w (w.alloc (.cells #[.slice a1 n1 c1, .slice a2 n2 c2, .slice a3 n3 c3] 60)) := (Below.refl _ _).alloc (Nat.le_refl _) _
  have K := KL _ b0
  clear KL h1 h2 h3 hbl hml
  generalize bits (A % B) = q at *
  go_enter Tryz.func31, Tryz.ntmps31
  go_wp2_with fail
  refine (unhide K).mono ?_
  rintro e w1 ⟨rfl, b1⟩
  have bw := b0.trans (b1.mono b0.size)
  clear K b0 b1
  go_wp2
  go_ret
  refine ⟨?_, bw⟩
  rw [← unhide HD]
  rfl
set_option maxHeartbeats 4000000 in
set_option maxRecDepth 100000 in
theorem floorLog_any (w : World) (n : Int) (h1 : -2000 ≤ n) (h2 : n ≤ 2000) :
    Calls Tryz.prog 26 #[.int .i64 n] w fun e w' => e = .returned (.int .i64 (n * 1262611 / 4194304)) ∧ w' = w := by
  go_enter Tryz.func26, Tryz.ntmps26
  go_wp2
  go_ret
  exact ⟨rfl, rfl⟩
/-- A division that is handed back by a variable. -/
theorem divOf_back {w : World} {d : Value} {A B b : Nat} (hd : DivOf w d A B) (bk : Blk w b #[.slice none 0 0, .slice none 0 0, .slice none 0 0] 60) :
    ∀ a4 n4 c4 a5 n5 c5 a6 n6 c6, d = .agg #[.slice a4 n4 c4, .slice a5 n5 c5, .slice a6 n6 c6] → DivOf (((w.setCell ⟨b, 0, none⟩ (.slice a4 n4 c4)).setCell ⟨b, 1, none⟩ (.slice a5 n5 c5)).setCell ⟨b, 2, none⟩ (.slice a6 n6 c6)) d A B := divOf_set hd bk
set_option maxHeartbeats 8000000 in
set_option maxRecDepth 100000 in
theorem inUnits_up (w : World) (q N : Nat) (x : Int) (hq : q < 18446744073709551616) (hx1 : -1100 ≤ x) (hx2 : x ≤ 1100) (hN : N ≤ 1000) :
    Calls Tryz.prog 29 #[.int .u64 q, .int .i64 x, .int .i64 N] w fun e w' => ∃ d, e = .returned d ∧ DivOf w' d (q * 2 ^ x.toNat) (10 ^ N * 2 ^ (-x).toNat) ∧ Below w.heap.size w w' := by
  have K1 : ∀ w, Hid _ := fun w => hide (large_any w q hq)
  have K2 : ∀ w, Hid (Calls Tryz.prog 47 #[.int .i64 N] w fun e w' => ∃ v, e = .returned v ∧ WBig w' v (10 ^ N) ∧ Below w.heap.size w w') := fun w => hide (tenTo_any w N hN)
  have K3 : ∀ w v u l, WSl w v l → Words32 l → l.length = 2 → wval l = q → WBig w u (10 ^ N) → Hid (Calls Tryz.prog 49 #[v, u, .int .i64 (-x)] w fun e w' => ∃ d, e = .returned d ∧ DivOf w' d (q * 2 ^ x.toNat) (10 ^ N * 2 ^ (-x).toNat) ∧ Below w.heap.size w w') := fun w v u l hv sl hl hq hu => by
    have h := divide_any w v u l (wdig (10 ^ N)) (-x) hv hu sl (words_wdig _) (by omega) (by have := pow10_words hN; omega) (by omega) (by omega) (by rw [wval_wdig]; exact Nat.ne_of_gt (Nat.pow_pos (by decide)))
    rw [wval_wdig, hq, Int.neg_neg] at h
    exact hide h
  have i1 : ¬ (N : Int) < 0 := by omega
  generalize q * 2 ^ x.toNat = A at *
  generalize 10 ^ N * 2 ^ (-x).toNat = B at *
  generalize 10 ^ N = T at *
  go_enter Tryz.func29, Tryz.ntmps29
  go_wp2_with fail
  have b0 : Below w.heap.size w (w.alloc (.cells #[.slice none 0 0, .slice none 0 0, .slice none 0 0] 60)) := (Below.refl _ _).alloc (Nat.le_refl _) _
  have bk0 := blk_alloc w #[.slice none 0 0, .slice none 0 0, .slice none 0 0] 60
  generalize w.alloc (.cells #[.slice none 0 0, .slice none 0 0, .slice none 0 0] 60) = w0 at *
  refine (unhide (K1 w0)).mono ?_
  rintro e w1 ⟨v1, l1, rfl, h1, s1, n1, e1, b1⟩
  have bw1 := b0.trans (b1.mono b0.size)
  have bk1 := bk0.below b1
  clear K1 b0 b1 bk0
  go_wp2_with fail
  refine (unhide (K2 w1)).mono ?_
  rintro e w2 ⟨v2, rfl, h2, b2⟩
  have bw2 := bw1.trans (b2.mono bw1.size)
  have bk2 := bk1.below b2
  have K3' := K3 w2 v1 v2 l1 (h1.below b2) s1 n1 e1 h2
  clear K2 K3 h1 s1 n1 e1 h2 b2 bw1 bk1
  go_wp2_with fail
  refine (unhide K3').mono ?_
  rintro e w3 ⟨d, rfl, hd, b3⟩
  have bw3 := bw2.trans (b3.mono bw2.size)
  have bk3 := bk2.below b3
  have FD := hide (divOf_back (b := w.heap.size) hd bk3)
  have BF : ∀ u1 u2 u3, Hid _ := fun u1 u2 u3 => hide (below_set3 (b := w.heap.size) bw3 (Nat.le_refl _) u1 u2 u3)
  obtain ⟨a4, n4, c4, a5, n5, c5, a6, n6, c6, rfl, _⟩ := hd
  have c0 := bk3.cell 0 _ rfl
  have c1 := bk3.cell 1 _ rfl
  have c2 := bk3.cell 2 _ rfl
  have z0 := bk3.froz 0
  have z1 := bk3.froz 1
  have z2 := bk3.froz 2
  have F := bk3.set3 (.slice a4 n4 c4) (.slice a5 n5 c5) (.slice a6 n6 c6)
  have FC := hide (And.intro (F.cell 0 _ rfl) (And.intro (F.cell 1 _ rfl) (F.cell 2 _ rfl)))
  clear K3' b3 bw2 bk2 bk3 F bw3
  go_wp2
  have FI := unhide FD _ _ _ _ _ _ _ _ _ rfl
  have BB := unhide (BF (.slice a4 n4 c4) (.slice a5 n5 c5) (.slice a6 n6 c6))
  obtain ⟨f0, f1, f2⟩ := unhide FC
  clear FD BF FC c0 c1 c2 z0 z1 z2
  generalize (((w3.setCell ⟨w.heap.size, 0, none⟩ (.slice a4 n4 c4)).setCell ⟨w.heap.size, 1, none⟩ (.slice a5 n5 c5)).setCell ⟨w.heap.size, 2, none⟩ (.slice a6 n6 c6)) = wF at *
  refine bodyPost_ret (v := .agg #[.slice a4 n4 c4, .slice a5 n5 c5, .slice a6 n6 c6]) (by simp [results, Tryz.results29, go_sem, f0, f1, f2]) rfl ?_
  exact ⟨_, rfl, FI, BB⟩
set_option maxHeartbeats 8000000 in
set_option maxRecDepth 100000 in
theorem inUnits_down (w : World) (q N : Nat) (x : Int) (hq : q < 18446744073709551616) (hx1 : -1100 ≤ x) (hx2 : x ≤ 1100) (hN : N ≤ 1000) (hN1 : 1 ≤ N) :
    Calls Tryz.prog 29 #[.int .u64 q, .int .i64 x, .int .i64 (-(N : Int))] w fun e w' => ∃ d, e = .returned d ∧ DivOf w' d (q * 10 ^ N * 2 ^ x.toNat) (1 * 2 ^ (-x).toNat) ∧ Below w.heap.size w w' := by
  have K1 : ∀ w, Hid _ := fun w => hide (large_any w q hq)
  have K2 : ∀ w, Hid (Calls Tryz.prog 47 #[.int .i64 N] w fun e w' => ∃ v, e = .returned v ∧ WBig w' v (10 ^ N) ∧ Below w.heap.size w w') := fun w => hide (tenTo_any w N hN)
  have hTl := pow10_words hN
  have K4 : ∀ w v u l, WSl w v l → Words32 l → l.length = 2 → wval l = q → WBig w u (10 ^ N) → Hid (Calls Tryz.prog 48 #[v, u] w fun e w' => ∃ v', e = .returned v' ∧ WBig w' v' (q * 10 ^ N) ∧ Below w.heap.size w w') := fun w v u l hv sl hl hq hu => by
    have h := mul_any w v u l (wdig (10 ^ N)) hv hu sl (words_wdig _) (by omega) (by omega)
    rw [wval_wdig, hq] at h
    exact hide h
  have hPl : (wdig (q * 10 ^ N)).length ≤ 1003 := by
    have h1 := wdig_prod_len q (10 ^ N)
    have h2 := wdig_len_lt (n := q) (k := 2) (by simpa using hq)
    omega
  have K3 : ∀ w v u, WBig w v (q * 10 ^ N) → WSl w u [1] → Hid (Calls Tryz.prog 49 #[v, u, .int .i64 (-x)] w fun e w' => ∃ d, e = .returned d ∧ DivOf w' d (q * 10 ^ N * 2 ^ x.toNat) (1 * 2 ^ (-x).toNat) ∧ Below w.heap.size w w') := fun w v u hv hu => by
    have h := divide_any w v u (wdig (q * 10 ^ N)) [1] (-x) hv hu (words_wdig _) (words_one (by decide)) (by omega) (by simp) (by omega) (by omega) (by rw [wval_one]; decide)
    rw [wval_wdig, wval_one, Int.neg_neg] at h
    exact hide h
  have i1 : -(N : Int) < 0 := by omega
  clear hPl hTl
  generalize q * 10 ^ N * 2 ^ x.toNat = A at *
  generalize 1 * 2 ^ (-x).toNat = B at *
  generalize q * 10 ^ N = M at *
  generalize 10 ^ N = T at *
  go_enter Tryz.func29, Tryz.ntmps29
  go_wp2_with fail
  have b0 : Below w.heap.size w (w.alloc (.cells #[.slice none 0 0, .slice none 0 0, .slice none 0 0] 60)) := (Below.refl _ _).alloc (Nat.le_refl _) _
  have bk0 := blk_alloc w #[.slice none 0 0, .slice none 0 0, .slice none 0 0] 60
  generalize w.alloc (.cells #[.slice none 0 0, .slice none 0 0, .slice none 0 0] 60) = w0 at *
  refine (unhide (K1 w0)).mono ?_
  rintro e w1 ⟨v1, l1, rfl, h1, s1, n1, e1, b1⟩
  have bw1 := b0.trans (b1.mono b0.size)
  have bk1 := bk0.below b1
  clear K1 b0 b1 bk0
  go_wp2_with fail
  refine (unhide (K2 w1)).mono ?_
  rintro e w2 ⟨v2, rfl, h2, b2⟩
  have bw2 := bw1.trans (b2.mono bw1.size)
  have bk2 := bk1.below b2
  have K4' := K4 w2 v1 v2 l1 (h1.below b2) s1 n1 e1 h2
  clear K2 K4 h1 s1 n1 e1 h2 b2 bw1 bk1
  go_wp2_with fail
  refine (unhide K4').mono ?_
  rintro e w4 ⟨v4, rfl, h4, b4⟩
  have bw4 := bw2.trans (b4.mono bw2.size)
  have bk4 := (bk2.below b4).alloc (.cells #[.int .u32 1] 79)
  have b5 : Below w4.heap.size w4 (w4.alloc (.cells #[.int .u32 1] 79)) := (Below.refl _ _).alloc (Nat.le_refl _) _
  have bw5 := bw4.trans (b5.mono bw4.size)
  have K3' := K3 _ _ _ (h4.below b5) ⟨_, 1, rfl, by simp, lit_row w4 1⟩
  clear K4' K3 h4 b4 b5 bw2 bw4 bk2
  go_wp2_with fail
  refine (unhide K3').mono ?_
  rintro e w3 ⟨d, rfl, hd, b3⟩
  have bw3 := bw5.trans (b3.mono bw5.size)
  have bk3 := bk4.below b3
  have FD := hide (divOf_back (b := w.heap.size) hd bk3)
  have BF : ∀ u1 u2 u3, Hid _ := fun u1 u2 u3 => hide (below_set3 (b := w.heap.size) bw3 (Nat.le_refl _) u1 u2 u3)
  obtain ⟨a4, n4, c4, a5, n5, c5, a6, n6, c6, rfl, _⟩ := hd
  have c0 := bk3.cell 0 _ rfl
  have c1 := bk3.cell 1 _ rfl
  have c2 := bk3.cell 2 _ rfl
  have z0 := bk3.froz 0
  have z1 := bk3.froz 1
  have z2 := bk3.froz 2
  have F := bk3.set3 (.slice a4 n4 c4) (.slice a5 n5 c5) (.slice a6 n6 c6)
  have FC := hide (And.intro (F.cell 0 _ rfl) (And.intro (F.cell 1 _ rfl) (F.cell 2 _ rfl)))
  clear K3' b3 bw5 bk4 bk3 F bw3
  go_wp2
  have FI := unhide FD _ _ _ _ _ _ _ _ _ rfl
  have BB := unhide (BF (.slice a4 n4 c4) (.slice a5 n5 c5) (.slice a6 n6 c6))
  obtain ⟨f0, f1, f2⟩ := unhide FC
  clear FD BF FC c0 c1 c2 z0 z1 z2
  generalize (((w3.setCell ⟨w.heap.size, 0, none⟩ (.slice a4 n4 c4)).setCell ⟨w.heap.size, 1, none⟩ (.slice a5 n5 c5)).setCell ⟨w.heap.size, 2, none⟩ (.slice a6 n6 c6)) = wF at *
  refine bodyPost_ret (v := .agg #[.slice a4 n4 c4, .slice a5 n5 c5, .slice a6 n6 c6]) (by simp [results, Tryz.results29, go_sem, f0, f1, f2]) rfl ?_
  exact ⟨_, rfl, FI, BB⟩
end Go.Proofs.YtobbbhmkcmbekabGreatDoor.bigs
