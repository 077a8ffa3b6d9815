/- How long the decimals of a fraction are. -/
import Derived.Test.YtobbbhmkcmbekaaDoorPartAU
import Derived.Test.YtobbbhmkcmbekaaDoorPartAQ
import Derived.Test.YtobbbhmkcmbekaaDoorPartAE
import Derived.Deep.QuietTactic
import Derived.BigQuiet
set_option linter.unusedVariables false
namespace Go.Proofs.YtobbbhmkcmbekaaDoor.bigs
open Go.RowKit
theorem len_X (r : Nat) (hi : r < 9218868437227405312) : (decs (fX r)).length ≤ 4000 := by
  rw [fX_told]
  have hm := mant_lt r
  obtain ⟨E, hE⟩ : ∃ E, E = r / 4503599627370496 - 1 + 6 := ⟨_, rfl⟩
  have hE2 : E ≤ 2051 := by omega
  rw [← hE]
  have h1 : (5 : Nat) ^ sc ≤ 10 ^ sc := Nat.pow_le_pow_left (by decide) _
  have h2 : (2 : Nat) ^ E ≤ 10 ^ E := Nat.pow_le_pow_left (by decide) _
  have h3 : mant r < 10 ^ 16 := Nat.lt_of_lt_of_le hm (by decide)
  have p1 : 0 < (10 : Nat) ^ sc := Nat.pow_pos (by decide)
  have p2 : 0 < (10 : Nat) ^ E := Nat.pow_pos (by decide)
  have h4 : mant r * 5 ^ sc * 2 ^ E < 10 ^ 16 * 10 ^ sc * 10 ^ E :=
    Nat.lt_of_le_of_lt (Nat.mul_le_mul (Nat.mul_le_mul (Nat.le_refl _) h1) h2) (Nat.mul_lt_mul_of_pos_right (Nat.mul_lt_mul_of_pos_right h3 p1) p2)
  rw [← Nat.pow_add, ← Nat.pow_add] at h4
  have hsc : sc = 1080 := rfl
  have := decs_length_le h4 (by omega)
  omega
theorem zeros_dig (j : Nat) : Dig10 (zeros j).data.toList := by
  have e : (zeros j).data.toList = List.replicate j 48 := by unfold zeros; simp
  rw [e]
  intro b hb
  rw [List.eq_of_mem_replicate hb]
  decide
theorem below_up {w0 w w' : World} (h : Below w0.heap.size w0 w) (h' : Below w.heap.size w w') : Below w0.heap.size w0 w' := h.trans (h'.mono h.size)
theorem X_lens {X j F : Nat} (hX : (decs X).length ≤ 4000) (hj : 10 ^ j ≤ X) (hF : F = X / 10 ^ j) : (dig X).length ≤ 2000 ∧ (dig F).length ≤ 2000 ∧ (dig (F + 1)).length ≤ 2000 ∧ (dig (lowOf X j)).length ≤ 2000 ∧ (dig ((F + 1) * 10 ^ j)).length ≤ 2000 ∧ (decs (F + 1)).length ≤ 8000 := by
  obtain ⟨K, hK⟩ : ∃ K, K = 1000 := ⟨_, rfl⟩
  have h1 := dec_lt (decs_form X).2.1
  rw [dec_decs] at h1
  have e10 : (10 : Nat) ^ 4 = 10000 := by decide
  have h2 : X < 10000 ^ K := by
    refine Nat.lt_of_lt_of_le h1 (Nat.le_trans (Nat.pow_le_pow_right (by decide) (show (decs X).length ≤ 4 * K by omega)) ?_)
    rw [Nat.pow_mul, e10]
    exact Nat.le_refl _
  have h3 : F ≤ X := by rw [hF]; exact Nat.div_le_self _ _
  have h4 : lowOf X j ≤ X := lowOf_le X j
  have h5 : (F + 1) * 10 ^ j = lowOf X j + 10 ^ j := by rw [hF]; unfold lowOf; rw [Nat.add_mul, Nat.one_mul]
  have h6 : 10000 ^ (K + 1) = 10000 ^ K * 10000 := Nat.pow_succ ..
  have l1 := dig_length_le h2
  have l2 := dig_length_le (n := F) (k := K) (by omega)
  have l3 := dig_length_le (n := F + 1) (k := K + 1) (by omega)
  have l4 := dig_length_le (n := lowOf X j) (k := K) (by omega)
  have l5 := dig_length_le (n := (F + 1) * 10 ^ j) (k := K + 1) (by omega)
  have l6 := decs_length_le (n := F + 1) (k := 4 * (K + 1)) (by rw [Nat.pow_mul, e10]; omega) (by omega)
  exact ⟨by omega, by omega, by omega, by omega, by omega, by omega⟩
theorem decs_of_dig {p K : Nat} (h : (dig p).length ≤ K) (hK : 1 ≤ K) : (decs p).length ≤ 4 * K := by
  have h1 : p < 10000 ^ K := by
    have := val_lt (small_dig p)
    rw [val_dig] at this
    exact Nat.lt_of_lt_of_le this (Nat.pow_le_pow_right (by decide) h)
  have e10 : (10 : Nat) ^ 4 = 10000 := by decide
  exact decs_length_le (k := 4 * K) (by rw [Nat.pow_mul, e10]; exact h1) (by omega)
theorem strip_one {d : Nat} (h : d % 10 = 0) (hd : d ≠ 0) : decs d = decs (d / 10) ++ [48] ∧ d / 10 ≠ 0 := by
  refine ⟨?_, by omega⟩
  unfold decs
  rw [if_neg hd, if_neg (by omega), toDec_pos hd, h]
  rfl
theorem upper_gt {X j : Nat} (h : X - lowOf X j > upOf X j - X) : Upper X j := .inl h
theorem upper_lt {X j : Nat} (h : X - lowOf X j < upOf X j - X) : ¬ Upper X j := by
  rintro (k | ⟨k, _⟩) <;> omega
theorem upper_eq {X j : Nat} (h : X - lowOf X j = upOf X j - X) : Upper X j ↔ X / 10 ^ j % 2 = 1 := by
  unfold Upper
  constructor
  · rintro (k | ⟨_, k⟩)
    · omega
    · exact k
  · intro k
    exact .inr ⟨h.symm, k⟩
/-- The least place of a number that lies somewhere. -/
theorem lies_first {w : World} {a : Option Addr} {k c n : Nat} (h : Lies w (.slice a k c) n) (hn : n ≠ 0) : 0 < k ∧ ∃ b o, a = some ⟨b, o, none⟩ ∧ w.cell? ⟨b, o, none⟩ = some (.int .i64 ((n % 10000 : Nat) : Int)) := by
  obtain ⟨a', c', e, hc, hr⟩ := h
  injection e with e1 e2 e3
  subst e1 e2 e3
  have hne : dig n ≠ [] := by rw [dig_pos hn]; simp
  obtain ⟨b, o, rfl, _, hcell⟩ := hr hne
  refine ⟨List.length_pos_iff.2 hne, b, o, rfl, ?_⟩
  have := hcell 0 (List.length_pos_iff.2 hne)
  rw [dig_pos hn] at this
  exact this
end Go.Proofs.YtobbbhmkcmbekaaDoor.bigs
/- The document's ShortOf: the walk ahead of its loop. -/
set_option linter.unusedVariables false
namespace Go.Proofs.YtobbbhmkcmbekaaDoor.bigs
open Go.RowKit
theorem len_scaled (m E : Nat) (hm : m < 18446744073709551616) (hE : E ≤ 3000) : (dig (m * 5 ^ sc * 2 ^ E)).length ≤ 100000 := by
  have q0 : (dig m).length ≤ 5 := dig_length_le (Nat.lt_of_lt_of_le hm (by decide))
  have q1 := five_len
  have q2 := pow_len (b := 2) (e := E) (by decide)
  have q3 := dig_prod_lenF m (5 ^ sc)
  have q4 := dig_prod_lenF (m * 5 ^ sc) (2 ^ E)
  omega
theorem lies_slice {w : World} {v : Value} {n : Nat} (h : Lies w v n) : ∃ a k c, v = .slice a k c := by
  obtain ⟨a, c, e, _⟩ := h
  exact ⟨a, _, c, e⟩
theorem Lies.alloc {w : World} {v : Value} {n : Nat} (h : Lies w v n) (o : Obj) : Lies (w.alloc o) v n := h.below ((Below.refl _ _).alloc (Nat.le_refl _) o)
theorem Lies.setBlk {w : World} {v : Value} {n b t : Nat} {u x : Value} (h : Lies w v n) (hb : Blk w b #[u] t) (hu : ∀ q, u ≠ .int .i64 q) : Lies (w.setCell ⟨b, 0, none⟩ x) v n := by
  obtain ⟨a, cap, rfl, hc, hr⟩ := h
  refine ⟨a, cap, rfl, hc, fun h0 => ?_⟩
  obtain ⟨ba, oa, rfl, hba, hca⟩ := hr h0
  have ne : ba ≠ b := by
    intro e
    subst e
    have h1 := hca 0 (by cases hd : dig n with | nil => exact absurd hd h0 | cons x r => simp)
    unfold Blk at hb
    simp only [World.cell?, hb] at h1
    rw [Nat.add_zero] at h1
    cases oa with
    | zero => exact hu _ (by simpa using h1)
    | succ k => simp at h1
  refine ⟨ba, oa, rfl, by simpa [World.setCell] using hba, fun k hk => ?_⟩
  rw [World.cell?_setCell_other w ⟨b, 0, none⟩ ⟨ba, oa + k, none⟩ x (by intro e; exact ne (by injection e with e1; exact e1.symm))]
  exact hca k hk
/-- What ShortOf has laid ahead of its loop. -/
structure Sof (w1 wx : World) (bm bh bl : Nat) (v7 v8 v9 : Value) (r m lo : Nat) : Prop where
  l7 : Lies wx v7 (fX r)
  l8 : Lies wx v8 (fH r)
  l9 : Lies wx v9 lo
  km : Blk wx bm #[.int .u64 (m : Int)] 22
  kh : Blk wx bh #[v8] 52
  kl : Blk wx bl #[v9] 52
  be : Below w1.heap.size w1 wx
  ne : bh ≠ bl
  ge : w1.heap.size ≤ bl
theorem Sof.below {w1 wx wy : World} {bm bh bl : Nat} {v7 v8 v9 : Value} {r m lo : Nat} (h : Sof w1 wx bm bh bl v7 v8 v9 r m lo) (hb : Below wx.heap.size wx wy) : Sof w1 wy bm bh bl v7 v8 v9 r m lo :=
  ⟨h.l7.below hb, h.l8.below hb, h.l9.below hb, h.km.below hb, h.kh.below hb, h.kl.below hb, h.be.trans (hb.mono h.be.size), h.ne, h.ge⟩
theorem Sof.low {w1 wx : World} {bm bh bl : Nat} {v7 v8 v9 x : Value} {r m lo lo' : Nat} (h : Sof w1 wx bm bh bl v7 v8 v9 r m lo) (hx : Lies wx x lo') (h9 : ∀ q, v9 ≠ .int .i64 q) (h9' : ∀ q, v9 ≠ .int .u64 q) : Sof w1 (wx.setCell ⟨bl, 0, none⟩ x) bm bh bl v7 v8 x r m lo' where
  l7 := h.l7.setBlk h.kl h9
  l8 := h.l8.setBlk h.kl h9
  l9 := hx.setBlk h.kl h9
  km := h.km.set_other ⟨bl, 0, none⟩ x (fun e => by
    have e' : bm = bl := e
    have k1 := h.km
    rw [e'] at k1
    have k2 := h.kl
    unfold Blk at k1 k2
    rw [k1] at k2
    injection k2 with k2
    injection k2 with k2 _
    have : Value.int .u64 (m : Int) = v9 := by simpa using k2
    exact h9' _ this.symm)
  kh := h.kh.set_other ⟨bl, 0, none⟩ x h.ne
  kl := by
    have := h.kl.set 0 x
    simpa using this
  be := h.be.setCell (p := ⟨bl, 0, none⟩) h.ge x
  ne := h.ne
  ge := h.ge
set_option maxHeartbeats 16000000 in
set_option maxRecDepth 100000 in
theorem shortOf_any (w : World) (r : Nat) (h0 : 0 < r) (hi : r < 9218868437227405312) :
    Calls Tryd.prog 13 #[.int .u64 (r : Int)] w fun e w' => ∃ (d : Nat) (ten : Int), e = .returned (.tuple #[.string ⟨(decs d).toArray⟩, .int .i64 ten]) ∧ d % 10 ≠ 0 ∧ (∃ j, Best r j (d * 10 ^ (ten + 1080).toNat)) ∧ -1080 ≤ ten ∧ Below w.heap.size w w' := by
  obtain ⟨e1, e2, e3⟩ := parts_sign r r (by omega) (by omega) h0 hi
  have KP := parts_any w r (by omega)
  rw [e1, e2, e3] at KP
  have hX := fX_told r
  have hH := fH_told r
  obtain ⟨hL1, hL2⟩ := fL_told r h0
  have hm0 : 0 < mant r := by unfold mant; split <;> omega
  have hm1 := mant_lt r
  obtain ⟨E, hE⟩ : ∃ E, E = r / 4503599627370496 - 1 := ⟨_, rfl⟩
  have hE2 : E ≤ 2045 := by omega
  obtain ⟨m, hm⟩ : ∃ m, m = mant r := ⟨_, rfl⟩
  rw [← hE, ← hm] at KP hX hH hL1 hL2
  rw [← hm] at hm0 hm1
  have K1 : ∀ W, Hid (Calls Tryd.prog 26 #[.int .u64 (m : Int), .int .i64 ((E : Int) - 1074)] W fun x w' => ∃ v, x = .returned v ∧ Lies w' v (fX r) ∧ Below W.heap.size W w') := fun W => hide (by
    rw [hX]; exact scaledUp_any W m (E + 6) ((E : Int) - 1074) (by omega) (by omega) (by omega))
  have K2 : ∀ W, Hid (Calls Tryd.prog 26 #[.int .u64 ((2 * m + 1 : Nat) : Int), .int .i64 ((E : Int) - 1075)] W fun x w' => ∃ v, x = .returned v ∧ Lies w' v (fH r) ∧ Below W.heap.size W w') := fun W => hide (by
    rw [hH]; exact scaledUp_any W (2 * m + 1) (E + 5) ((E : Int) - 1075) (by omega) (by omega) (by omega))
  obtain ⟨lo3, hlo3⟩ : ∃ lo3, lo3 = (2 * m - 1) * 5 ^ sc * 2 ^ (E + 5) := ⟨_, rfl⟩
  obtain ⟨lo4, hlo4⟩ : ∃ lo4, lo4 = (4 * m - 1) * 5 ^ sc * 2 ^ (E + 4) := ⟨_, rfl⟩
  rw [← hlo4] at hL1
  rw [← hlo3] at hL2
  have K3 : ∀ W, Hid (Calls Tryd.prog 26 #[.int .u64 ((2 * m - 1 : Nat) : Int), .int .i64 ((E : Int) - 1075)] W fun x w' => ∃ v, x = .returned v ∧ Lies w' v lo3 ∧ Below W.heap.size W w') := fun W => hide (by rw [hlo3]; exact scaledUp_any W (2 * m - 1) (E + 5) ((E : Int) - 1075) (by omega) (by omega) (by omega))
  have K4 : ∀ W, Hid (Calls Tryd.prog 26 #[.int .u64 ((4 * m - 1 : Nat) : Int), .int .i64 ((E : Int) - 1076)] W fun x w' => ∃ v, x = .returned v ∧ Lies w' v lo4 ∧ Below W.heap.size W w') := fun W => hide (by rw [hlo4]; exact scaledUp_any W (4 * m - 1) (E + 4) ((E : Int) - 1076) (by omega) (by omega) (by omega))
  have LN : Hid ((dig (fX r)).length ≤ 100000 ∧ (dig (fH r)).length ≤ 100000 ∧ (dig lo3).length ≤ 100000 ∧ (dig lo4).length ≤ 100000) := hide ⟨by rw [hX]; exact len_scaled _ _ (by omega) (by omega), by rw [hH]; exact len_scaled _ _ (by omega) (by omega), by rw [hlo3]; exact len_scaled _ _ (by omega) (by omega), by rw [hlo4]; exact len_scaled _ _ (by omega) (by omega)⟩
  have KPH := hide KP
  have HL := hide (And.intro hL1 hL2)
  have y1 : IntKind.u64.wrap (2 * (m : Int)) = ((2 * m : Nat) : Int) := by simp [IntKind.wrap, IntKind.bits, IntKind.signed]; omega
  have y2 : IntKind.u64.wrap (((2 * m : Nat) : Int) + 1) = ((2 * m + 1 : Nat) : Int) := by simp [IntKind.wrap, IntKind.bits, IntKind.signed]; omega
  have y3 : IntKind.u64.wrap (((2 * m : Nat) : Int) - 1) = ((2 * m - 1 : Nat) : Int) := by simp [IntKind.wrap, IntKind.bits, IntKind.signed]; omega
  have y4 : IntKind.u64.wrap (4 * (m : Int)) = ((4 * m : Nat) : Int) := by simp [IntKind.wrap, IntKind.bits, IntKind.signed]; omega
  have y5 : IntKind.u64.wrap (((4 * m : Nat) : Int) - 1) = ((4 * m - 1 : Nat) : Int) := by simp [IntKind.wrap, IntKind.bits, IntKind.signed]; omega
  have z1 : IntKind.i64.wrap ((E : Int) - 1074 - 1) = (E : Int) - 1075 := by simp [IntKind.wrap, IntKind.bits, IntKind.signed]; omega
  have z2 : IntKind.i64.wrap ((E : Int) - 1074 - 2) = (E : Int) - 1076 := by simp [IntKind.wrap, IntKind.bits, IntKind.signed]; omega
  have HM := hide hm
  clear e1 e2 e3 KP hX hH hL1 hL2 hm hlo3 hlo4
  obtain ⟨t0, ht0⟩ : ∃ t0 : Int, t0 = (E : Int) - 1074 := ⟨_, rfl⟩
  obtain ⟨t1, ht1⟩ : ∃ t1 : Int, t1 = (E : Int) - 1075 := ⟨_, rfl⟩
  obtain ⟨t2, ht2⟩ : ∃ t2 : Int, t2 = (E : Int) - 1076 := ⟨_, rfl⟩
  rw [← ht0] at z1 z2
  rw [← ht1] at z1
  rw [← ht2] at z2
  obtain ⟨m2, hm2⟩ : ∃ m2, m2 = 2 * m := ⟨_, rfl⟩
  obtain ⟨m3, hm3⟩ : ∃ m3, m3 = 2 * m + 1 := ⟨_, rfl⟩
  obtain ⟨m1, hm1'⟩ : ∃ m1, m1 = 2 * m - 1 := ⟨_, rfl⟩
  obtain ⟨m4, hm4⟩ : ∃ m4, m4 = 4 * m := ⟨_, rfl⟩
  obtain ⟨m5, hm5⟩ : ∃ m5, m5 = 4 * m - 1 := ⟨_, rfl⟩
  rw [← hm3] at y2 K2
  rw [← hm1'] at y3 K3
  rw [← hm2] at y1 y2 y3
  rw [← hm5] at y5 K4
  rw [← hm4] at y4 y5
  rw [← ht0] at K1 KPH
  rw [← ht1] at K2 K3
  rw [← ht2] at K4
  have HE := hide (And.intro hE (And.intro h0 hi))
  have HT := hide (And.intro ht0 (And.intro ht1 ht2))
  have HMM := hide (And.intro hm0 hm1)
  clear hE h0 hi ht0 ht1 ht2 hm0 hm1 hm2 hm3 hm1' hm4 hm5 hE2
  go_enter Tryd.func13, Tryd.ntmps13
  go_wp2_with fail
  refine (unhide KPH).mono ?_
  rintro _ w1 ⟨rfl, rfl⟩
  clear KPH
  go_wp2_with fail
  have km := blk_alloc w1 #[.int .u64 (m : Int)] 22
  have bA : Below w1.heap.size w1 (w1.alloc (.cells #[.int .u64 (m : Int)] 22)) := (Below.refl _ _).alloc (Nat.le_refl _) _
  generalize w1.alloc (.cells #[.int .u64 (m : Int)] 22) = wA at *
  refine (unhide (K1 wA)).mono ?_
  rintro _ w2 ⟨v7, rfl, L7, b2⟩
  have km2 := km.below b2
  have c2 := km2.cell 0 _ rfl
  have B2 := bA.trans (b2.mono bA.size)
  obtain ⟨a7, n7, c7, rfl⟩ := lies_slice L7
  have H2 := hide (And.intro L7 (And.intro km2 B2))
  clear K1 km bA b2 L7 km2 B2
  go_wp2_with fail
  refine (unhide (K2 w2)).mono ?_
  rintro _ w3 ⟨v8, rfl, L8, b3⟩
  obtain ⟨a8, n8, c8, rfl⟩ := lies_slice L8
  have km3 := (unhide H2).2.1.below b3
  have c3 := (km3.alloc (.cells #[.slice a8 n8 c8] 52)).cell 0 _ rfl
  have bA3 := ((unhide H2).2.2.trans (b3.mono (unhide H2).2.2.size))
  have H3 := hide (And.intro (((unhide H2).1.below b3).alloc (.cells #[.slice a8 n8 c8] 52)) (And.intro (km3.alloc (.cells #[.slice a8 n8 c8] 52)) (And.intro (bA3.alloc bA3.size (.cells #[.slice a8 n8 c8] 52)) (And.intro (L8.alloc (.cells #[.slice a8 n8 c8] 52)) (blk_alloc w3 #[.slice a8 n8 c8] 52)))))
  clear K2 c2 H2 L8 b3 km3 bA3
  go_wp2_with fail
  refine (unhide (K3 _)).mono ?_
  rintro _ w4 ⟨v9, rfl, L9, b4⟩
  obtain ⟨a9, n9, c9, rfl⟩ := lies_slice L9
  obtain ⟨q7, qm, qb, q8, qh⟩ := unhide H3
  have bB4 := qb.trans (b4.mono qb.size)
  have ST : Sof w1 (w4.alloc (.cells #[.slice a9 n9 c9] 52)) w1.heap.size w3.heap.size w4.heap.size (.slice a7 n7 c7) (.slice a8 n8 c8) (.slice a9 n9 c9) r m lo3 :=
    ⟨(q7.below b4).alloc _, (q8.below b4).alloc _, L9.alloc _, (qm.below b4).alloc _, (qh.below b4).alloc _, blk_alloc w4 _ _, bB4.alloc bB4.size _, Nat.ne_of_lt (qh.below b4).lt, bB4.size⟩
  have HST := hide ST
  have c4 : (w4.alloc (.cells #[.slice a9 n9 c9] 52)).cell? ⟨w1.heap.size, 0, none⟩ = some (.int .u64 (m : Int)) := ST.km.cell 0 _ rfl
  have c9' : (w4.alloc (.cells #[.slice a9 n9 c9] 52)).cell? ⟨w4.heap.size, 0, none⟩ = some (.slice a9 n9 c9) := ST.kl.cell 0 _ rfl
  have z9 := ST.kl.froz 0
  have bigF : ∃ big : Bool, big = true ↔ (m = 4503599627370496 ∧ 0 < E) := by
    classical
    exact ⟨decide (m = 4503599627370496 ∧ 0 < E), by simp⟩
  obtain ⟨big, hbig⟩ := bigF
  have HBIG := hide hbig
  clear K3 c3 H3 L9 b4 q7 qm qb q8 qh bB4 ST hbig
  go_upto_region 5 with fail
  generalize hbl : w4.heap.size = bl at *
  generalize hbh : w3.heap.size = bh at *
  generalize w4.alloc (.cells #[.slice a9 n9 c9] 52) = w5 at *
  clear hbl hbh
  go_cut [49] from 44 to 48 (fun s49 wx => s49 = .bool big ∧ w5 = wx)
  case first =>
    by_cases cm : m = 4503599627370496
    · have i1 : ((m : Int) == 4503599627370496) = true := by rw [cm]; rfl
      have F : Hid (big = decide (t0 > -1074)) := hide (by
        rw [Bool.eq_iff_iff, unhide HBIG, decide_eq_true_iff]
        have := (unhide HT).1
        constructor
        · intro h; have := h.2; omega
        · intro h; exact ⟨cm, by omega⟩)
      clear cm HBIG K4 HST
      go_wp2
      go_meet
      case rel => exact ⟨by rw [unhide F], by trivial⟩
    · have i1 : ((m : Int) == 4503599627370496) = false := beq_false_of_ne (by omega)
      have F : Hid (big = false) := hide (by
        cases hb : big with
        | false => rfl
        | true => exact absurd ((unhide HBIG).1 hb).1 cm)
      clear cm HBIG K4 HST
      go_wp2
      go_meet
      case rel => exact ⟨by rw [unhide F], by trivial⟩
  case rest =>
  obtain ⟨rfl, rfl⟩ := hcut
  go_upto_if 49 with fail
  go_cut [5] from 50 to 55 (fun s5 wx => s5 = .int .i64 t0 ∧ ∃ (a : Option Addr) (k c : Nat), Hid (Sof w1 wx w1.heap.size bh bl (.slice a7 n7 c7) (.slice a8 n8 c8) (.slice a k c) r m (fL r)))
  case first =>
    cases hn : big with
    | false =>
      subst hn
      have F : fL r = lo3 := (unhide HL).2 (fun h => by have := (unhide HBIG).2 h; cases this)
      rw [← F] at HST
      clear HBIG K4 HL F
      go_wp2
      go_meet
      case rel => exact ⟨rfl, a9, n9, c9, HST⟩
    | true =>
      subst hn
      have F : fL r = lo4 := (unhide HL).1 ((unhide HBIG).1 rfl)
      rw [← F] at K4
      clear HBIG HL F
      go_wp2_with fail
      refine (unhide (K4 _)).mono ?_
      rintro _ w6 ⟨v10, rfl, L10, b6⟩
      obtain ⟨a10, n10, c10, rfl⟩ := lies_slice L10
      have S6 := (unhide HST).below b6
      have d9 : w6.cell? ⟨bl, 0, none⟩ = some (.slice a9 n9 c9) := S6.kl.cell 0 _ rfl
      have e9 := S6.kl.froz 0
      have HS6 := hide (S6.low L10 (fun q h => by cases h) (fun q h => by cases h))
      clear K4 L10 b6 S6 HST c4 c9' z9
      go_wp2
      go_meet
      case rel => exact ⟨rfl, a10, n10, c10, HS6⟩
  case rest =>
  obtain ⟨rfl, a10, n10, c10, HS⟩ := hcut
  have LL : Hid ((dig (fL r)).length ≤ 100000) := hide (by
    by_cases cc : m = 4503599627370496 ∧ 0 < E
    · rw [(unhide HL).1 cc]; exact (unhide LN).2.2.2
    · rw [(unhide HL).2 cc]; exact (unhide LN).2.2.1)
  have KD := hide (digits_any wc (.slice a7 n7 c7) (fX r) (unhide LN).1 (unhide HS).l7)
  clear HST c4 c9' z9 HBIG HL K4 HT HMM y1 y2 y3 y4 y5 z1 z2
  go_wp2_with fail
  refine (unhide KD).mono ?_
  rintro _ w8 ⟨rfl, b8⟩
  have S8 := hide ((unhide HS).below b8)
  clear KD HS b8
  obtain ⟨A, hA⟩ : ∃ A : ByteArray, A = ⟨(decs (fX r)).toArray⟩ := ⟨_, rfl⟩
  rw [← hA]
  have HA := hide hA
  clear hA
  have AL : A.data.toList = decs (fX r) := by rw [unhide HA]
  have AS : A.size = (decs (fX r)).length := by rw [← blen_list, AL]
  have A4 : A.size ≤ 4000 := by rw [AS]; exact len_X r (unhide HE).2.2
  have A1 : 1 ≤ A.size := by rw [AS]; exact List.length_pos_iff.2 (decs_form _).1
  have HAA := hide (And.intro AL AS)
  clear AL AS
  go_wp2_with fail
  go_loopw [12] (fun s12 wr => ∃ n : Nat, s12 = .int .i64 (n : Int) ∧ 1 ≤ n ∧ n ≤ A.size ∧ Hid (∀ i, A.size - n < i → 10 ^ i ≤ fX r → ¬ Good r i) ∧ Hid (Sof w1 wr w1.heap.size bh bl (.slice a7 n7 c7) (.slice a8 n8 c8) (.slice a10 n10 c10) r m (fL r))) (fun s12 _ => A.size - (intOf s12).toNat)
  case atStart => exact ⟨1, rfl, by omega, A1, hide (fun i h1 h2 => by have := level_lt h2; rw [← (unhide HAA).2] at this; omega), S8⟩
  case round =>
    obtain ⟨n, rfl, n1, nA, hNG, hS⟩ := hrel
    clear S8
    obtain ⟨j, hj⟩ : ∃ j, j = A.size - n := ⟨_, rfl⟩
    have x1 : IntKind.i64.wrap ((A.size : Int) - (n : Int)) = (j : Int) := by simp [IntKind.wrap, IntKind.bits, IntKind.signed]; omega
    have x2 : max (j : Int) 0 = (j : Int) := by omega
    have x3 : IntKind.i64.wrap ((A.size : Int) - (j : Int)) = (n : Int) := by simp [IntKind.wrap, IntKind.bits, IntKind.signed]; omega
    have b0 : (0 : Int) ≤ (n : Int) := by omega
    have b1 : (n : Int) ≤ (A.size : Int) := by omega
    obtain ⟨P, hP⟩ : ∃ P : ByteArray, A.extract 0 n = P := ⟨_, rfl⟩
    have PL : P.data.toList = (decs (fX r)).take n := by
      rw [← hP, ByteArray.data_extract, Array.toList_extract, (unhide HAA).1]
      simp [List.extract]
    have Ps : P.size = n := by rw [← blen_list, PL, List.length_take, ← (unhide HAA).2]; omega
    have PD : Dig10 P.data.toList := by rw [PL]; exact dig10_take (decs_form _).2.1 n
    have PV : dec P.data.toList = fX r / 10 ^ j := by
      rw [PL, front_dec (by rw [← (unhide HAA).2]; exact nA), ← (unhide HAA).2, ← hj]
    have KF := ofDigits_any wr P (by omega) PD
    rw [PV] at KF
    have HKF := hide KF
    have HPD := hide (And.intro PD PV)
    have HJ := hide hj
    have JA : j ≤ 4000 := by omega
    clear KF PL PD PV hj
    go_wp2_with fail
    refine (unhide HKF).mono ?_
    rintro _ w14 ⟨v14, rfl, L14, b14⟩
    obtain ⟨a14, n14, c14, rfl⟩ := lies_slice L14
    obtain ⟨F, hF⟩ : ∃ F, F = fX r / 10 ^ j := ⟨_, rfl⟩
    rw [← hF] at L14
    have hjX : 10 ^ j ≤ fX r := by
      refine Nat.le_trans (Nat.pow_le_pow_right (by decide) ?_) (decs_ge (d := fX r) ?_)
      · rw [← (unhide HAA).2, unhide HJ]; omega
      · intro z
        have : fX r < 1 := by omega
        have h1 := (below_of r (unhide HE).2.1).1
        omega
    obtain ⟨lX, lF, lF1, lLo, lUp, dF⟩ := X_lens (len_X r (unhide HE).2.2) hjX hF
    obtain ⟨Z, hZ⟩ : ∃ Z : ByteArray, Z = zeros j := ⟨_, rfl⟩
    have Zs : Z.size = j := by rw [hZ, zeros_size]
    have KN : ∀ W, Hid (Calls Tryd.prog 21 #[.int .i64 (j : Int)] W fun e w' => e = .returned (.string Z) ∧ Below W.heap.size W w') := fun W => hide (by rw [hZ]; exact noughts_any W j (by omega))
    have aPZ : ∀ u : World, (Op.stringOp .add P Z).run Tryd.prog u = .ok (.string (P ++ Z)) u := fun u => run_string_add_sum _ _ _ (by omega)
    have lPZ : (P ++ Z).data.toList = P.data.toList ++ (zeros j).data.toList := by rw [ByteArray.data_append, Array.toList_append, hZ]
    have dPZ : dec (P ++ Z).data.toList = lowOf (fX r) j := by rw [lPZ, dec_zeros, (unhide HPD).2]; rfl
    have gPZ : Dig10 (P ++ Z).data.toList := by
      rw [lPZ]
      exact dig10_append.2 ⟨(unhide HPD).1, zeros_dig j⟩
    have KPZ : ∀ W, Hid (Calls Tryd.prog 30 #[.string (P ++ Z)] W fun e w' => ∃ v, e = .returned v ∧ Lies w' v (lowOf (fX r) j) ∧ Below W.heap.size W w') := fun W => hide (by
      have := ofDigits_any W (P ++ Z) (by rw [ByteArray.size_append]; omega) gPZ
      rw [dPZ] at this
      exact this)
    obtain ⟨G, hG⟩ : ∃ G : ByteArray, G = ⟨(decs (F + 1)).toArray⟩ := ⟨_, rfl⟩
    have Gs : G.size ≤ 8000 := by rw [hG, bytes_len]; exact dF
    have GL : G.data.toList = decs (F + 1) := by rw [hG]
    have aGZ : ∀ u : World, (Op.stringOp .add G Z).run Tryd.prog u = .ok (.string (G ++ Z)) u := fun u => run_string_add_sum _ _ _ (by omega)
    have lGZ : (G ++ Z).data.toList = G.data.toList ++ (zeros j).data.toList := by rw [ByteArray.data_append, Array.toList_append, hZ]
    have KGZ : ∀ W, Hid (Calls Tryd.prog 30 #[.string (G ++ Z)] W fun e w' => ∃ v, e = .returned v ∧ Lies w' v ((F + 1) * 10 ^ j) ∧ Below W.heap.size W w') := fun W => hide (by
      have := ofDigits_any W (G ++ Z) (by rw [ByteArray.size_append]; omega) (by rw [lGZ, GL]; exact dig10_append.2 ⟨(decs_form _).2.1, zeros_dig j⟩)
      rw [lGZ, dec_zeros, GL, dec_decs] at this
      exact this)
    have KD1 : ∀ W v, Lies W v (F + 1) → Hid (Calls Tryd.prog 29 #[v] W fun e w' => e = .returned (.string G) ∧ Below W.heap.size W w') := fun W v h => hide (by rw [hG]; exact digits_any W v (F + 1) (by omega) h)
    obtain ⟨PZ, hPZ⟩ : ∃ PZ : ByteArray, PZ = P ++ Z := ⟨_, rfl⟩
    obtain ⟨GZ, hGZ⟩ : ∃ GZ : ByteArray, GZ = G ++ Z := ⟨_, rfl⟩
    rw [← hPZ] at aPZ KPZ
    rw [← hGZ] at aGZ KGZ
    have S14 := hide ((unhide hS).below b14)
    have HL14 := hide L14
    have HF := hide (And.intro hF hjX)
    have HLEN := hide (And.intro lX (And.intro lF (And.intro lF1 (And.intro lLo lUp))))
    clear hS b14 L14 hF hjX lX lF lF1 lLo lUp dF hZ lPZ dPZ gPZ hG Gs GL lGZ hPZ hGZ HKF
    go_upto_region 13 with fail
    go_cut [15] from 59 to 158 (fun s15 wx => ∃ (a : Option Addr) (k c : Nat), s15 = .slice a k c ∧ Hid (Lies wx (.slice a k c) (lowOf (fX r) j)) ∧ Hid (Below w14.heap.size w14 wx))
    case first =>
      clear KGZ KD1 aGZ hNG S14 HL14
      go_region_with (first
        | (go_at_call 21
           refine (unhide (KN _)).mono ?_
           rintro _ w15 ⟨rfl, b15⟩
           have B15 : Below w14.heap.size w14 w15 := by first | exact b15 | exact below_up (Below.refl _ _).drew b15 | exact below_up (below_drewN (Below.refl _ _) _) b15
           have HB15 := hide B15
           clear b15 B15)
        | (go_at_call 30
           refine (unhide (KPZ _)).mono ?_
           rintro _ w16 ⟨v15, rfl, L15, b16⟩
           obtain ⟨a15, n15, c15, rfl⟩ := lies_slice L15
           have HB16 := hide (below_up (unhide HB15) b16)
           have HL15 := hide L15
           clear b16 L15))
      all_goals
        go_wp2_with fail
        go_meet
        exact ⟨a15, n15, c15, rfl, HL15, HB16⟩
    case rest =>
    obtain ⟨a15, n15, c15, rfl, HL15, HB15⟩ := hcut
    generalize wc = w15 at *
    have ST := hide (And.intro ((unhide S14).below (unhide HB15)) (And.intro ((unhide HL14).below (unhide HB15)) (unhide HL15)))
    clear S14 HL14 HL15 HB15 KPZ aPZ
    go_wp2_with fail
    refine (small_one w15).mono ?_
    rintro _ w16 ⟨va, rfl, La, _, b16⟩
    have ST := hide (And.intro ((unhide ST).1.below b16) (And.intro ((unhide ST).2.1.below b16) ((unhide ST).2.2.below b16)))
    clear b16
    go_wp2_with fail
    refine (plus_any w16 _ va F 1 (by have := (unhide HLEN).2.1; omega) (by rw [dig_pos (by decide)]; simp [dig_zero]) (unhide ST).2.1 La).mono ?_
    rintro _ w17 ⟨vb, rfl, Lb, _, b17⟩
    have ST := hide (And.intro ((unhide ST).1.below b17) (And.intro ((unhide ST).2.1.below b17) ((unhide ST).2.2.below b17)))
    clear b17 La
    go_wp2_with fail
    refine (unhide (KD1 w17 vb Lb)).mono ?_
    rintro _ w18 ⟨rfl, b18⟩
    have ST := hide (And.intro ((unhide ST).1.below b18) (And.intro ((unhide ST).2.1.below b18) ((unhide ST).2.2.below b18)))
    clear b18 Lb KD1
    go_wp2_with fail
    refine (unhide (KN w18)).mono ?_
    rintro _ w19 ⟨rfl, b19⟩
    have ST := hide (And.intro ((unhide ST).1.below b19) (And.intro ((unhide ST).2.1.below b19) ((unhide ST).2.2.below b19)))
    clear b19 KN
    go_wp2_with fail
    refine (unhide (KGZ w19)).mono ?_
    rintro _ w20 ⟨v16, rfl, L16, b20⟩
    obtain ⟨a16, n16, c16, rfl⟩ := lies_slice L16
    have ST := hide (And.intro ((unhide ST).1.below b20) (And.intro ((unhide ST).2.1.below b20) ((unhide ST).2.2.below b20)))
    have HL16 := hide L16
    clear b20 KGZ L16 aGZ
    have KA := against_any w20 (.slice a15 n15 c15) (.slice a7 n7 c7) (lowOf (fX r) j) (fX r) (by have := (unhide HLEN).2.2.2.1; omega) (by have := (unhide HLEN).1; omega) (unhide ST).2.2 (unhide ST).1.l7
    obtain ⟨eqb, heqb⟩ : ∃ eqb : Bool, eqb = true ↔ lowOf (fX r) j = fX r := ⟨decide (lowOf (fX r) j = fX r), by simp⟩
    have seq : (sgn (lowOf (fX r) j) (fX r) == 0) = eqb := by
      have h := lowOf_le (fX r) j
      cases hb : eqb with
      | true => rw [sgn_eq (heqb.1 hb)]; rfl
      | false =>
        have : lowOf (fX r) j ≠ fX r := fun e => by rw [heqb.2 e] at hb; cases hb
        rw [sgn_lt (by omega)]; rfl
    generalize sgn (lowOf (fX r) j) (fX r) = sg at *
    have HEQ := hide heqb
    have HKA := hide KA
    clear KA heqb
    go_wp2_with fail
    refine (unhide HKA).mono ?_
    rintro _ w21 ⟨rfl, e21⟩
    rw [e21]
    clear e21 HKA
    go_upto_if 94 with fail
    go_cut [16] from 59 to 158 (fun s16 wx => ∃ (a : Option Addr) (k c : Nat), s16 = .slice a k c ∧ Hid (Lies wx (.slice a k c) (upOf (fX r) j)) ∧ w20 = wx)
    case first =>
      cases hb : eqb with
      | true =>
        subst hb
        have U : Hid (Lies w20 (.slice a15 n15 c15) (upOf (fX r) j)) := hide (by
          unfold upOf
          rw [if_pos ((unhide HEQ).1 rfl)]
          exact (unhide ST).2.2)
        clear HEQ hNG ST HL16
        go_wp2
        go_meet
        case rel => exact ⟨a15, n15, c15, rfl, U, by trivial⟩
      | false =>
        subst hb
        have U : Hid (Lies w20 (.slice a16 n16 c16) (upOf (fX r) j)) := hide (by
          have hn : lowOf (fX r) j ≠ fX r := fun e => by have := (unhide HEQ).2 e; cases this
          rw [up_plain, if_neg hn, ← (unhide HF).1]
          exact unhide HL16)
        clear HEQ hNG ST HL16
        go_wp2
        go_meet
        case rel => exact ⟨a16, n16, c16, rfl, U, by trivial⟩
    case rest =>
    obtain ⟨b16a, b16n, b16c, rfl, HU, rfl⟩ := hcut
    clear HL16 seq HEQ w21
    have lUp : (dig (upOf (fX r) j)).length ≤ 2000 := by
      unfold upOf
      split
      · exact (unhide HLEN).2.2.2.1
      · have h := (unhide HLEN).2.2.2.2
        rw [(unhide HF).1, Nat.add_mul, Nat.one_mul] at h
        exact h
    have HLU := hide lUp
    obtain ⟨x, hx⟩ : ∃ x : Bool, x = true ↔ Okay r (lowOf (fX r) j) := by
      classical
      exact ⟨decide (Okay r (lowOf (fX r) j)), by simp⟩
    obtain ⟨y, hy⟩ : ∃ y : Bool, y = true ↔ Okay r (upOf (fX r) j) := by
      classical
      exact ⟨decide (Okay r (upOf (fX r) j)), by simp⟩
    have hm64 : m < 18446744073709551616 := by rw [unhide HM]; have := mant_lt r; omega
    have KX := hide (okC_any w20 (.slice a15 n15 c15) (.slice a10 n10 c10) (.slice a8 n8 c8) bl bh w1.heap.size (lowOf (fX r) j) (fL r) (fH r) m x (by have := (unhide HLEN).2.2.2.1; omega) (by have := unhide LL; omega) (by have := (unhide LN).2.1; omega) (unhide ST).2.2 (unhide ST).1.l9 (unhide ST).1.l8 (unhide ST).1.kl (unhide ST).1.kh (unhide ST).1.km hm64 (hide (by rw [hx, okay_flag, unhide HM])))
    have HX := hide (And.intro hx hy)
    clear lUp hx hy
    go_wp2_with fail
    refine (unhide KX).mono ?_
    rintro _ w22 ⟨rfl, b22⟩
    have ST := hide (And.intro ((unhide ST).1.below b22) (And.intro ((unhide ST).2.1.below b22) ((unhide ST).2.2.below b22)))
    have HU := hide ((unhide HU).below b22)
    clear KX b22
    have KY := hide (okC_any w22 (.slice b16a b16n b16c) (.slice a10 n10 c10) (.slice a8 n8 c8) bl bh w1.heap.size (upOf (fX r) j) (fL r) (fH r) m y (by have := unhide HLU; omega) (by have := unhide LL; omega) (by have := (unhide LN).2.1; omega) (unhide HU) (unhide ST).1.l9 (unhide ST).1.l8 (unhide ST).1.kl (unhide ST).1.kh (unhide ST).1.km hm64 (hide (by rw [(unhide HX).2, okay_flag, unhide HM])))
    go_wp2_with fail
    refine (unhide KY).mono ?_
    rintro _ w23 ⟨rfl, b23⟩
    have ST := hide (And.intro ((unhide ST).1.below b23) (And.intro ((unhide ST).2.1.below b23) ((unhide ST).2.2.below b23)))
    have HU := hide ((unhide HU).below b23)
    clear KY b23 hm64
    by_cases both : x = false ∧ y = false
    · obtain ⟨rfl, rfl⟩ := both
      have nA1 : n + 1 ≤ A.size := by
        rcases Nat.lt_or_ge n A.size with h | h
        · exact h
        · exfalso
          have j0 : j = 0 := by rw [unhide HJ]; omega
          have e : lowOf (fX r) j = fX r := by rw [j0]; unfold lowOf; simp
          have := (unhide HX).1.2 (by rw [e]; exact okay_self r (unhide HE).2.1)
          cases this
      have NG : Hid (∀ i, A.size - (n + 1) < i → 10 ^ i ≤ fX r → ¬ Good r i) := hide (fun i h1 h2 => by
        by_cases c : i = j
        · rw [c]
          rintro (g | g)
          · have := (unhide HX).1.2 g; cases this
          · have := (unhide HX).2.2 g; cases this
        · refine unhide hNG i ?_ h2
          have := unhide HJ
          omega)
      have SS := hide (unhide ST).1
      clear hNG ST HU HX HLEN HF
      go_wp2
      go_roundw
      case rel => exact ⟨n + 1, by go_num, by omega, nA1, NG, SS⟩
      case measure => simp [intOf]; omega
    · have HBO := hide both
      clear both
      go_upto_region 18 with fail
      go_cut [107] from 102 to 106 (fun s107 wx => s107 = .bool false ∧ w23 = wx)
      case first =>
        have both := unhide HBO
        clear HBO hNG ST HU HX HLEN HF
        cases x with
        | true =>
          clear both
          go_wp2
          go_meet
          case rel => exact ⟨rfl, by trivial⟩
        | false =>
          have y1 : y = true := by
            cases y with
            | true => rfl
            | false => exact absurd ⟨rfl, rfl⟩ both
          subst y1
          clear both
          go_wp2
          go_meet
          case rel => exact ⟨rfl, by trivial⟩
      case rest =>
      obtain ⟨rfl, rfl⟩ := hcut
      go_wp2_with fail
      refine (minus_any w23 (.slice a7 n7 c7) (.slice a15 n15 c15) (fX r) (lowOf (fX r) j) (by have := (unhide HLEN).1; omega) (lowOf_le _ _) (unhide ST).1.l7 (unhide ST).2.2).mono ?_
      rintro _ w24 ⟨vc, rfl, Lc, _, b24⟩
      have ST := hide (And.intro ((unhide ST).1.below b24) (And.intro ((unhide ST).2.1.below b24) ((unhide ST).2.2.below b24)))
      have HU := hide ((unhide HU).below b24)
      clear b24
      go_wp2_with fail
      refine (minus_any w24 (.slice b16a b16n b16c) (.slice a7 n7 c7) (upOf (fX r) j) (fX r) (by have := unhide HLU; omega) (up_le _ _) (unhide HU) (unhide ST).1.l7).mono ?_
      rintro _ w25 ⟨vd, rfl, Ld, _, b25⟩
      have ST := hide (And.intro ((unhide ST).1.below b25) (And.intro ((unhide ST).2.1.below b25) ((unhide ST).2.2.below b25)))
      have HU := hide ((unhide HU).below b25)
      have Lc := Lc.below b25
      clear b25
      have lc : (dig (fX r - lowOf (fX r) j)).length ≤ 1048576 := by
        have := dig_len_mono (Nat.sub_le (fX r) (lowOf (fX r) j))
        have := (unhide HLEN).1
        omega
      have ld : (dig (upOf (fX r) j - fX r)).length ≤ 1048576 := by
        have := dig_len_mono (Nat.sub_le (upOf (fX r) j) (fX r))
        have := unhide HLU
        omega
      have KG := hide (against_any w25 vc vd _ _ lc ld Lc Ld)
      obtain ⟨cg, hcg⟩ : ∃ cg, cg = sgn (fX r - lowOf (fX r) j) (upOf (fX r) j - fX r) := ⟨_, rfl⟩
      rw [← hcg] at KG
      have HCG := hide hcg
      clear lc ld Lc Ld hcg
      go_wp2_with fail
      refine (unhide KG).mono ?_
      rintro _ w26 ⟨rfl, e26⟩
      rw [e26]
      clear e26 KG
      -- which is picked
      obtain ⟨bst, hbst⟩ : ∃ bst : Bool, bst = true ↔ (x = false ∨ (y = true ∧ Upper (fX r) j)) := by
        classical
        exact ⟨decide (x = false ∨ (y = true ∧ Upper (fX r) j)), by simp⟩
      have HBST := hide hbst
      clear hbst
      go_upto_region 21 with fail
      go_cut [140] from 116 to 139 (fun s140 wx => s140 = .bool bst ∧ w25 = wx)
      case first =>
        -- PICK-BEGIN
        have hF0 : F ≠ 0 := by
          rw [(unhide HF).1]
          exact Nat.ne_of_gt (Nat.div_pos (unhide HF).2 (pow10_pos j))
        obtain ⟨k14, b14, o14, rfl, c14⟩ := lies_first (unhide ST).2.1 hF0
        have k14' : (0 : Int) < (n14 : Int) := by omega
        have HPAR := hide (unhide HF).1
        clear hF0 hNG ST HU HX HLEN HF HBO HPD HJ HAA
        cases x with
        | false =>
          have B1 : Hid (bst = true) := hide ((unhide HBST).2 (.inl rfl))
          clear HBST HCG HPAR
          go_wp2
          go_meet
          case rel => exact ⟨by rw [unhide B1], by trivial⟩
        | true =>
          cases y with
          | false =>
            have B1 : Hid (bst = false) := hide (by
              cases hb : bst with
              | false => rfl
              | true => rcases (unhide HBST).1 hb with h | ⟨h, _⟩ <;> cases h)
            clear HBST HCG HPAR
            go_wp2
            go_meet
            case rel => exact ⟨by rw [unhide B1], by trivial⟩
          | true =>
            rcases Nat.lt_trichotomy (fX r - lowOf (fX r) j) (upOf (fX r) j - fX r) with h | h | h
            · have B1 : Hid (bst = false) := hide (by
                cases hb : bst with
                | false => rfl
                | true =>
                  rcases (unhide HBST).1 hb with h' | ⟨_, h'⟩
                  · cases h'
                  · exact absurd h' (upper_lt h))
              have e1 : cg = -1 := by rw [unhide HCG]; exact sgn_lt h
              subst e1
              clear HBST HCG HPAR h
              go_wp2
              go_meet
              case rel => exact ⟨by rw [unhide B1], by trivial⟩
            · have e1 : cg = 0 := by rw [unhide HCG]; exact sgn_eq h
              subst e1
              have B1 : Hid (bst = decide (F % 2 = 1)) := hide (by
                rw [Bool.eq_iff_iff, unhide HBST, decide_eq_true_iff, upper_eq h, unhide HPAR]
                simp)
              have par : (((F % 10000 : Nat) : Int) % 2 == 1) = decide (F % 2 = 1) := by
                rw [Bool.eq_iff_iff, beq_iff_eq, decide_eq_true_iff]
                omega
              generalize F % 10000 = q at *
              generalize decide (F % 2 = 1) = dp at *
              clear HBST HCG HPAR h
              go_wp2
              go_meet
              case rel => exact ⟨by rw [unhide B1], by trivial⟩
            · have B1 : Hid (bst = true) := hide ((unhide HBST).2 (.inr ⟨rfl, upper_gt h⟩))
              have e1 : cg = 1 := by rw [unhide HCG]; exact sgn_gt h
              subst e1
              clear HBST HCG HPAR h
              go_wp2
              go_meet
              case rel => exact ⟨by rw [unhide B1], by trivial⟩
        -- PICK-END
      case rest =>
      obtain ⟨rfl, rfl⟩ := hcut
      have PK : Hid (Pick r j (if bst then upOf (fX r) j else lowOf (fX r) j)) := hide (pick_of (unhide HX).1 (unhide HX).2 (unhide HBO) (unhide HBST))
      obtain ⟨p, hp⟩ : ∃ p, p = if bst then upOf (fX r) j else lowOf (fX r) j := ⟨_, rfl⟩
      rw [← hp] at PK
      have lp : (dig p).length ≤ 2000 := by
        rw [hp]
        split
        · exact unhide HLU
        · exact (unhide HLEN).2.2.2.1
      have HLP := hide lp
      have HP := hide hp
      clear lp hp
      go_upto_if 140 with fail
      go_cut [20] from 59 to 158 (fun s20 wx => ∃ (a : Option Addr) (k c : Nat), s20 = .slice a k c ∧ Hid (Lies wx (.slice a k c) p) ∧ w25 = wx)
      case first =>
        cases hb : bst with
        | true =>
          subst hb
          have U : Hid (Lies w25 (.slice b16a b16n b16c) p) := hide (by rw [unhide HP, if_pos rfl]; exact unhide HU)
          clear HBST hNG ST HU HP PK
          go_wp2
          go_meet
          case rel => exact ⟨b16a, b16n, b16c, rfl, U, by trivial⟩
        | false =>
          subst hb
          have U : Hid (Lies w25 (.slice a15 n15 c15) p) := hide (by rw [unhide HP, if_neg Bool.false_ne_true]; exact (unhide ST).2.2)
          clear HBST hNG ST HU HP PK
          go_wp2
          go_meet
          case rel => exact ⟨a15, n15, c15, rfl, U, by trivial⟩
      case rest =>
      obtain ⟨a20, n20, c20, rfl, HL20, rfl⟩ := hcut
      have BE := hide (unhide ST).1.be
      have BEST : Hid (Best r j p) := hide ⟨(unhide HF).2, unhide PK, fun i h1 h2 => unhide hNG i (by have := unhide HJ; omega) h2⟩
      have p0 : p ≠ 0 := by
        rintro rfl
        exact best_pos (unhide BEST)
      have KD2 := digits_any w25 (.slice a20 n20 c20) p (by have := unhide HLP; omega) (unhide HL20)
      obtain ⟨S0, hS0⟩ : ∃ S0 : ByteArray, S0 = ⟨(decs p).toArray⟩ := ⟨_, rfl⟩
      rw [← hS0] at KD2
      have s8 : S0.size ≤ 9000 := by
        rw [hS0, bytes_len]
        have := decs_of_dig (unhide HLP) (by decide)
        omega
      have HKD := hide KD2
      have HS0 := hide hS0
      have HP0 := hide p0
      clear KD2 hS0 p0 HBST HX HBO hNG ST HU HP PK HL20 HCG HLU HLEN HLP HF HJ HPD
      go_wp2_with fail
      refine (unhide HKD).mono ?_
      rintro _ w27 ⟨rfl, b27⟩
      have BE := hide (below_up (unhide BE) b27)
      clear b27 HKD
      go_wp2_with fail
      go_loopw [21, 22] (fun s21 s22 wr => ∃ (d c : Nat) (S : ByteArray), s21 = .string S ∧ s22 = .int .i64 (-1080 + (c : Int)) ∧ Hid (S = ⟨(decs d).toArray⟩) ∧ Hid (d ≠ 0) ∧ Hid (d * 10 ^ c = p) ∧ c + S.size ≤ 9000 ∧ w27 = wr) (fun s21 _ _ => match s21 with | .string t => t.size | _ => 0)
      case atStart => exact ⟨p, 0, S0, rfl, rfl, HS0, HP0, hide (by simp), by omega, by trivial⟩
      case round =>
        obtain ⟨d, c, S, rfl, rfl, hS, hd0, hdp, hc, rfl⟩ := hrel
        clear HS0 HP0
        have hSl : S.data.toList = decs d := by rw [unhide hS]
        have hSp : 0 < S.size := by rw [← blen_list, hSl]; exact List.length_pos_iff.2 (decs_form d).1
        obtain ⟨q, hq⟩ : ∃ q, S.size = q + 1 := ⟨S.size - 1, by omega⟩
        have qS : q < S.size := by omega
        have x4 : IntKind.i64.wrap ((S.size : Int) - 1) = (q : Int) := by simp [IntKind.wrap, IntKind.bits, IntKind.signed]; omega
        have lq : (q : Int) < (S.size : Int) := by omega
        have lq0 : (0 : Int) ≤ (q : Int) := by omega
        have lq1 : (q : Int) ≤ (S.size : Int) := by omega
        have gq : S.data.toList[q]? = some (S[q]'qS) := List.getElem?_eq_getElem (by rw [blen_list]; exact qS)
        by_cases c1 : d % 10 = 0
        · obtain ⟨e1, e2⟩ := strip_one c1 (unhide hd0)
          have lenq : (decs (d / 10)).length = q := by
            have := blen_list S
            rw [hSl, e1, List.length_append] at this
            simp at this
            omega
          have sq : (S[q]'qS) = 48 := by
            rw [hSl, e1, List.getElem?_append_right (by omega), lenq, Nat.sub_self] at gq
            exact (Option.some.inj gq).symm
          have i1 : (((S[q]'qS).toNat : Int) == 48) = true := by rw [sq]; rfl
          obtain ⟨S', hS'⟩ : ∃ S' : ByteArray, S.extract 0 q = S' := ⟨_, rfl⟩
          have HS' : Hid (S' = ⟨(decs (d / 10)).toArray⟩) := hide (by
            apply ByteArray.ext
            apply Array.toList_inj.1
            rw [← hS', ByteArray.data_extract, Array.toList_extract, hSl, e1]
            simp [List.extract, ← lenq])
          have HD' := hide e2
          have HP' : Hid (d / 10 * 10 ^ (c + 1) = p) := hide (by
            rw [← unhide hdp, Nat.pow_succ, Nat.mul_comm (10 ^ c), ← Nat.mul_assoc]
            congr 1
            omega)
          have s' : S'.size = q := by rw [unhide HS', bytes_len, lenq]
          have x5 : IntKind.i64.wrap (-1080 + (c : Int) + 1) = -1080 + ((c + 1 : Nat) : Int) := by simp [IntKind.wrap, IntKind.bits, IntKind.signed]; omega
          have hc' : c + 1 + S'.size ≤ 9000 := by omega
          have MS : Hid (S'.size < S.size) := hide (by omega)
          clear hS hSl hd0 hdp gq c1 e1 e2 lenq sq s' hq
          go_wp2
          go_roundw
          case rel => exact ⟨d / 10, c + 1, S', rfl, by first | rfl | (congr 1), HS', HD', HP', hc', by trivial⟩
          case measure => have := unhide MS; simp only []; omega
        · obtain ⟨pl, pc, hpl, hpc⟩ := decs_rear c1
          have sq : (S[q]'qS) = pc := by
            have hlen : pl.length = q := by
              have := blen_list S
              rw [hSl, hpl, List.length_append] at this
              simp at this
              omega
            rw [hSl, hpl, List.getElem?_append_right (by omega), hlen, Nat.sub_self] at gq
            exact (Option.some.inj gq).symm
          have i1 : (((S[q]'qS).toNat : Int) == 48) = false := beq_false_of_ne (fun e => hpc (by
            rw [← sq]
            exact UInt8.toNat_inj.1 (by show (S[q]'qS).toNat = 48; omega)))
          have HC1 := hide c1
          clear hSl gq hpl hpc sq c1
          go_wp2
          refine bodyPost_ret (v := .tuple #[.string S, .int .i64 (-1080 + (c : Int))]) (by simp [results, Tryd.results13, go_sem]) rfl ?_
          refine ⟨d, -1080 + (c : Int), by rw [unhide hS], unhide HC1, ⟨j, ?_⟩, by omega, unhide BE⟩
          rw [show (-1080 + (c : Int) + 1080).toNat = c by omega, unhide hdp]
          exact unhide BEST
end Go.Proofs.YtobbbhmkcmbekaaDoor.bigs
/- The law FloatShorts: Short answers what the document says. -/
set_option linter.unusedVariables false
namespace Go.Proofs.YtobbbhmkcmbekaaDoor.bigs
open Go.RowKit
theorem short_same {r j i d e : Nat} {ten t : Int} (h1 : Best r j (d * 10 ^ (ten + 1080).toNat)) (h2 : Best r i (e * 10 ^ (t + 1080).toNat)) (hd : d % 10 ≠ 0) (he : e % 10 ≠ 0) (h3 : -1080 ≤ ten) (h4 : -1080 ≤ t) : e = d ∧ t = ten := by
  obtain ⟨a, b⟩ := ten_unique (best_unique h1 h2) hd he
  exact ⟨a.symm, by omega⟩
set_option maxHeartbeats 8000000 in
set_option maxRecDepth 100000 in
theorem shortsNone (w : World) (b r : Nat) (hb : b < 18446744073709551616) (hr : r = b % 9223372036854775808) (h0 : r = 0 ∨ 9218868437227405312 ≤ r) :
    Calls Tryd.prog 4 #[.int .u64 (b : Int)] w fun e w' => e = .returned (.bool true) ∧ Below w.heap.size w w' := by
  have KS := hide (short_none w b r hb hr h0)
  have kp := parts_any w b hb
  have hf := back_none_plain hr hb h0
  generalize (fparts b).2.2 = kd at *
  generalize (fparts b).2.1 = ex at *
  generalize (fparts b).1 = mt at *
  have KP := hide kp
  clear kp hr h0
  rcases hf with rfl | rfl | ⟨rfl, rfl⟩
  all_goals
    go_enter Tryd.func4, Tryd.ntmps4
    go_wp2_with fail
    refine (unhide KS).mono ?_
    rintro _ w2 ⟨rfl, rfl⟩
    go_wp2_with fail
    refine (unhide KP).mono ?_
    rintro _ w3 ⟨rfl, rfl⟩
    clear KS KP
    go_wp2
    go_ret
    exact ⟨rfl, Below.refl _ _⟩
set_option maxHeartbeats 8000000 in
set_option maxRecDepth 100000 in
theorem shortsSome (w : World) (b r : Nat) (hb : b < 18446744073709551616) (hr : r = b % 9223372036854775808) (h0 : 0 < r) (hi : r < 9218868437227405312) (htab : Lib.TabIs Tryd.prog w "internal/strconv.uint64pow10" .u64 Lib.pow10Tab) :
    Calls Tryd.prog 4 #[.int .u64 (b : Int)] w fun e w' => e = .returned (.bool true) ∧ Below w.heap.size w w' := by
  have KS := hide (short_any w b r hb hr h0 hi htab)
  obtain ⟨e1, e2, e3⟩ := parts_sign b r hb hr h0 hi
  have KP : ∀ W, Hid (Calls Tryd.prog 9 #[.int .u64 (b : Int)] W fun e w' => e = .returned (.tuple #[.int .u64 ((mant r : Nat) : Int), .int .i64 (((r / 4503599627370496 - 1 : Nat) : Int) - 1074), .int .i64 0]) ∧ w' = W) := fun W => hide (by
    have := parts_any W b hb
    rw [e1, e2, e3] at this
    exact this)
  have mp : 0 < mant r := by unfold mant; split <;> omega
  have KO : ∀ W, Hid _ := fun W => hide (shortOf_any W r h0 hi)
  have rm : (b : Int) % 9223372036854775808 = (r : Int) := by omega
  obtain ⟨m, hm⟩ : ∃ m, m = mant r := ⟨_, rfl⟩
  obtain ⟨ex, hex⟩ : ∃ ex : Int, ex = ((r / 4503599627370496 - 1 : Nat) : Int) - 1074 := ⟨_, rfl⟩
  rw [← hm, ← hex] at KP
  rw [← hm] at mp
  have m0 : ((m : Int) == 0) = false := beq_false_of_ne (by omega)
  clear htab hr h0 hi e1 e2 e3 hm hex
  go_enter Tryd.func4, Tryd.ntmps4
  go_wp2_with fail
  refine (unhide KS).mono ?_
  rintro _ w2 ⟨⟨d, ten, rfl, hd10, hd64, t1, t2, j, hB⟩, b2⟩
  rw [decDigits_decs]
  have HB := hide (And.intro hB (And.intro hd10 t1))
  have B2 := hide b2
  clear KS hB b2
  obtain ⟨S, hS⟩ : ∃ S : ByteArray, S = ⟨(decs d).toArray⟩ := ⟨_, rfl⟩
  rw [← hS]
  have HS := hide hS
  clear hS
  go_wp2_with fail
  refine (unhide (KP _)).mono ?_
  rintro _ w3 ⟨rfl, e3⟩
  rw [e3]
  clear KP e3
  go_wp2_with fail
  refine (unhide (KO w2)).mono ?_
  rintro _ w4 ⟨d', ten', rfl, hd10', ⟨j', hB'⟩, t1', b4⟩
  obtain ⟨e4, e5⟩ := short_same (unhide HB).1 hB' (unhide HB).2.1 hd10' (by have := (unhide HB).2.2; omega) t1'
  rw [e4, e5, ← unhide HS]
  have B4 := hide ((unhide B2).trans (b4.mono (unhide B2).size))
  clear KO hB' b4 e4 e5 HB HS hd10' t1'
  go_wp2
  go_ret
  exact ⟨rfl, unhide B4⟩
theorem lawShortsF (w : World) (b : Nat) (hb : b < 18446744073709551616) (htab : Lib.TabIs Tryd.prog w "internal/strconv.uint64pow10" .u64 Lib.pow10Tab) :
    Calls Tryd.prog 4 #[.int .u64 (b : Int)] w fun e w' => e = .returned (.bool true) ∧ Below w.heap.size w w' := by
  by_cases h : b % 9223372036854775808 = 0 ∨ 9218868437227405312 ≤ b % 9223372036854775808
  · exact shortsNone w b _ hb rfl h
  · exact shortsSome w b _ hb rfl (by omega) (by omega) htab
end Go.Proofs.YtobbbhmkcmbekaaDoor.bigs
/- The walks of package float: noughts, withExponent, layOut. -/
set_option linter.unusedVariables false
namespace Go.Proofs.YtobbbhmkcmbekaaDoor.bigs
open Go.RowKit Go.Sort
theorem repeat_zeros (n : Nat) : (⟨(Lib.repeatL [48] n).toArray⟩ : ByteArray) = zeros n := by
  unfold zeros
  congr 2
  induction n with
  | zero => rfl
  | succ n ih => rw [List.replicate_succ, ← ih]; rfl
set_option maxRecDepth 100000 in
theorem noughtsP_any (w : World) (n : Nat) (hn : n ≤ 1000) :
    Calls Tryd.prog 50 #[.int .i64 (n : Int)] w fun e w' => e = .returned (.string (zeros n)) ∧ Below w.heap.size w w' := by
  have K : Hid (Calls Tryd.prog 75 #[.string ⟨#[48]⟩, .int .i64 (n : Int)] w fun e w' => e = .returned (.string (zeros n)) ∧ Below w.heap.size w w') := hide (by
    by_cases h0 : n = 0
    · subst h0
      refine (Tryd.strings_Repeat_zero ⟨#[48]⟩ w).mono ?_
      rintro e w' ⟨rfl, rfl⟩
      exact ⟨rfl, Below.refl _ _⟩
    · by_cases h1 : n = 1
      · subst h1
        refine (Tryd.strings_Repeat_one ⟨#[48]⟩ w).mono ?_
        rintro e w' ⟨rfl, rfl⟩
        exact ⟨rfl, Below.refl _ _⟩
      · have h := Tryd.strings_Repeat_main ⟨#[48]⟩ n w (by omega) (by omega) (by show 1 * n ≤ _; omega) (by decide)
        rw [show (⟨#[48]⟩ : ByteArray).data.toList = [48] by rfl, repeat_zeros] at h
        exact h)
  go_enter Tryd.func50, Tryd.ntmps50
  go_wp2_with fail
  refine (unhide K).mono ?_
  rintro e w' ⟨rfl, b⟩
  have B := hide b
  clear b K
  go_wp2
  go_ret
  exact ⟨rfl, unhide B⟩
theorem cat_list (a b : ByteArray) : (a ++ b).data.toList = a.data.toList ++ b.data.toList := by
  rw [ByteArray.data_append, Array.toList_append]
theorem cat_run (a b : ByteArray) (h : a.size + b.size ≤ 100000) (u : World) : (Op.stringOp .add a b).run Tryd.prog u = .ok (.string (a ++ b)) u := run_string_add_sum _ _ _ (by omega)
theorem zeros_list (n : Nat) : (zeros n).data.toList = List.replicate n 48 := by unfold zeros; simp
theorem cut_list (s : ByteArray) (a b : Nat) : (s.extract a b).data.toList = (s.data.toList.take b).drop a := by
  rw [ByteArray.data_extract, Array.toList_extract]
  simp [List.extract, List.drop_take]
theorem cut_front (s : ByteArray) (b : Nat) : (s.extract 0 b).data.toList = s.data.toList.take b := by rw [cut_list, List.drop_zero]
theorem cut_rear (s : ByteArray) (a : Nat) : (s.extract a s.size).data.toList = s.data.toList.drop a := by
  rw [cut_list, List.take_of_length_le (by rw [blen_list]; exact Nat.le_refl _)]
theorem cut_size (s : ByteArray) (a b : Nat) (h : b ≤ s.size) : (s.extract a b).size = b - a := by rw [ByteArray.size_extract]; omega
/-- Digits with an exponent. -/
def expL (D : List UInt8) (x : Int) : List UInt8 := D.take 1 ++ ((if D.drop 1 = [] then [] else 46 :: D.drop 1) ++ 101 :: Lib.itoa x)
theorem itoa_len (x : Int) (h1 : -100000 ≤ x) (h2 : x ≤ 100000) : (Lib.itoa x).length ≤ 10 := by
  have e : (10 : Nat) ^ 6 = 1000000 := by decide
  unfold Lib.itoa
  split
  · rw [List.length_cons, decDigits_decs]
    have := decs_length_le (n := x.natAbs) (k := 6) (by omega) (by decide)
    omega
  · rw [decDigits_decs]
    have := decs_length_le (n := x.toNat) (k := 6) (by omega) (by decide)
    omega
set_option maxHeartbeats 8000000 in
set_option maxRecDepth 100000 in
theorem withExp_any (w : World) (S : ByteArray) (x : Int) (s1 : 0 < S.size) (s2 : S.size ≤ 100) (x1 : -100000 ≤ x) (x2 : x ≤ 100000) (htab : Lib.TabIs Tryd.prog w "internal/strconv.uint64pow10" .u64 Lib.pow10Tab) :
    Calls Tryd.prog 49 #[.string S, .int .i64 x] w fun e w' => (∃ R : ByteArray, e = .returned (.string R) ∧ R.data.toList = expL S.data.toList x) ∧ Below w.heap.size w w' := by
  have KI : ∀ k, Hid (Calls Tryd.prog 74 #[.int .i64 x] (w.drewN k) fun e w' => e = .returned (.string ⟨(Lib.itoa x).toArray⟩) ∧ Below w.heap.size w w') := fun k => hide (by
    refine (Tryd.strconv_Itoa x (by omega) (by omega) (w.drewN k) (tab_below htab (below_drewN (Below.refl _ _) k))).mono ?_
    rintro e w' ⟨rfl, i, os, hw⟩
    refine ⟨rfl, ?_⟩
    rw [hw]
    have h := Lib.below_grow (w.drewN k).heap.size (w.drewN k) (Nat.le_refl _) i os
    exact (below_drewN (Below.refl _ _) k).trans (h.mono (Nat.le_refl _)))
  have il := itoa_len x x1 x2
  obtain ⟨I, hI⟩ : ∃ I : ByteArray, I = ⟨(Lib.itoa x).toArray⟩ := ⟨_, rfl⟩
  have Is : I.size ≤ 10 := by rw [hI, bytes_len]; exact il
  have IL : I.data.toList = Lib.itoa x := by rw [hI]
  rw [← hI] at KI
  obtain ⟨F, hF⟩ : ∃ F : ByteArray, S.extract 0 1 = F := ⟨_, rfl⟩
  obtain ⟨T, hT⟩ : ∃ T : ByteArray, S.extract 1 S.size = T := ⟨_, rfl⟩
  have Fs : F.size = 1 := by rw [← hF, cut_size _ _ _ (by omega)]
  have Ts : T.size = S.size - 1 := by rw [← hT, cut_size _ _ _ (by omega)]
  have FL : F.data.toList = S.data.toList.take 1 := by rw [← hF, cut_front]
  have TL : T.data.toList = S.data.toList.drop 1 := by rw [← hT, cut_rear]
  have q0 : (1 : Int) ≤ (S.size : Int) := by omega
  have d1 : (⟨#[46]⟩ : ByteArray).size = 1 := rfl
  have d2 : (⟨#[101]⟩ : ByteArray).size = 1 := rfl
  have c1 := cat_run ⟨#[46]⟩ T (by omega)
  have c2 := cat_run F (⟨#[46]⟩ ++ T) (by rw [ByteArray.size_append]; omega)
  have c3 := cat_run (F ++ (⟨#[46]⟩ ++ T)) ⟨#[101]⟩ (by rw [ByteArray.size_append, ByteArray.size_append]; omega)
  have c4 := cat_run ((F ++ (⟨#[46]⟩ ++ T)) ++ ⟨#[101]⟩) I (by rw [ByteArray.size_append, ByteArray.size_append, ByteArray.size_append]; omega)
  have c5 := cat_run F ⟨#[101]⟩ (by omega)
  have c6 := cat_run (F ++ ⟨#[101]⟩) I (by rw [ByteArray.size_append]; omega)
  have R1 : Hid (T.data.toList ≠ [] → (((F ++ (⟨#[46]⟩ ++ T)) ++ ⟨#[101]⟩) ++ I).data.toList = expL S.data.toList x) := hide (fun h => by
    unfold expL
    rw [cat_list, cat_list, cat_list, cat_list, IL, FL, TL, if_neg (by rw [← TL]; exact h)]
    simp)
  have R2 : Hid (T.data.toList = [] → ((F ++ ⟨#[101]⟩) ++ I).data.toList = expL S.data.toList x) := hide (fun h => by
    unfold expL
    rw [cat_list, cat_list, IL, FL, if_pos (by rw [← TL]; exact h)]
    simp)
  generalize hA4 : ((F ++ (⟨#[46]⟩ ++ T)) ++ ⟨#[101]⟩) ++ I = A4 at *
  generalize hA3 : (F ++ (⟨#[46]⟩ ++ T)) ++ ⟨#[101]⟩ = A3 at *
  generalize hA2 : F ++ (⟨#[46]⟩ ++ T) = A2 at *
  generalize hA1 : (⟨#[46]⟩ : ByteArray) ++ T = A1 at *
  generalize hA6 : (F ++ ⟨#[101]⟩) ++ I = A6 at *
  generalize hA5 : F ++ (⟨#[101]⟩ : ByteArray) = A5 at *
  have TN := hide (blen_list T)
  clear htab hI IL FL TL hA1 hA2 hA3 hA4 hA5 hA6 d1 d2 Fs il
  by_cases c : S.size = 1
  · have T0 : T.toList = [] := by
      rw [ByteArray.toList_eq]
      exact List.eq_nil_of_length_eq_zero (by rw [unhide TN]; omega)
    have R := hide (unhide R2 (by rw [← ByteArray.toList_eq]; exact T0))
    clear R1 R2 Ts TN c1 c2 c3 c4 c
    go_enter Tryd.func49, Tryd.ntmps49
    go_wp2_with fail
    go_quiet (fail)
    go_wp2_with fail
    refine (unhide (KI _)).mono ?_
    rintro _ w2 ⟨rfl, b2⟩
    have B := hide b2
    clear b2 KI
    go_wp2
    go_ret
    exact ⟨⟨A6, rfl, unhide R⟩, unhide B⟩
  · have T1 : T.data.toList ≠ [] := fun e => by
      have h := unhide TN
      rw [e] at h
      simp at h
      omega
    have T0 : T.toList.isEmpty = false := by
      rw [ByteArray.toList_eq]
      cases hl : T.data.toList with
      | nil => exact absurd hl T1
      | cons a r => rfl
    have R := hide (unhide R1 T1)
    clear R1 R2 Ts TN c5 c6 c T1
    go_enter Tryd.func49, Tryd.ntmps49
    go_wp2_with fail
    go_quiet (fail)
    go_wp2_with fail
    refine (unhide (KI _)).mono ?_
    rintro _ w2 ⟨rfl, b2⟩
    have B := hide b2
    clear b2 KI
    go_wp2
    go_ret
    exact ⟨⟨A4, rfl, unhide R⟩, unhide B⟩
end Go.Proofs.YtobbbhmkcmbekaaDoor.bigs
/- The walks of package float: layOut, Text. -/
set_option linter.unusedVariables false
namespace Go.Proofs.YtobbbhmkcmbekaaDoor.bigs
open Go.RowKit Go.Sort
/-- Digits laid out, the point behind the first p of them. -/
def layL (D : List UInt8) (p : Int) : List UInt8 :=
  if p < -3 ∨ 17 < p then expL D (p - 1) else if p ≤ 0 then [48, 46] ++ (List.replicate (-p).toNat 48 ++ D) else if p < (D.length : Int) then D.take p.toNat ++ 46 :: D.drop p.toNat else D ++ (List.replicate (p - (D.length : Int)).toNat 48 ++ [46, 48])
theorem i64_keep (x : Int) (h1 : -1000000000 ≤ x) (h2 : x ≤ 1000000000) : IntKind.i64.wrap x = x := by
  simp [IntKind.wrap, IntKind.bits, IntKind.signed]
  omega
set_option maxHeartbeats 8000000 in
set_option maxRecDepth 100000 in
theorem layOut_any (w : World) (S : ByteArray) (p : Int) (s1 : 0 < S.size) (s2 : S.size ≤ 100) (x1 : -10000 ≤ p) (x2 : p ≤ 10000) (htab : Lib.TabIs Tryd.prog w "internal/strconv.uint64pow10" .u64 Lib.pow10Tab) :
    Calls Tryd.prog 20 #[.string S, .int .i64 p] w fun e w' => (∃ R : ByteArray, e = .returned (.string R) ∧ R.data.toList = layL S.data.toList p) ∧ Below w.heap.size w w' := by
  have SN := blen_list S
  by_cases cA : p < -3 ∨ 17 < p
  · have K := hide (withExp_any w S (p - 1) s1 s2 (by omega) (by omega) htab)
    have y := i64_keep (p - 1) (by omega) (by omega)
    have E : Hid (layL S.data.toList p = expL S.data.toList (p - 1)) := hide (by unfold layL; rw [if_pos cA])
    obtain ⟨q, hq⟩ : ∃ q, q = p - 1 := ⟨_, rfl⟩
    rw [← hq] at K E
    have y' : IntKind.i64.wrap (p - 1) = q := by rw [hq]; exact y
    clear htab SN y hq
    rcases cA with c | c
    · go_enter Tryd.func20, Tryd.ntmps20
      go_wp2_with fail
      refine (unhide K).mono ?_
      rintro _ w1 ⟨⟨R, rfl, hR⟩, b1⟩
      have B := hide b1
      have HR := hide hR
      clear b1 hR K
      go_wp2
      go_ret
      exact ⟨⟨R, rfl, by rw [unhide HR, unhide E]⟩, unhide B⟩
    · have c' : ¬ p < -3 := by omega
      have c2 : p > 17 := c
      go_enter Tryd.func20, Tryd.ntmps20
      go_wp2_with fail
      refine (unhide K).mono ?_
      rintro _ w1 ⟨⟨R, rfl, hR⟩, b1⟩
      have B := hide b1
      have HR := hide hR
      clear b1 hR K
      go_wp2
      go_ret
      exact ⟨⟨R, rfl, by rw [unhide HR, unhide E]⟩, unhide B⟩
  · have i1 : ¬ p < -3 := by omega
    have i2 : ¬ p > 17 := by omega
    by_cases cB : p ≤ 0
    · obtain ⟨n, hn⟩ : ∃ n : Nat, p = -(n : Int) := ⟨(-p).toNat, by omega⟩
      have K := hide (noughtsP_any w n (by omega))
      obtain ⟨Z, hZ⟩ : ∃ Z : ByteArray, Z = zeros n := ⟨_, rfl⟩
      have Zs : Z.size = n := by rw [hZ, zeros_size]
      have y : IntKind.i64.wrap (-p) = (n : Int) := by rw [i64_keep _ (by omega) (by omega)]; omega
      have d1 : (⟨#[48, 46]⟩ : ByteArray).size = 2 := rfl
      have c1 := cat_run ⟨#[48, 46]⟩ Z (by omega)
      have c2 := cat_run (⟨#[48, 46]⟩ ++ Z) S (by rw [ByteArray.size_append]; omega)
      have R : Hid (((⟨#[48, 46]⟩ ++ Z) ++ S).data.toList = layL S.data.toList p) := hide (by
        unfold layL
        rw [if_neg cA, if_pos cB, cat_list, cat_list, hZ, zeros_list, show (-p).toNat = n by omega]
        simp)
      rw [← hZ] at K
      generalize (⟨#[48, 46]⟩ ++ Z) ++ S = A2 at *
      generalize (⟨#[48, 46]⟩ : ByteArray) ++ Z = A1 at *
      clear htab SN hZ hn d1 cA
      go_enter Tryd.func20, Tryd.ntmps20
      go_wp2_with fail
      refine (unhide K).mono ?_
      rintro _ w1 ⟨rfl, b1⟩
      have B := hide b1
      clear b1 K
      go_wp2
      go_ret
      exact ⟨⟨A2, rfl, unhide R⟩, unhide B⟩
    · by_cases cC : p < (S.size : Int)
      · obtain ⟨n, rfl⟩ : ∃ n : Nat, p = (n : Int) := ⟨p.toNat, by omega⟩
        obtain ⟨F, hF⟩ : ∃ F : ByteArray, S.extract 0 n = F := ⟨_, rfl⟩
        obtain ⟨T, hT⟩ : ∃ T : ByteArray, S.extract n S.size = T := ⟨_, rfl⟩
        have Fs : F.size = n := by rw [← hF, cut_size _ _ _ (by omega)]; omega
        have Ts : T.size = S.size - n := by rw [← hT, cut_size _ _ _ (by omega)]
        have FL : F.data.toList = S.data.toList.take n := by rw [← hF, cut_front]
        have TL : T.data.toList = S.data.toList.drop n := by rw [← hT, cut_rear]
        have d1 : (⟨#[46]⟩ : ByteArray).size = 1 := rfl
        have c1 := cat_run F ⟨#[46]⟩ (by omega)
        have c2 := cat_run (F ++ ⟨#[46]⟩) T (by rw [ByteArray.size_append]; omega)
        have R : Hid (((F ++ ⟨#[46]⟩) ++ T).data.toList = layL S.data.toList (n : Int)) := hide (by
          unfold layL
          rw [if_neg cA, if_neg cB, SN, if_pos cC, cat_list, cat_list, FL, TL, Int.toNat_natCast]
          simp)
        have q0 : (0 : Int) ≤ (n : Int) := by omega
        have q1 : (n : Int) ≤ (S.size : Int) := by omega
        generalize (F ++ ⟨#[46]⟩) ++ T = A2 at *
        generalize F ++ (⟨#[46]⟩ : ByteArray) = A1 at *
        clear htab SN FL TL d1 cA Fs Ts
        go_enter Tryd.func20, Tryd.ntmps20
        go_wp2_with fail
        go_quiet (fail)
        go_wp2
        go_ret
        exact ⟨⟨A2, rfl, unhide R⟩, below_drewN (Below.refl _ _) _⟩
      · obtain ⟨n, hn⟩ : ∃ n : Nat, p - (S.size : Int) = (n : Int) := ⟨(p - (S.size : Int)).toNat, by omega⟩
        have K := hide (noughtsP_any w n (by omega))
        obtain ⟨Z, hZ⟩ : ∃ Z : ByteArray, Z = zeros n := ⟨_, rfl⟩
        have Zs : Z.size = n := by rw [hZ, zeros_size]
        have y : IntKind.i64.wrap (p - (S.size : Int)) = (n : Int) := by rw [i64_keep _ (by omega) (by omega)]; omega
        have d1 : (⟨#[46, 48]⟩ : ByteArray).size = 2 := rfl
        have c1 := cat_run S Z (by omega)
        have c2 := cat_run (S ++ Z) ⟨#[46, 48]⟩ (by rw [ByteArray.size_append]; omega)
        have R : Hid (((S ++ Z) ++ ⟨#[46, 48]⟩).data.toList = layL S.data.toList p) := hide (by
          unfold layL
          rw [if_neg cA, if_neg cB, SN, if_neg cC, cat_list, cat_list, hZ, zeros_list, hn, Int.toNat_natCast]
          simp)
        rw [← hZ] at K
        generalize (S ++ Z) ++ ⟨#[46, 48]⟩ = A2 at *
        generalize S ++ Z = A1 at *
        clear htab SN hZ hn d1 cA
        go_enter Tryd.func20, Tryd.ntmps20
        go_wp2_with fail
        refine (unhide K).mono ?_
        rintro _ w1 ⟨rfl, b1⟩
        have B := hide b1
        clear b1 K
        go_wp2
        go_ret
        exact ⟨⟨A2, rfl, unhide R⟩, unhide B⟩
end Go.Proofs.YtobbbhmkcmbekaaDoor.bigs
/- The walk of package float: Text. -/
set_option linter.unusedVariables false
namespace Go.Proofs.YtobbbhmkcmbekaaDoor.bigs
open Go.RowKit Go.Sort
def sgL (b : Nat) : List UInt8 := if 9223372036854775808 ≤ b then [45] else []
/-- The text of a fraction. -/
def TextIs (b : Nat) (T : List UInt8) : Prop :=
  ((fparts b).2.2 = 2 ∧ T = [110, 97, 110]) ∨ ((fparts b).2.2 = 1 ∧ T = sgL b ++ [105, 110, 102]) ∨ ((fparts b).2.2 = 0 ∧ (fparts b).1 = 0 ∧ T = sgL b ++ [48, 46, 48]) ∨
  ((fparts b).2.2 = 0 ∧ (fparts b).1 ≠ 0 ∧ ∃ (d j : Nat) (ten : Int), d % 10 ≠ 0 ∧ -1080 ≤ ten ∧ Best (b % 9223372036854775808) j (d * 10 ^ (ten + 1080).toNat) ∧ T = sgL b ++ layL (decs d) (((decs d).length : Int) + ten))
theorem textIs_unique {b : Nat} {T U : List UInt8} (h : TextIs b T) (k : TextIs b U) : T = U := by
  rcases h with ⟨a, h⟩ | ⟨a, h⟩ | ⟨a, a2, h⟩ | ⟨a, a2, d, j, ten, h1, h2, h3, h⟩ <;> rcases k with ⟨c, k⟩ | ⟨c, k⟩ | ⟨c, c2, k⟩ | ⟨c, c2, d', j', ten', k1, k2, k3, k⟩ <;> first | (rw [h, k]; done) | omega | skip
  obtain ⟨e1, e2⟩ := short_same h3 k3 h1 k1 h2 k2
  rw [h, k, e1, e2]
theorem and_top (b : Nat) (hb : b < 18446744073709551616) : Go.bits .and .u64 (b : Int) 9223372036854775808 = if 9223372036854775808 ≤ b then 9223372036854775808 else 0 := by
  have h := bits_and_u64_nat b 9223372036854775808 hb (by decide)
  have e : (9223372036854775808 : Nat) = 2 ^ 63 := by decide
  have h2 : b &&& 9223372036854775808 = if 9223372036854775808 ≤ b then 9223372036854775808 else 0 := by
    have top : b.testBit 63 = decide (9223372036854775808 ≤ b) := by
      rw [Nat.testBit_eq_decide_div_mod_eq, ← e, decide_eq_decide]
      omega
    apply Nat.eq_of_testBit_eq
    intro i
    rw [Nat.testBit_and, e, Nat.testBit_two_pow, ← e]
    by_cases c : 9223372036854775808 ≤ b
    · rw [if_pos c, e, Nat.testBit_two_pow]
      by_cases hi : 63 = i
      · rw [← hi, top, decide_eq_true c]; rfl
      · rw [decide_eq_false hi]; simp
    · rw [if_neg c, Nat.zero_testBit]
      by_cases hi : 63 = i
      · rw [← hi, top, decide_eq_false c]; rfl
      · rw [decide_eq_false hi]; simp
  rw [h2] at h
  split at h
  · rw [if_pos (by assumption)]; exact h
  · rw [if_neg (by assumption)]; exact h
/-- What a sign makes of the walk. -/
def SgOf (b : Nat) (G : ByteArray) : Prop := (9223372036854775808 ≤ b ∧ G = ⟨#[45]⟩) ∨ (b < 9223372036854775808 ∧ G = ⟨#[]⟩)
theorem sgOf_list {b : Nat} {G : ByteArray} (h : SgOf b G) : G.data.toList = sgL b ∧ G.size ≤ 1 := by
  unfold sgL
  rcases h with ⟨h, rfl⟩ | ⟨h, rfl⟩
  · rw [if_pos h]; exact ⟨rfl, by decide⟩
  · rw [if_neg (by omega)]; exact ⟨rfl, by decide⟩
set_option maxHeartbeats 8000000 in
set_option maxRecDepth 100000 in
theorem textW_plain (w : World) (b kd : Nat) (hb : b < 18446744073709551616) (hk : (fparts b).2.2 = (kd : Int)) (hkd : (kd = 2) ∨ (kd = 1) ∨ (kd = 0 ∧ (fparts b).1 = 0)) :
    Calls Tryd.prog 10 #[.int .u64 (b : Int)] w fun e w' => (∃ R : ByteArray, e = .returned (.string R) ∧ TextIs b R.data.toList) ∧ Below w.heap.size w w' := by
  have kp := partsW_any w b hb
  have an := and_top b hb
  have TI : ∀ (G : ByteArray), SgOf b G → (kd = 2 → Hid (TextIs b [110, 97, 110])) ∧ (kd = 1 → Hid (TextIs b (G ++ ⟨#[105, 110, 102]⟩).data.toList)) ∧ (kd = 0 → (fparts b).1 = 0 → Hid (TextIs b (G ++ ⟨#[48, 46, 48]⟩).data.toList)) := fun G hG => by
    obtain ⟨g1, _⟩ := sgOf_list hG
    refine ⟨fun h => hide (.inl ⟨by rw [hk, h]; rfl, rfl⟩), fun h => hide (.inr (.inl ⟨by rw [hk, h]; rfl, by rw [cat_list, g1]⟩)), fun h h2 => hide (.inr (.inr (.inl ⟨by rw [hk, h]; rfl, h2, by rw [cat_list, g1]⟩)))⟩
  rw [hk] at kp
  generalize (fparts b).2.1 = ex at *
  generalize (fparts b).1 = mt at *
  have KP := hide kp
  clear kp hk
  by_cases sg : 9223372036854775808 ≤ b
  · rw [if_pos sg] at an
    obtain ⟨t2, t1, t0⟩ := TI ⟨#[45]⟩ (.inl ⟨sg, rfl⟩)
    have d0 : (⟨#[45]⟩ : ByteArray).size = 1 := rfl
    have d1 : (⟨#[105, 110, 102]⟩ : ByteArray).size = 3 := rfl
    have d2 : (⟨#[48, 46, 48]⟩ : ByteArray).size = 3 := rfl
    have c1 := cat_run ⟨#[45]⟩ ⟨#[105, 110, 102]⟩ (by omega)
    have c2 := cat_run ⟨#[45]⟩ ⟨#[48, 46, 48]⟩ (by omega)
    generalize (⟨#[45]⟩ : ByteArray) ++ ⟨#[105, 110, 102]⟩ = A1 at *
    generalize (⟨#[45]⟩ : ByteArray) ++ ⟨#[48, 46, 48]⟩ = A2 at *
    clear TI d0 d1 d2 sg hb
    rcases hkd with rfl | rfl | ⟨rfl, rfl⟩
    · have T := t2 rfl
      clear t2 t1 t0
      go_enter Tryd.func10, Tryd.ntmps10
      go_wp2_with fail
      refine (unhide KP).mono ?_
      rintro _ w1 ⟨rfl, rfl⟩
      clear KP
      go_wp2
      go_ret
      exact ⟨⟨_, rfl, unhide T⟩, Below.refl _ _⟩
    · have T := t1 rfl
      clear t2 t1 t0
      go_enter Tryd.func10, Tryd.ntmps10
      go_wp2_with fail
      refine (unhide KP).mono ?_
      rintro _ w1 ⟨rfl, rfl⟩
      clear KP
      go_wp2
      go_ret
      exact ⟨⟨A1, rfl, unhide T⟩, Below.refl _ _⟩
    · have T := t0 rfl rfl
      clear t2 t1 t0
      go_enter Tryd.func10, Tryd.ntmps10
      go_wp2_with fail
      refine (unhide KP).mono ?_
      rintro _ w1 ⟨rfl, rfl⟩
      clear KP
      go_wp2
      go_ret
      exact ⟨⟨A2, rfl, unhide T⟩, Below.refl _ _⟩
  · rw [if_neg sg] at an
    obtain ⟨t2, t1, t0⟩ := TI ⟨#[]⟩ (.inr ⟨by omega, rfl⟩)
    have d0 : (⟨#[]⟩ : ByteArray).size = 0 := rfl
    have d1 : (⟨#[105, 110, 102]⟩ : ByteArray).size = 3 := rfl
    have d2 : (⟨#[48, 46, 48]⟩ : ByteArray).size = 3 := rfl
    have c1 := cat_run ⟨#[]⟩ ⟨#[105, 110, 102]⟩ (by omega)
    have c2 := cat_run ⟨#[]⟩ ⟨#[48, 46, 48]⟩ (by omega)
    generalize (⟨#[]⟩ : ByteArray) ++ ⟨#[105, 110, 102]⟩ = A1 at *
    generalize (⟨#[]⟩ : ByteArray) ++ ⟨#[48, 46, 48]⟩ = A2 at *
    clear TI d0 d1 d2 sg hb
    rcases hkd with rfl | rfl | ⟨rfl, rfl⟩
    · have T := t2 rfl
      clear t2 t1 t0
      go_enter Tryd.func10, Tryd.ntmps10
      go_wp2_with fail
      refine (unhide KP).mono ?_
      rintro _ w1 ⟨rfl, rfl⟩
      clear KP
      go_wp2
      go_ret
      exact ⟨⟨_, rfl, unhide T⟩, Below.refl _ _⟩
    · have T := t1 rfl
      clear t2 t1 t0
      go_enter Tryd.func10, Tryd.ntmps10
      go_wp2_with fail
      refine (unhide KP).mono ?_
      rintro _ w1 ⟨rfl, rfl⟩
      clear KP
      go_wp2
      go_ret
      exact ⟨⟨A1, rfl, unhide T⟩, Below.refl _ _⟩
    · have T := t0 rfl rfl
      clear t2 t1 t0
      go_enter Tryd.func10, Tryd.ntmps10
      go_wp2_with fail
      refine (unhide KP).mono ?_
      rintro _ w1 ⟨rfl, rfl⟩
      clear KP
      go_wp2
      go_ret
      exact ⟨⟨A2, rfl, unhide T⟩, Below.refl _ _⟩
theorem exp_len {D : List UInt8} {x : Int} (hD : D.length ≤ 100) (h1 : -100000 ≤ x) (h2 : x ≤ 100000) : (expL D x).length ≤ 500 := by
  unfold expL
  have h := itoa_len x h1 h2
  rw [List.length_append, List.length_append, List.length_take, List.length_cons]
  split
  · simp; omega
  · rw [List.length_cons, List.length_drop]; omega
theorem lay_len {D : List UInt8} {p : Int} (hD : D.length ≤ 100) (h1 : -10000 ≤ p) (h2 : p ≤ 10000) : (layL D p).length ≤ 500 := by
  unfold layL
  split
  · exact exp_len hD (by omega) (by omega)
  · split
    · rw [List.length_append, List.length_append, List.length_replicate]; simp; omega
    · split
      · rw [List.length_append, List.length_take, List.length_cons, List.length_drop]; omega
      · rw [List.length_append, List.length_append, List.length_replicate]; simp; omega
set_option maxHeartbeats 8000000 in
set_option maxRecDepth 100000 in
theorem textW_num (w : World) (b r : Nat) (hb : b < 18446744073709551616) (hr : r = b % 9223372036854775808) (h0 : 0 < r) (hi : r < 9218868437227405312) (htab : Lib.TabIs Tryd.prog w "internal/strconv.uint64pow10" .u64 Lib.pow10Tab) :
    Calls Tryd.prog 10 #[.int .u64 (b : Int)] w fun e w' => (∃ R : ByteArray, e = .returned (.string R) ∧ TextIs b R.data.toList) ∧ Below w.heap.size w w' := by
  obtain ⟨e1, e2, e3⟩ := parts_sign b r hb hr h0 hi
  have KS := hide (short_any w b r hb hr h0 hi htab)
  have mp : 0 < mant r := by unfold mant; split <;> omega
  have TI : ∀ (G R : ByteArray) (d j : Nat) (ten : Int), SgOf b G → d % 10 ≠ 0 → -1080 ≤ ten → Best r j (d * 10 ^ (ten + 1080).toNat) → R.data.toList = layL (decs d) (((decs d).length : Int) + ten) → TextIs b (G ++ R).data.toList := fun G R d j ten hG hd ht hB hR => by
    obtain ⟨g1, _⟩ := sgOf_list hG
    refine .inr (.inr (.inr ⟨e3, by rw [e1]; omega, d, j, ten, hd, ht, by rw [← hr]; exact hB, ?_⟩))
    rw [cat_list, g1, hR]
  have kp := partsW_any w b hb
  rw [e1, e2, e3] at kp
  have an := and_top b hb
  have HI := hide (And.intro h0 hi)
  have HTI := hide TI
  have HT := hide htab
  obtain ⟨m, hm⟩ : ∃ m, m = mant r := ⟨_, rfl⟩
  obtain ⟨ex, hex⟩ : ∃ ex : Int, ex = ((r / 4503599627370496 - 1 : Nat) : Int) - 1074 := ⟨_, rfl⟩
  rw [← hm, ← hex] at kp
  rw [← hm] at mp
  have m0 : ((m : Int) == 0) = false := beq_false_of_ne (by omega)
  have KP := hide kp
  obtain ⟨G, hG, hsg⟩ : ∃ G, SgOf b G ∧ ((Go.bits .and .u64 (b : Int) 9223372036854775808 = 9223372036854775808 ∧ G = ⟨#[45]⟩) ∨ (Go.bits .and .u64 (b : Int) 9223372036854775808 = 0 ∧ G = ⟨#[]⟩)) := by
    by_cases sg : 9223372036854775808 ≤ b
    · rw [if_pos sg] at an
      exact ⟨_, .inl ⟨sg, rfl⟩, .inl ⟨an, rfl⟩⟩
    · rw [if_neg sg] at an
      exact ⟨_, .inr ⟨by omega, rfl⟩, .inr ⟨an, rfl⟩⟩
  have HG := hide hG
  clear kp TI e1 e2 e3 hr h0 hi htab hm hex an hG
  rcases hsg with ⟨an, rfl⟩ | ⟨an, rfl⟩
  all_goals
    go_enter Tryd.func10, Tryd.ntmps10
    go_wp2_with fail
    refine (unhide KP).mono ?_
    rintro _ w1 ⟨rfl, e1⟩
    rw [e1]
    clear KP e1
    go_wp2_with fail
    refine (unhide KS).mono ?_
    rintro _ w2 ⟨⟨d, ten, rfl, hd10, hd64, t1, t2, j, hB⟩, b2⟩
    have h17 := best_17 (unhide HI).1 hB rfl hd10
    have L17 : (decs d).length ≤ 17 := decs_length_le h17 (by decide)
    have L1 : 0 < (decs d).length := List.length_pos_iff.2 (decs_form d).1
    rw [decDigits_decs]
    obtain ⟨S, hS⟩ : ∃ S : ByteArray, S = ⟨(decs d).toArray⟩ := ⟨_, rfl⟩
    have hSs : S.size = (decs d).length := by rw [hS, bytes_len]
    have hSl : S.data.toList = decs d := by rw [hS]
    rw [← hS]
    obtain ⟨p, hp⟩ : ∃ p : Int, p = (S.size : Int) + ten := ⟨_, rfl⟩
    have y : IntKind.i64.wrap ((S.size : Int) + ten) = p := by rw [hp, i64_keep _ (by omega) (by omega)]
    have KL := hide (layOut_any w2 S p (by omega) (by omega) (by omega) (by omega) (tab_below (unhide HT) b2))
    have HTT := hide (fun (R : ByteArray) (hR : R.data.toList = layL S.data.toList p) => unhide HTI _ R d j ten (unhide HG) hd10 (by omega) hB (by rw [hR, hSl, hp, hSs]))
    have B2 := hide b2
    have SB : Hid (S.size ≤ 100 ∧ -10000 ≤ p ∧ p ≤ 10000) := hide ⟨by omega, by omega, by omega⟩
    clear KS hB b2 hS hSs hSl hp HTI HG HI HT h17 L17 L1
    go_wp2_with fail
    refine (unhide KL).mono ?_
    rintro _ w3 ⟨⟨R, rfl, hR⟩, b3⟩
    have HTX := hide (unhide HTT R hR)
    have B3 := hide ((unhide B2).trans (b3.mono (unhide B2).size))
    have Rs : R.size ≤ 500 := by
      have h := lay_len (D := S.data.toList) (p := p) (by rw [blen_list]; exact (unhide SB).1) (unhide SB).2.1 (unhide SB).2.2
      rw [← hR, blen_list] at h
      exact h
    have d0 : (⟨#[45]⟩ : ByteArray).size = 1 := rfl
    have d00 : (⟨#[]⟩ : ByteArray).size = 0 := rfl
    have c1 := cat_run ⟨#[45]⟩ R (by omega)
    have c2 := cat_run ⟨#[]⟩ R (by omega)
    clear KL hR b3 HTT B2 d0 d00 SB
    generalize (⟨#[45]⟩ : ByteArray) ++ R = A1 at *
    generalize (⟨#[]⟩ : ByteArray) ++ R = A2 at *
    go_wp2
    go_ret
    exact ⟨⟨_, rfl, unhide HTX⟩, unhide B3⟩
theorem kind_cases (b : Nat) (hb : b < 18446744073709551616) : (∃ kd : Nat, (fparts b).2.2 = (kd : Int) ∧ (kd = 2 ∨ kd = 1 ∨ (kd = 0 ∧ (fparts b).1 = 0))) ∨ (0 < b % 9223372036854775808 ∧ b % 9223372036854775808 < 9218868437227405312) := by
  by_cases h : b % 9223372036854775808 = 0 ∨ 9218868437227405312 ≤ b % 9223372036854775808
  · left
    rcases back_none_plain rfl hb h with e | e | ⟨e1, e2⟩
    · exact ⟨1, e, .inr (.inl rfl)⟩
    · exact ⟨2, e, .inl rfl⟩
    · exact ⟨0, e1, .inr (.inr ⟨rfl, e2⟩)⟩
  · right; omega
theorem textW_any (w : World) (b : Nat) (hb : b < 18446744073709551616) (htab : Lib.TabIs Tryd.prog w "internal/strconv.uint64pow10" .u64 Lib.pow10Tab) :
    Calls Tryd.prog 10 #[.int .u64 (b : Int)] w fun e w' => (∃ R : ByteArray, e = .returned (.string R) ∧ TextIs b R.data.toList) ∧ Below w.heap.size w w' := by
  rcases kind_cases b hb with ⟨kd, h1, h2⟩ | ⟨h1, h2⟩
  · exact textW_plain w b kd hb h1 h2
  · exact textW_num w b _ hb rfl h1 h2 htab
end Go.Proofs.YtobbbhmkcmbekaaDoor.bigs
/- The document's FloatText. -/
set_option linter.unusedVariables false
namespace Go.Proofs.YtobbbhmkcmbekaaDoor.bigs
open Go.RowKit Go.Sort
theorem best_ten {r j d t : Nat} (hi : r < 9218868437227405312) (h : Best r j (d * 10 ^ t)) (hd : d ≠ 0) : t ≤ 4001 := by
  obtain ⟨h1, h2, _⟩ := h
  have hX := len_X r hi
  have hlt := dec_lt (decs_form (fX r)).2.1
  rw [dec_decs] at hlt
  obtain ⟨K, hK⟩ : ∃ K, K = (decs (fX r)).length := ⟨_, rfl⟩
  rw [← hK] at hX hlt
  have hu : d * 10 ^ t ≤ fX r + 10 ^ j := by
    have u1 := lowOf_le (fX r) j
    have u2 : upOf (fX r) j ≤ fX r + 10 ^ j := by
      unfold upOf
      split
      · exact Nat.le_trans u1 (Nat.le_add_right _ _)
      · exact Nat.add_le_add_right u1 _
    have u3 : lowOf (fX r) j ≤ fX r + 10 ^ j := Nat.le_trans u1 (Nat.le_add_right _ _)
    unfold Pick at h2
    rcases h2 with ⟨_, _, e⟩ | ⟨_, _, e⟩ | ⟨_, _, ⟨_, e⟩ | ⟨_, e⟩⟩ <;> rw [e] <;> first | exact u2 | exact u3
  have h3 : 1 * 10 ^ t ≤ d * 10 ^ t := Nat.mul_le_mul_right _ (by omega)
  have h4 : (10 : Nat) ^ (K + 1) = 10 ^ K * 10 := Nat.pow_succ ..
  have h5 : (10 : Nat) ^ t < 10 ^ (K + 1) := by omega
  have := (Nat.pow_lt_pow_iff_right (a := 10) (by decide)).1 h5
  omega
theorem decimal_any (w : World) (x : Int) (h1 : -100000 ≤ x) (h2 : x ≤ 100000) :
    Calls Tryd.prog 22 #[.int .i64 x] w fun e w' => (∃ I : ByteArray, e = .returned (.string I) ∧ I.data.toList = Lib.itoa x) ∧ Below w.heap.size w w' := by
  by_cases c : x < 0
  · obtain ⟨n, rfl⟩ : ∃ n : Nat, x = -(n : Int) := ⟨x.natAbs, by omega⟩
    refine (decimal_down w n (by omega) (by omega)).mono ?_
    rintro e w' ⟨rfl, b⟩
    refine ⟨⟨_, rfl, ?_⟩, b⟩
    unfold Lib.itoa
    rw [if_pos c, cat_list, decDigits_decs, show (-(n : Int)).natAbs = n by omega]
    rfl
  · obtain ⟨n, rfl⟩ : ∃ n : Nat, x = (n : Int) := ⟨x.toNat, by omega⟩
    refine (decimal_up w n (by omega)).mono ?_
    rintro e w' ⟨rfl, b⟩
    refine ⟨⟨_, rfl, ?_⟩, b⟩
    unfold Lib.itoa
    rw [if_neg c, decDigits_decs, Int.toNat_natCast]
theorem quo_top (b : Nat) (hb : b < 18446744073709551616) (s : Int) (hs : (9223372036854775808 ≤ b ∧ s = 1) ∨ (b < 9223372036854775808 ∧ s = 0)) : IntKind.u64.wrap ((b : Int).tdiv 9223372036854775808) = s ∧ IntKind.u64.wrap ((b : Int) / 9223372036854775808) = s ∧ (b : Int) / 9223372036854775808 = s := by
  have e : (b : Int) / 9223372036854775808 = s := by omega
  have e2 : (b : Int).tdiv 9223372036854775808 = s := by rw [Int.tdiv_eq_ediv_of_nonneg (by omega), e]
  have e3 : IntKind.u64.wrap s = s := by
    simp [IntKind.wrap, IntKind.bits, IntKind.signed]
    omega
  rw [e2, e, e3]
  exact ⟨rfl, rfl, rfl⟩
set_option maxHeartbeats 8000000 in
set_option maxRecDepth 100000 in
theorem refT_plain (w : World) (b kd : Nat) (hb : b < 18446744073709551616) (hk : (fparts b).2.2 = (kd : Int)) (hkd : (kd = 2) ∨ (kd = 1) ∨ (kd = 0 ∧ (fparts b).1 = 0)) :
    Calls Tryd.prog 11 #[.int .u64 (b : Int)] w fun e w' => (∃ R : ByteArray, e = .returned (.string R) ∧ TextIs b R.data.toList) ∧ Below w.heap.size w w' := by
  have kp := parts_any w b hb
  have TI : ∀ (G : ByteArray), SgOf b G → (kd = 2 → Hid (TextIs b [110, 97, 110])) ∧ (kd = 1 → Hid (TextIs b (G ++ ⟨#[105, 110, 102]⟩).data.toList)) ∧ (kd = 0 → (fparts b).1 = 0 → Hid (TextIs b (G ++ ⟨#[48, 46, 48]⟩).data.toList)) := fun G hG => by
    obtain ⟨g1, _⟩ := sgOf_list hG
    refine ⟨fun h => hide (.inl ⟨by rw [hk, h]; rfl, rfl⟩), fun h => hide (.inr (.inl ⟨by rw [hk, h]; rfl, by rw [cat_list, g1]⟩)), fun h h2 => hide (.inr (.inr (.inl ⟨by rw [hk, h]; rfl, h2, by rw [cat_list, g1]⟩)))⟩
  rw [hk] at kp
  generalize (fparts b).2.1 = ex at *
  generalize (fparts b).1 = mt at *
  have KP := hide kp
  clear kp hk
  obtain ⟨G, s, hG, hsg, hq⟩ : ∃ (G : ByteArray) (s : Int), SgOf b G ∧ ((s = 1 ∧ G = ⟨#[45]⟩) ∨ (s = 0 ∧ G = ⟨#[]⟩)) ∧ (IntKind.u64.wrap ((b : Int).tdiv 9223372036854775808) = s ∧ IntKind.u64.wrap ((b : Int) / 9223372036854775808) = s ∧ (b : Int) / 9223372036854775808 = s) := by
    by_cases sg : 9223372036854775808 ≤ b
    · exact ⟨_, 1, .inl ⟨sg, rfl⟩, .inl ⟨rfl, rfl⟩, quo_top b hb 1 (.inl ⟨sg, rfl⟩)⟩
    · exact ⟨_, 0, .inr ⟨by omega, rfl⟩, .inr ⟨rfl, rfl⟩, quo_top b hb 0 (.inr ⟨by omega, rfl⟩)⟩
  obtain ⟨t2, t1, t0⟩ := TI G hG
  obtain ⟨q1, q2, q3⟩ := hq
  have Gs := (sgOf_list hG).2
  have d1 : (⟨#[105, 110, 102]⟩ : ByteArray).size = 3 := rfl
  have d2 : (⟨#[48, 46, 48]⟩ : ByteArray).size = 3 := rfl
  have c1 := cat_run G ⟨#[105, 110, 102]⟩ (by omega)
  have c2 := cat_run G ⟨#[48, 46, 48]⟩ (by omega)
  obtain ⟨A1, hA1⟩ : ∃ A1, A1 = G ++ (⟨#[105, 110, 102]⟩ : ByteArray) := ⟨_, rfl⟩
  obtain ⟨A2, hA2⟩ : ∃ A2, A2 = G ++ (⟨#[48, 46, 48]⟩ : ByteArray) := ⟨_, rfl⟩
  rw [← hA1] at c1 t1
  rw [← hA2] at c2 t0
  clear TI d1 d2 hb hG hA1 hA2 Gs
  rcases hkd with rfl | rfl | ⟨rfl, rfl⟩
  · have T := t2 rfl
    clear t2 t1 t0 c1 c2
    rcases hsg with ⟨rfl, rfl⟩ | ⟨rfl, rfl⟩
    all_goals
      go_enter Tryd.func11, Tryd.ntmps11
      go_wp2_with fail
      refine (unhide KP).mono ?_
      rintro _ w1 ⟨rfl, rfl⟩
      clear KP
      go_wp2
      go_ret
      exact ⟨⟨_, rfl, unhide T⟩, Below.refl _ _⟩
  · have T := t1 rfl
    clear t2 t1 t0 c2
    rcases hsg with ⟨rfl, rfl⟩ | ⟨rfl, rfl⟩
    all_goals
      go_enter Tryd.func11, Tryd.ntmps11
      go_wp2_with fail
      refine (unhide KP).mono ?_
      rintro _ w1 ⟨rfl, rfl⟩
      clear KP
      go_wp2
      go_ret
      exact ⟨⟨A1, rfl, unhide T⟩, Below.refl _ _⟩
  · have T := t0 rfl rfl
    clear t2 t1 t0 c1
    rcases hsg with ⟨rfl, rfl⟩ | ⟨rfl, rfl⟩
    all_goals
      go_enter Tryd.func11, Tryd.ntmps11
      go_wp2_with fail
      refine (unhide KP).mono ?_
      rintro _ w1 ⟨rfl, rfl⟩
      clear KP
      go_wp2
      go_ret
      exact ⟨⟨A2, rfl, unhide T⟩, Below.refl _ _⟩
end Go.Proofs.YtobbbhmkcmbekaaDoor.bigs
/- The document's FloatText of a number. -/
set_option linter.unusedVariables false
namespace Go.Proofs.YtobbbhmkcmbekaaDoor.bigs
open Go.RowKit Go.Sort
set_option maxHeartbeats 16000000 in
set_option maxRecDepth 100000 in
theorem refT_num_neg (w : World) (b r : Nat) (hb : b < 18446744073709551616) (hr : r = b % 9223372036854775808) (h0 : 0 < r) (hi : r < 9218868437227405312) (hG : SgOf b ⟨#[45]⟩) (hq : IntKind.u64.wrap ((b : Int).tdiv 9223372036854775808) = 1 ∧ IntKind.u64.wrap ((b : Int) / 9223372036854775808) = 1 ∧ (b : Int) / 9223372036854775808 = 1) :
    Calls Tryd.prog 11 #[.int .u64 (b : Int)] w fun e w' => (∃ R : ByteArray, e = .returned (.string R) ∧ TextIs b R.data.toList) ∧ Below w.heap.size w w' := by
  obtain ⟨e1, e2, e3⟩ := parts_sign b r hb hr h0 hi
  have KO := hide (shortOf_any w r h0 hi)
  have mp : 0 < mant r := by unfold mant; split <;> omega
  have TI : ∀ (U : List UInt8) (d j : Nat) (ten : Int), d % 10 ≠ 0 → -1080 ≤ ten → Best r j (d * 10 ^ (ten + 1080).toNat) → U = sgL b ++ layL (decs d) (((decs d).length : Int) + ten) → TextIs b U := fun U d j ten hd ht hB hU =>
    .inr (.inr (.inr ⟨e3, by rw [e1]; omega, d, j, ten, hd, ht, by rw [← hr]; exact hB, hU⟩))
  have kp := parts_any w b hb
  rw [e1, e2, e3] at kp
  have rm : (b : Int) % 9223372036854775808 = (r : Int) := by omega
  have HI := hide (And.intro h0 hi)
  have HTI := hide TI
  obtain ⟨m, hm⟩ : ∃ m, m = mant r := ⟨_, rfl⟩
  obtain ⟨ex, hex⟩ : ∃ ex : Int, ex = ((r / 4503599627370496 - 1 : Nat) : Int) - 1074 := ⟨_, rfl⟩
  rw [← hm, ← hex] at kp
  rw [← hm] at mp
  have m0 : ((m : Int) == 0) = false := beq_false_of_ne (by omega)
  have KP := hide kp
  obtain ⟨q1, q2, q3⟩ := hq
  have HG := hide (sgOf_list hG).1.symm
  have Gs : (⟨#[45]⟩ : ByteArray).size = 1 := rfl
  clear kp TI e1 e2 e3 hr h0 hi hm hex hG
  go_enter Tryd.func11, Tryd.ntmps11
  go_wp2_with fail
  refine (unhide KP).mono ?_
  rintro _ w1 ⟨rfl, e1⟩
  rw [e1]
  clear KP e1
  go_wp2_with fail
  refine (unhide KO).mono ?_
  rintro _ w2 ⟨d, ten, rfl, hd10, ⟨j, hB⟩, t1, b2⟩
  have h17 := best_17 (unhide HI).1 hB rfl hd10
  have L17 : (decs d).length ≤ 17 := decs_length_le h17 (by decide)
  have L1 : 0 < (decs d).length := List.length_pos_iff.2 (decs_form d).1
  have t2 : ten ≤ 3000 := by have := best_ten (unhide HI).2 hB (by omega); omega
  obtain ⟨S, hS⟩ : ∃ S : ByteArray, S = ⟨(decs d).toArray⟩ := ⟨_, rfl⟩
  have hSs : S.size = (decs d).length := by rw [hS, bytes_len]
  have hSl : S.data.toList = decs d := by rw [hS]
  rw [← hS]
  obtain ⟨p, hp⟩ : ∃ p : Int, p = (S.size : Int) + ten := ⟨_, rfl⟩
  have y : IntKind.i64.wrap ((S.size : Int) + ten) = p := by rw [hp, i64_keep _ (by omega) (by omega)]
  have HTT := hide (fun (U : List UInt8) (hU : U = sgL b ++ layL S.data.toList p) => unhide HTI U d j ten hd10 t1 hB (by rw [hU, hSl, hp, hSs]))
  have p1 : -2000 ≤ p := by omega
  have p2 : p ≤ 4000 := by omega
  have s1 : 0 < S.size := by omega
  have s2 : S.size ≤ 17 := by omega
  have SN := hide (blen_list S)
  have B2 := hide b2
  clear KO hB b2 hS hSs hSl hp HTI HI h17 L17 L1 t1 t2 hd10 q1 q2 q3 rm
  by_cases cB : -3 ≤ p ∧ p ≤ 0
  · obtain ⟨i1, i2⟩ := cB
    obtain ⟨n, hn⟩ : ∃ n : Nat, p = -(n : Int) := ⟨(-p).toNat, by omega⟩
    have K := hide (noughts_any w2 n (by omega))
    obtain ⟨Z, hZ⟩ : ∃ Z : ByteArray, Z = zeros n := ⟨_, rfl⟩
    have Zs : Z.size = n := by rw [hZ, zeros_size]
    rw [← hZ] at K
    have y2 : IntKind.i64.wrap (-p) = (n : Int) := by rw [i64_keep _ (by omega) (by omega)]; omega
    have d1 : (⟨#[48, 46]⟩ : ByteArray).size = 2 := rfl
    have c1 := cat_run ⟨#[45]⟩ ⟨#[48, 46]⟩ (by rw [Gs, d1]; decide)
    have c2 := cat_run (⟨#[45]⟩ ++ ⟨#[48, 46]⟩) Z (by rw [ByteArray.size_append, Gs, d1]; omega)
    have c3 := cat_run ((⟨#[45]⟩ ++ ⟨#[48, 46]⟩) ++ Z) S (by rw [ByteArray.size_append, ByteArray.size_append, Gs, d1]; omega)
    have R := hide (unhide HTT (((⟨#[45]⟩ ++ ⟨#[48, 46]⟩) ++ Z) ++ S).data.toList (by
      unfold layL
      rw [if_neg (by omega), if_pos i2, cat_list, cat_list, cat_list, unhide HG, hZ, zeros_list, show (-p).toNat = n by omega]
      simp))
    obtain ⟨A3, hA3⟩ : ∃ A3, A3 = ((⟨#[45]⟩ ++ ⟨#[48, 46]⟩) ++ Z) ++ S := ⟨_, rfl⟩
    rw [← hA3] at c3 R
    obtain ⟨A2, hA2⟩ : ∃ A2, A2 = (⟨#[45]⟩ ++ (⟨#[48, 46]⟩ : ByteArray)) ++ Z := ⟨_, rfl⟩
    rw [← hA2] at c2 c3
    obtain ⟨A1, hA1⟩ : ∃ A1, A1 = ⟨#[45]⟩ ++ (⟨#[48, 46]⟩ : ByteArray) := ⟨_, rfl⟩
    rw [← hA1] at c1 c2
    clear HTT SN hZ hn d1 hA1 hA2 hA3 HG Gs
    go_wp2_with fail
    refine (unhide K).mono ?_
    rintro _ w3 ⟨rfl, b3⟩
    have B3 := hide (below_up (unhide B2) b3)
    clear K b3 B2
    go_wp2
    go_ret
    exact ⟨⟨A3, rfl, unhide R⟩, unhide B3⟩
  · by_cases cC : 1 ≤ p ∧ p < (S.size : Int)
    · obtain ⟨i1, i2⟩ := cC
      have i3 : ¬ p ≤ 0 := by omega
      obtain ⟨n, rfl⟩ : ∃ n : Nat, p = (n : Int) := ⟨p.toNat, by omega⟩
      obtain ⟨F, hF⟩ : ∃ F : ByteArray, S.extract 0 n = F := ⟨_, rfl⟩
      obtain ⟨T, hT⟩ : ∃ T : ByteArray, S.extract n S.size = T := ⟨_, rfl⟩
      have Fs : F.size = n := by rw [← hF, cut_size _ _ _ (by omega)]; omega
      have Ts : T.size = S.size - n := by rw [← hT, cut_size _ _ _ (by omega)]
      have FL : F.data.toList = S.data.toList.take n := by rw [← hF, cut_front]
      have TL : T.data.toList = S.data.toList.drop n := by rw [← hT, cut_rear]
      have d1 : (⟨#[46]⟩ : ByteArray).size = 1 := rfl
      have c1 := cat_run ⟨#[45]⟩ F (by rw [Gs]; omega)
      have c2 := cat_run (⟨#[45]⟩ ++ F) ⟨#[46]⟩ (by rw [ByteArray.size_append, Gs]; omega)
      have c3 := cat_run ((⟨#[45]⟩ ++ F) ++ ⟨#[46]⟩) T (by rw [ByteArray.size_append, ByteArray.size_append, Gs]; omega)
      have R := hide (unhide HTT (((⟨#[45]⟩ ++ F) ++ ⟨#[46]⟩) ++ T).data.toList (by
        unfold layL
        rw [if_neg (by omega), if_neg i3, unhide SN, if_pos i2, cat_list, cat_list, cat_list, unhide HG, FL, TL, Int.toNat_natCast]
        simp))
      have q0 : (0 : Int) ≤ (n : Int) := by omega
      have q1 : (n : Int) ≤ (S.size : Int) := by omega
      obtain ⟨A3, hA3⟩ : ∃ A3, A3 = ((⟨#[45]⟩ ++ F) ++ ⟨#[46]⟩) ++ T := ⟨_, rfl⟩
      rw [← hA3] at c3 R
      obtain ⟨A2, hA2⟩ : ∃ A2, A2 = (⟨#[45]⟩ ++ F) ++ (⟨#[46]⟩ : ByteArray) := ⟨_, rfl⟩
      rw [← hA2] at c2 c3
      obtain ⟨A1, hA1⟩ : ∃ A1, A1 = ⟨#[45]⟩ ++ F := ⟨_, rfl⟩
      rw [← hA1] at c1 c2
      clear HTT SN d1 hA1 hA2 hA3 HG Gs cB FL TL Fs Ts
      go_wp2_with fail
      go_quiet (fail)
      go_wp2
      go_ret
      exact ⟨⟨A3, rfl, unhide R⟩, below_drewN (unhide B2) _⟩
    · by_cases cD : (S.size : Int) ≤ p ∧ p ≤ 17
      · obtain ⟨i1, i2⟩ := cD
        have i3 : ¬ p ≤ 0 := by omega
        have i4 : ¬ p < (S.size : Int) := by omega
        obtain ⟨n, hn⟩ : ∃ n : Nat, p - (S.size : Int) = (n : Int) := ⟨(p - (S.size : Int)).toNat, by omega⟩
        have K := hide (noughts_any w2 n (by omega))
        obtain ⟨Z, hZ⟩ : ∃ Z : ByteArray, Z = zeros n := ⟨_, rfl⟩
        have Zs : Z.size = n := by rw [hZ, zeros_size]
        rw [← hZ] at K
        have y2 : IntKind.i64.wrap (p - (S.size : Int)) = (n : Int) := by rw [i64_keep _ (by omega) (by omega)]; omega
        have d1 : (⟨#[46, 48]⟩ : ByteArray).size = 2 := rfl
        have c1 := cat_run ⟨#[45]⟩ S (by rw [Gs]; omega)
        have c2 := cat_run (⟨#[45]⟩ ++ S) Z (by rw [ByteArray.size_append, Gs]; omega)
        have c3 := cat_run ((⟨#[45]⟩ ++ S) ++ Z) ⟨#[46, 48]⟩ (by rw [ByteArray.size_append, ByteArray.size_append, Gs, d1]; omega)
        have R := hide (unhide HTT (((⟨#[45]⟩ ++ S) ++ Z) ++ ⟨#[46, 48]⟩).data.toList (by
          unfold layL
          rw [if_neg (by omega), if_neg i3, unhide SN, if_neg i4, cat_list, cat_list, cat_list, unhide HG, hZ, zeros_list, hn, Int.toNat_natCast]
          simp))
        obtain ⟨A3, hA3⟩ : ∃ A3, A3 = ((⟨#[45]⟩ ++ S) ++ Z) ++ ⟨#[46, 48]⟩ := ⟨_, rfl⟩
        rw [← hA3] at c3 R
        obtain ⟨A2, hA2⟩ : ∃ A2, A2 = (⟨#[45]⟩ ++ S) ++ Z := ⟨_, rfl⟩
        rw [← hA2] at c2 c3
        obtain ⟨A1, hA1⟩ : ∃ A1, A1 = ⟨#[45]⟩ ++ S := ⟨_, rfl⟩
        rw [← hA1] at c1 c2
        have j1 : (1 : Int) ≤ p := by omega
        clear HTT SN hZ hn d1 hA1 hA2 hA3 HG Gs cB cC
        go_wp2_with fail
        refine (unhide K).mono ?_
        rintro _ w3 ⟨rfl, b3⟩
        have B3 := hide (below_up (unhide B2) b3)
        clear K b3 B2
        go_wp2
        go_ret
        exact ⟨⟨A3, rfl, unhide R⟩, unhide B3⟩
      · have far : p < -3 ∨ 17 < p := by omega
        obtain ⟨x, hx⟩ : ∃ x : Int, x = p - 1 := ⟨_, rfl⟩
        have y2 : IntKind.i64.wrap (p - 1) = x := by rw [hx, i64_keep _ (by omega) (by omega)]
        have K := hide (decimal_any w2 x (by omega) (by omega))
        have il := itoa_len x (by omega) (by omega)
        obtain ⟨F, hF⟩ : ∃ F : ByteArray, S.extract 0 1 = F := ⟨_, rfl⟩
        obtain ⟨T, hT⟩ : ∃ T : ByteArray, S.extract 1 S.size = T := ⟨_, rfl⟩
        have Fs : F.size = 1 := by rw [← hF, cut_size _ _ _ (by omega)]
        have Ts : T.size = S.size - 1 := by rw [← hT, cut_size _ _ _ (by omega)]
        have FL : F.data.toList = S.data.toList.take 1 := by rw [← hF, cut_front]
        have TL : T.data.toList = S.data.toList.drop 1 := by rw [← hT, cut_rear]
        have q0 : (1 : Int) ≤ (S.size : Int) := by omega
        have d1 : (⟨#[46]⟩ : ByteArray).size = 1 := rfl
        have d2 : (⟨#[101]⟩ : ByteArray).size = 1 := rfl
        have c1 := cat_run ⟨#[45]⟩ F (by rw [Gs]; omega)
        have c2 := cat_run ⟨#[46]⟩ T (by omega)
        have c3 := cat_run (⟨#[45]⟩ ++ F) (⟨#[46]⟩ ++ T) (by rw [ByteArray.size_append, ByteArray.size_append, Gs]; omega)
        have c4 := cat_run ((⟨#[45]⟩ ++ F) ++ (⟨#[46]⟩ ++ T)) ⟨#[101]⟩ (by rw [ByteArray.size_append, ByteArray.size_append, ByteArray.size_append, Gs]; omega)
        have c5 : ∀ I : ByteArray, I.size ≤ 10 → ∀ u : World, _ := fun I hI => cat_run (((⟨#[45]⟩ ++ F) ++ (⟨#[46]⟩ ++ T)) ++ ⟨#[101]⟩) I (by rw [ByteArray.size_append, ByteArray.size_append, ByteArray.size_append, ByteArray.size_append, Gs]; omega)
        have c6 := cat_run (⟨#[45]⟩ ++ F) ⟨#[101]⟩ (by rw [ByteArray.size_append, Gs]; omega)
        have c7 : ∀ I : ByteArray, I.size ≤ 10 → ∀ u : World, _ := fun I hI => cat_run ((⟨#[45]⟩ ++ F) ++ ⟨#[101]⟩) I (by rw [ByteArray.size_append, ByteArray.size_append, Gs]; omega)
        have R1 : Hid (∀ I : ByteArray, I.data.toList = Lib.itoa x → S.size ≠ 1 → TextIs b ((((⟨#[45]⟩ ++ F) ++ (⟨#[46]⟩ ++ T)) ++ ⟨#[101]⟩) ++ I).data.toList) := hide (fun I hI hn => unhide HTT _ (by
          have hne : S.data.toList.drop 1 ≠ [] := fun e => by
            have := congrArg List.length e
            rw [List.length_drop, unhide SN] at this
            simp at this
            omega
          unfold layL expL
          rw [if_pos far, if_neg hne, cat_list, cat_list, cat_list, cat_list, cat_list, unhide HG, hI, FL, TL, ← hx]
          simp))
        have R2 : Hid (∀ I : ByteArray, I.data.toList = Lib.itoa x → S.size = 1 → TextIs b (((⟨#[45]⟩ ++ F) ++ ⟨#[101]⟩) ++ I).data.toList) := hide (fun I hI hn => unhide HTT _ (by
          have he : S.data.toList.drop 1 = [] := List.eq_nil_of_length_eq_zero (by rw [List.length_drop, unhide SN]; omega)
          unfold layL expL
          rw [if_pos far, if_pos he, cat_list, cat_list, cat_list, unhide HG, hI, FL, ← hx]
          simp))
        obtain ⟨A4, hA4⟩ : ∃ A4, A4 = ((⟨#[45]⟩ ++ F) ++ (⟨#[46]⟩ ++ T)) ++ (⟨#[101]⟩ : ByteArray) := ⟨_, rfl⟩
        rw [← hA4] at c4 c5 R1
        obtain ⟨A6, hA6⟩ : ∃ A6, A6 = (⟨#[45]⟩ ++ F) ++ (⟨#[101]⟩ : ByteArray) := ⟨_, rfl⟩
        rw [← hA6] at c6 c7 R2
        obtain ⟨A3, hA3⟩ : ∃ A3, A3 = (⟨#[45]⟩ ++ F) ++ ((⟨#[46]⟩ : ByteArray) ++ T) := ⟨_, rfl⟩
        rw [← hA3] at c3 c4
        obtain ⟨A2, hA2⟩ : ∃ A2, A2 = (⟨#[46]⟩ : ByteArray) ++ T := ⟨_, rfl⟩
        rw [← hA2] at c2 c3
        obtain ⟨A1, hA1⟩ : ∃ A1, A1 = ⟨#[45]⟩ ++ F := ⟨_, rfl⟩
        rw [← hA1] at c1 c3 c6
        have HIL := hide il
        have C5 := hide c5
        have C7 := hide c7
        clear HTT SN d1 d2 hA1 hA2 hA3 hA4 hA6 HG Gs FL TL Fs Ts il c5 c7 hx
        by_cases one : S.size = 1
        · have i1 : ¬ (S.size : Int) > 1 := by omega
          rcases far with f | f
          · have g1 : ¬ -3 ≤ p := by omega
            have g2 : ¬ (1 : Int) ≤ p := by omega
            have g3 : ¬ (S.size : Int) ≤ p := by omega
            have OO := hide one
            clear one cB cC cD f
            go_wp2_with fail
            refine (unhide K).mono ?_
            rintro _ w3 ⟨⟨I, rfl, hI⟩, b3⟩
            have I10 : I.size ≤ 10 := by rw [← blen_list, hI]; exact unhide HIL
            have c8 := unhide C7 I I10
            have R := hide (unhide R2 I hI (unhide OO))
            have B3 := hide (below_up (unhide B2) b3)
            obtain ⟨A9, hA9⟩ : ∃ A9, A9 = A6 ++ I := ⟨_, rfl⟩
            rw [← hA9] at c8 R
            clear K b3 B2 R1 R2 C5 C7 hI hA9 I10 OO HIL
            go_wp2
            go_ret
            exact ⟨⟨A9, rfl, unhide R⟩, unhide B3⟩
          · have g0 : -3 ≤ p := by omega
            have g1 : ¬ p ≤ 0 := by omega
            have g2 : (1 : Int) ≤ p := by omega
            have g3 : (S.size : Int) ≤ p := by omega
            have g4 : ¬ p < (S.size : Int) := by omega
            have g5 : ¬ p ≤ 17 := by omega
            have OO := hide one
            clear one cB cC cD f
            go_wp2_with fail
            refine (unhide K).mono ?_
            rintro _ w3 ⟨⟨I, rfl, hI⟩, b3⟩
            have I10 : I.size ≤ 10 := by rw [← blen_list, hI]; exact unhide HIL
            have c8 := unhide C7 I I10
            have R := hide (unhide R2 I hI (unhide OO))
            have B3 := hide (below_up (unhide B2) b3)
            obtain ⟨A9, hA9⟩ : ∃ A9, A9 = A6 ++ I := ⟨_, rfl⟩
            rw [← hA9] at c8 R
            clear K b3 B2 R1 R2 C5 C7 hI hA9 I10 OO HIL
            go_wp2
            go_ret
            exact ⟨⟨A9, rfl, unhide R⟩, unhide B3⟩
        · have i1 : (S.size : Int) > 1 := by omega
          rcases far with f | f
          · have g1 : ¬ -3 ≤ p := by omega
            have g2 : ¬ (1 : Int) ≤ p := by omega
            have g3 : ¬ (S.size : Int) ≤ p := by omega
            have OO := hide one
            clear one cB cC cD f
            go_wp2_with fail
            refine (unhide K).mono ?_
            rintro _ w3 ⟨⟨I, rfl, hI⟩, b3⟩
            have I10 : I.size ≤ 10 := by rw [← blen_list, hI]; exact unhide HIL
            have c8 := unhide C5 I I10
            have R := hide (unhide R1 I hI (unhide OO))
            have B3 := hide (below_up (unhide B2) b3)
            obtain ⟨A9, hA9⟩ : ∃ A9, A9 = A4 ++ I := ⟨_, rfl⟩
            rw [← hA9] at c8 R
            clear K b3 B2 R1 R2 C5 C7 hI hA9 I10 OO HIL
            go_wp2
            go_ret
            exact ⟨⟨A9, rfl, unhide R⟩, unhide B3⟩
          · have g0 : -3 ≤ p := by omega
            have g1 : ¬ p ≤ 0 := by omega
            have g2 : (1 : Int) ≤ p := by omega
            have g3 : (S.size : Int) ≤ p := by omega
            have g4 : ¬ p < (S.size : Int) := by omega
            have g5 : ¬ p ≤ 17 := by omega
            have OO := hide one
            clear one cB cC cD f
            go_wp2_with fail
            refine (unhide K).mono ?_
            rintro _ w3 ⟨⟨I, rfl, hI⟩, b3⟩
            have I10 : I.size ≤ 10 := by rw [← blen_list, hI]; exact unhide HIL
            have c8 := unhide C5 I I10
            have R := hide (unhide R1 I hI (unhide OO))
            have B3 := hide (below_up (unhide B2) b3)
            obtain ⟨A9, hA9⟩ : ∃ A9, A9 = A4 ++ I := ⟨_, rfl⟩
            rw [← hA9] at c8 R
            clear K b3 B2 R1 R2 C5 C7 hI hA9 I10 OO HIL
            go_wp2
            go_ret
            exact ⟨⟨A9, rfl, unhide R⟩, unhide B3⟩
set_option maxHeartbeats 16000000 in
set_option maxRecDepth 100000 in
theorem refT_num_pos (w : World) (b r : Nat) (hb : b < 18446744073709551616) (hr : r = b % 9223372036854775808) (h0 : 0 < r) (hi : r < 9218868437227405312) (hG : SgOf b ⟨#[]⟩) (hq : IntKind.u64.wrap ((b : Int).tdiv 9223372036854775808) = 0 ∧ IntKind.u64.wrap ((b : Int) / 9223372036854775808) = 0 ∧ (b : Int) / 9223372036854775808 = 0) :
    Calls Tryd.prog 11 #[.int .u64 (b : Int)] w fun e w' => (∃ R : ByteArray, e = .returned (.string R) ∧ TextIs b R.data.toList) ∧ Below w.heap.size w w' := by
  obtain ⟨e1, e2, e3⟩ := parts_sign b r hb hr h0 hi
  have KO := hide (shortOf_any w r h0 hi)
  have mp : 0 < mant r := by unfold mant; split <;> omega
  have TI : ∀ (U : List UInt8) (d j : Nat) (ten : Int), d % 10 ≠ 0 → -1080 ≤ ten → Best r j (d * 10 ^ (ten + 1080).toNat) → U = sgL b ++ layL (decs d) (((decs d).length : Int) + ten) → TextIs b U := fun U d j ten hd ht hB hU =>
    .inr (.inr (.inr ⟨e3, by rw [e1]; omega, d, j, ten, hd, ht, by rw [← hr]; exact hB, hU⟩))
  have kp := parts_any w b hb
  rw [e1, e2, e3] at kp
  have rm : (b : Int) % 9223372036854775808 = (r : Int) := by omega
  have HI := hide (And.intro h0 hi)
  have HTI := hide TI
  obtain ⟨m, hm⟩ : ∃ m, m = mant r := ⟨_, rfl⟩
  obtain ⟨ex, hex⟩ : ∃ ex : Int, ex = ((r / 4503599627370496 - 1 : Nat) : Int) - 1074 := ⟨_, rfl⟩
  rw [← hm, ← hex] at kp
  rw [← hm] at mp
  have m0 : ((m : Int) == 0) = false := beq_false_of_ne (by omega)
  have KP := hide kp
  obtain ⟨q1, q2, q3⟩ := hq
  have HG := hide (sgOf_list hG).1.symm
  have Gs : (⟨#[]⟩ : ByteArray).size = 0 := rfl
  clear kp TI e1 e2 e3 hr h0 hi hm hex hG
  go_enter Tryd.func11, Tryd.ntmps11
  go_wp2_with fail
  refine (unhide KP).mono ?_
  rintro _ w1 ⟨rfl, e1⟩
  rw [e1]
  clear KP e1
  go_wp2_with fail
  refine (unhide KO).mono ?_
  rintro _ w2 ⟨d, ten, rfl, hd10, ⟨j, hB⟩, t1, b2⟩
  have h17 := best_17 (unhide HI).1 hB rfl hd10
  have L17 : (decs d).length ≤ 17 := decs_length_le h17 (by decide)
  have L1 : 0 < (decs d).length := List.length_pos_iff.2 (decs_form d).1
  have t2 : ten ≤ 3000 := by have := best_ten (unhide HI).2 hB (by omega); omega
  obtain ⟨S, hS⟩ : ∃ S : ByteArray, S = ⟨(decs d).toArray⟩ := ⟨_, rfl⟩
  have hSs : S.size = (decs d).length := by rw [hS, bytes_len]
  have hSl : S.data.toList = decs d := by rw [hS]
  rw [← hS]
  obtain ⟨p, hp⟩ : ∃ p : Int, p = (S.size : Int) + ten := ⟨_, rfl⟩
  have y : IntKind.i64.wrap ((S.size : Int) + ten) = p := by rw [hp, i64_keep _ (by omega) (by omega)]
  have HTT := hide (fun (U : List UInt8) (hU : U = sgL b ++ layL S.data.toList p) => unhide HTI U d j ten hd10 t1 hB (by rw [hU, hSl, hp, hSs]))
  have p1 : -2000 ≤ p := by omega
  have p2 : p ≤ 4000 := by omega
  have s1 : 0 < S.size := by omega
  have s2 : S.size ≤ 17 := by omega
  have SN := hide (blen_list S)
  have B2 := hide b2
  clear KO hB b2 hS hSs hSl hp HTI HI h17 L17 L1 t1 t2 hd10 q1 q2 q3 rm
  by_cases cB : -3 ≤ p ∧ p ≤ 0
  · obtain ⟨i1, i2⟩ := cB
    obtain ⟨n, hn⟩ : ∃ n : Nat, p = -(n : Int) := ⟨(-p).toNat, by omega⟩
    have K := hide (noughts_any w2 n (by omega))
    obtain ⟨Z, hZ⟩ : ∃ Z : ByteArray, Z = zeros n := ⟨_, rfl⟩
    have Zs : Z.size = n := by rw [hZ, zeros_size]
    rw [← hZ] at K
    have y2 : IntKind.i64.wrap (-p) = (n : Int) := by rw [i64_keep _ (by omega) (by omega)]; omega
    have d1 : (⟨#[48, 46]⟩ : ByteArray).size = 2 := rfl
    have c1 := cat_run ⟨#[]⟩ ⟨#[48, 46]⟩ (by rw [Gs, d1]; decide)
    have c2 := cat_run (⟨#[]⟩ ++ ⟨#[48, 46]⟩) Z (by rw [ByteArray.size_append, Gs, d1]; omega)
    have c3 := cat_run ((⟨#[]⟩ ++ ⟨#[48, 46]⟩) ++ Z) S (by rw [ByteArray.size_append, ByteArray.size_append, Gs, d1]; omega)
    have R := hide (unhide HTT (((⟨#[]⟩ ++ ⟨#[48, 46]⟩) ++ Z) ++ S).data.toList (by
      unfold layL
      rw [if_neg (by omega), if_pos i2, cat_list, cat_list, cat_list, unhide HG, hZ, zeros_list, show (-p).toNat = n by omega]
      simp))
    obtain ⟨A3, hA3⟩ : ∃ A3, A3 = ((⟨#[]⟩ ++ ⟨#[48, 46]⟩) ++ Z) ++ S := ⟨_, rfl⟩
    rw [← hA3] at c3 R
    obtain ⟨A2, hA2⟩ : ∃ A2, A2 = (⟨#[]⟩ ++ (⟨#[48, 46]⟩ : ByteArray)) ++ Z := ⟨_, rfl⟩
    rw [← hA2] at c2 c3
    obtain ⟨A1, hA1⟩ : ∃ A1, A1 = ⟨#[]⟩ ++ (⟨#[48, 46]⟩ : ByteArray) := ⟨_, rfl⟩
    rw [← hA1] at c1 c2
    clear HTT SN hZ hn d1 hA1 hA2 hA3 HG Gs
    go_wp2_with fail
    refine (unhide K).mono ?_
    rintro _ w3 ⟨rfl, b3⟩
    have B3 := hide (below_up (unhide B2) b3)
    clear K b3 B2
    go_wp2
    go_ret
    exact ⟨⟨A3, rfl, unhide R⟩, unhide B3⟩
  · by_cases cC : 1 ≤ p ∧ p < (S.size : Int)
    · obtain ⟨i1, i2⟩ := cC
      have i3 : ¬ p ≤ 0 := by omega
      obtain ⟨n, rfl⟩ : ∃ n : Nat, p = (n : Int) := ⟨p.toNat, by omega⟩
      obtain ⟨F, hF⟩ : ∃ F : ByteArray, S.extract 0 n = F := ⟨_, rfl⟩
      obtain ⟨T, hT⟩ : ∃ T : ByteArray, S.extract n S.size = T := ⟨_, rfl⟩
      have Fs : F.size = n := by rw [← hF, cut_size _ _ _ (by omega)]; omega
      have Ts : T.size = S.size - n := by rw [← hT, cut_size _ _ _ (by omega)]
      have FL : F.data.toList = S.data.toList.take n := by rw [← hF, cut_front]
      have TL : T.data.toList = S.data.toList.drop n := by rw [← hT, cut_rear]
      have d1 : (⟨#[46]⟩ : ByteArray).size = 1 := rfl
      have c1 := cat_run ⟨#[]⟩ F (by rw [Gs]; omega)
      have c2 := cat_run (⟨#[]⟩ ++ F) ⟨#[46]⟩ (by rw [ByteArray.size_append, Gs]; omega)
      have c3 := cat_run ((⟨#[]⟩ ++ F) ++ ⟨#[46]⟩) T (by rw [ByteArray.size_append, ByteArray.size_append, Gs]; omega)
      have R := hide (unhide HTT (((⟨#[]⟩ ++ F) ++ ⟨#[46]⟩) ++ T).data.toList (by
        unfold layL
        rw [if_neg (by omega), if_neg i3, unhide SN, if_pos i2, cat_list, cat_list, cat_list, unhide HG, FL, TL, Int.toNat_natCast]
        simp))
      have q0 : (0 : Int) ≤ (n : Int) := by omega
      have q1 : (n : Int) ≤ (S.size : Int) := by omega
      obtain ⟨A3, hA3⟩ : ∃ A3, A3 = ((⟨#[]⟩ ++ F) ++ ⟨#[46]⟩) ++ T := ⟨_, rfl⟩
      rw [← hA3] at c3 R
      obtain ⟨A2, hA2⟩ : ∃ A2, A2 = (⟨#[]⟩ ++ F) ++ (⟨#[46]⟩ : ByteArray) := ⟨_, rfl⟩
      rw [← hA2] at c2 c3
      obtain ⟨A1, hA1⟩ : ∃ A1, A1 = ⟨#[]⟩ ++ F := ⟨_, rfl⟩
      rw [← hA1] at c1 c2
      clear HTT SN d1 hA1 hA2 hA3 HG Gs cB FL TL Fs Ts
      go_wp2_with fail
      go_quiet (fail)
      go_wp2
      go_ret
      exact ⟨⟨A3, rfl, unhide R⟩, below_drewN (unhide B2) _⟩
    · by_cases cD : (S.size : Int) ≤ p ∧ p ≤ 17
      · obtain ⟨i1, i2⟩ := cD
        have i3 : ¬ p ≤ 0 := by omega
        have i4 : ¬ p < (S.size : Int) := by omega
        obtain ⟨n, hn⟩ : ∃ n : Nat, p - (S.size : Int) = (n : Int) := ⟨(p - (S.size : Int)).toNat, by omega⟩
        have K := hide (noughts_any w2 n (by omega))
        obtain ⟨Z, hZ⟩ : ∃ Z : ByteArray, Z = zeros n := ⟨_, rfl⟩
        have Zs : Z.size = n := by rw [hZ, zeros_size]
        rw [← hZ] at K
        have y2 : IntKind.i64.wrap (p - (S.size : Int)) = (n : Int) := by rw [i64_keep _ (by omega) (by omega)]; omega
        have d1 : (⟨#[46, 48]⟩ : ByteArray).size = 2 := rfl
        have c1 := cat_run ⟨#[]⟩ S (by rw [Gs]; omega)
        have c2 := cat_run (⟨#[]⟩ ++ S) Z (by rw [ByteArray.size_append, Gs]; omega)
        have c3 := cat_run ((⟨#[]⟩ ++ S) ++ Z) ⟨#[46, 48]⟩ (by rw [ByteArray.size_append, ByteArray.size_append, Gs, d1]; omega)
        have R := hide (unhide HTT (((⟨#[]⟩ ++ S) ++ Z) ++ ⟨#[46, 48]⟩).data.toList (by
          unfold layL
          rw [if_neg (by omega), if_neg i3, unhide SN, if_neg i4, cat_list, cat_list, cat_list, unhide HG, hZ, zeros_list, hn, Int.toNat_natCast]
          simp))
        obtain ⟨A3, hA3⟩ : ∃ A3, A3 = ((⟨#[]⟩ ++ S) ++ Z) ++ ⟨#[46, 48]⟩ := ⟨_, rfl⟩
        rw [← hA3] at c3 R
        obtain ⟨A2, hA2⟩ : ∃ A2, A2 = (⟨#[]⟩ ++ S) ++ Z := ⟨_, rfl⟩
        rw [← hA2] at c2 c3
        obtain ⟨A1, hA1⟩ : ∃ A1, A1 = ⟨#[]⟩ ++ S := ⟨_, rfl⟩
        rw [← hA1] at c1 c2
        have j1 : (1 : Int) ≤ p := by omega
        clear HTT SN hZ hn d1 hA1 hA2 hA3 HG Gs cB cC
        go_wp2_with fail
        refine (unhide K).mono ?_
        rintro _ w3 ⟨rfl, b3⟩
        have B3 := hide (below_up (unhide B2) b3)
        clear K b3 B2
        go_wp2
        go_ret
        exact ⟨⟨A3, rfl, unhide R⟩, unhide B3⟩
      · have far : p < -3 ∨ 17 < p := by omega
        obtain ⟨x, hx⟩ : ∃ x : Int, x = p - 1 := ⟨_, rfl⟩
        have y2 : IntKind.i64.wrap (p - 1) = x := by rw [hx, i64_keep _ (by omega) (by omega)]
        have K := hide (decimal_any w2 x (by omega) (by omega))
        have il := itoa_len x (by omega) (by omega)
        obtain ⟨F, hF⟩ : ∃ F : ByteArray, S.extract 0 1 = F := ⟨_, rfl⟩
        obtain ⟨T, hT⟩ : ∃ T : ByteArray, S.extract 1 S.size = T := ⟨_, rfl⟩
        have Fs : F.size = 1 := by rw [← hF, cut_size _ _ _ (by omega)]
        have Ts : T.size = S.size - 1 := by rw [← hT, cut_size _ _ _ (by omega)]
        have FL : F.data.toList = S.data.toList.take 1 := by rw [← hF, cut_front]
        have TL : T.data.toList = S.data.toList.drop 1 := by rw [← hT, cut_rear]
        have q0 : (1 : Int) ≤ (S.size : Int) := by omega
        have d1 : (⟨#[46]⟩ : ByteArray).size = 1 := rfl
        have d2 : (⟨#[101]⟩ : ByteArray).size = 1 := rfl
        have c1 := cat_run ⟨#[]⟩ F (by rw [Gs]; omega)
        have c2 := cat_run ⟨#[46]⟩ T (by omega)
        have c3 := cat_run (⟨#[]⟩ ++ F) (⟨#[46]⟩ ++ T) (by rw [ByteArray.size_append, ByteArray.size_append, Gs]; omega)
        have c4 := cat_run ((⟨#[]⟩ ++ F) ++ (⟨#[46]⟩ ++ T)) ⟨#[101]⟩ (by rw [ByteArray.size_append, ByteArray.size_append, ByteArray.size_append, Gs]; omega)
        have c5 : ∀ I : ByteArray, I.size ≤ 10 → ∀ u : World, _ := fun I hI => cat_run (((⟨#[]⟩ ++ F) ++ (⟨#[46]⟩ ++ T)) ++ ⟨#[101]⟩) I (by rw [ByteArray.size_append, ByteArray.size_append, ByteArray.size_append, ByteArray.size_append, Gs]; omega)
        have c6 := cat_run (⟨#[]⟩ ++ F) ⟨#[101]⟩ (by rw [ByteArray.size_append, Gs]; omega)
        have c7 : ∀ I : ByteArray, I.size ≤ 10 → ∀ u : World, _ := fun I hI => cat_run ((⟨#[]⟩ ++ F) ++ ⟨#[101]⟩) I (by rw [ByteArray.size_append, ByteArray.size_append, Gs]; omega)
        have R1 : Hid (∀ I : ByteArray, I.data.toList = Lib.itoa x → S.size ≠ 1 → TextIs b ((((⟨#[]⟩ ++ F) ++ (⟨#[46]⟩ ++ T)) ++ ⟨#[101]⟩) ++ I).data.toList) := hide (fun I hI hn => unhide HTT _ (by
          have hne : S.data.toList.drop 1 ≠ [] := fun e => by
            have := congrArg List.length e
            rw [List.length_drop, unhide SN] at this
            simp at this
            omega
          unfold layL expL
          rw [if_pos far, if_neg hne, cat_list, cat_list, cat_list, cat_list, cat_list, unhide HG, hI, FL, TL, ← hx]
          simp))
        have R2 : Hid (∀ I : ByteArray, I.data.toList = Lib.itoa x → S.size = 1 → TextIs b (((⟨#[]⟩ ++ F) ++ ⟨#[101]⟩) ++ I).data.toList) := hide (fun I hI hn => unhide HTT _ (by
          have he : S.data.toList.drop 1 = [] := List.eq_nil_of_length_eq_zero (by rw [List.length_drop, unhide SN]; omega)
          unfold layL expL
          rw [if_pos far, if_pos he, cat_list, cat_list, cat_list, unhide HG, hI, FL, ← hx]
          simp))
        obtain ⟨A4, hA4⟩ : ∃ A4, A4 = ((⟨#[]⟩ ++ F) ++ (⟨#[46]⟩ ++ T)) ++ (⟨#[101]⟩ : ByteArray) := ⟨_, rfl⟩
        rw [← hA4] at c4 c5 R1
        obtain ⟨A6, hA6⟩ : ∃ A6, A6 = (⟨#[]⟩ ++ F) ++ (⟨#[101]⟩ : ByteArray) := ⟨_, rfl⟩
        rw [← hA6] at c6 c7 R2
        obtain ⟨A3, hA3⟩ : ∃ A3, A3 = (⟨#[]⟩ ++ F) ++ ((⟨#[46]⟩ : ByteArray) ++ T) := ⟨_, rfl⟩
        rw [← hA3] at c3 c4
        obtain ⟨A2, hA2⟩ : ∃ A2, A2 = (⟨#[46]⟩ : ByteArray) ++ T := ⟨_, rfl⟩
        rw [← hA2] at c2 c3
        obtain ⟨A1, hA1⟩ : ∃ A1, A1 = ⟨#[]⟩ ++ F := ⟨_, rfl⟩
        rw [← hA1] at c1 c3 c6
        have HIL := hide il
        have C5 := hide c5
        have C7 := hide c7
        clear HTT SN d1 d2 hA1 hA2 hA3 hA4 hA6 HG Gs FL TL Fs Ts il c5 c7 hx
        by_cases one : S.size = 1
        · have i1 : ¬ (S.size : Int) > 1 := by omega
          rcases far with f | f
          · have g1 : ¬ -3 ≤ p := by omega
            have g2 : ¬ (1 : Int) ≤ p := by omega
            have g3 : ¬ (S.size : Int) ≤ p := by omega
            have OO := hide one
            clear one cB cC cD f
            go_wp2_with fail
            refine (unhide K).mono ?_
            rintro _ w3 ⟨⟨I, rfl, hI⟩, b3⟩
            have I10 : I.size ≤ 10 := by rw [← blen_list, hI]; exact unhide HIL
            have c8 := unhide C7 I I10
            have R := hide (unhide R2 I hI (unhide OO))
            have B3 := hide (below_up (unhide B2) b3)
            obtain ⟨A9, hA9⟩ : ∃ A9, A9 = A6 ++ I := ⟨_, rfl⟩
            rw [← hA9] at c8 R
            clear K b3 B2 R1 R2 C5 C7 hI hA9 I10 OO HIL
            go_wp2
            go_ret
            exact ⟨⟨A9, rfl, unhide R⟩, unhide B3⟩
          · have g0 : -3 ≤ p := by omega
            have g1 : ¬ p ≤ 0 := by omega
            have g2 : (1 : Int) ≤ p := by omega
            have g3 : (S.size : Int) ≤ p := by omega
            have g4 : ¬ p < (S.size : Int) := by omega
            have g5 : ¬ p ≤ 17 := by omega
            have OO := hide one
            clear one cB cC cD f
            go_wp2_with fail
            refine (unhide K).mono ?_
            rintro _ w3 ⟨⟨I, rfl, hI⟩, b3⟩
            have I10 : I.size ≤ 10 := by rw [← blen_list, hI]; exact unhide HIL
            have c8 := unhide C7 I I10
            have R := hide (unhide R2 I hI (unhide OO))
            have B3 := hide (below_up (unhide B2) b3)
            obtain ⟨A9, hA9⟩ : ∃ A9, A9 = A6 ++ I := ⟨_, rfl⟩
            rw [← hA9] at c8 R
            clear K b3 B2 R1 R2 C5 C7 hI hA9 I10 OO HIL
            go_wp2
            go_ret
            exact ⟨⟨A9, rfl, unhide R⟩, unhide B3⟩
        · have i1 : (S.size : Int) > 1 := by omega
          rcases far with f | f
          · have g1 : ¬ -3 ≤ p := by omega
            have g2 : ¬ (1 : Int) ≤ p := by omega
            have g3 : ¬ (S.size : Int) ≤ p := by omega
            have OO := hide one
            clear one cB cC cD f
            go_wp2_with fail
            refine (unhide K).mono ?_
            rintro _ w3 ⟨⟨I, rfl, hI⟩, b3⟩
            have I10 : I.size ≤ 10 := by rw [← blen_list, hI]; exact unhide HIL
            have c8 := unhide C5 I I10
            have R := hide (unhide R1 I hI (unhide OO))
            have B3 := hide (below_up (unhide B2) b3)
            obtain ⟨A9, hA9⟩ : ∃ A9, A9 = A4 ++ I := ⟨_, rfl⟩
            rw [← hA9] at c8 R
            clear K b3 B2 R1 R2 C5 C7 hI hA9 I10 OO HIL
            go_wp2
            go_ret
            exact ⟨⟨A9, rfl, unhide R⟩, unhide B3⟩
          · have g0 : -3 ≤ p := by omega
            have g1 : ¬ p ≤ 0 := by omega
            have g2 : (1 : Int) ≤ p := by omega
            have g3 : (S.size : Int) ≤ p := by omega
            have g4 : ¬ p < (S.size : Int) := by omega
            have g5 : ¬ p ≤ 17 := by omega
            have OO := hide one
            clear one cB cC cD f
            go_wp2_with fail
            refine (unhide K).mono ?_
            rintro _ w3 ⟨⟨I, rfl, hI⟩, b3⟩
            have I10 : I.size ≤ 10 := by rw [← blen_list, hI]; exact unhide HIL
            have c8 := unhide C5 I I10
            have R := hide (unhide R1 I hI (unhide OO))
            have B3 := hide (below_up (unhide B2) b3)
            obtain ⟨A9, hA9⟩ : ∃ A9, A9 = A4 ++ I := ⟨_, rfl⟩
            rw [← hA9] at c8 R
            clear K b3 B2 R1 R2 C5 C7 hI hA9 I10 OO HIL
            go_wp2
            go_ret
            exact ⟨⟨A9, rfl, unhide R⟩, unhide B3⟩
theorem refT_any (w : World) (b : Nat) (hb : b < 18446744073709551616) :
    Calls Tryd.prog 11 #[.int .u64 (b : Int)] w fun e w' => (∃ R : ByteArray, e = .returned (.string R) ∧ TextIs b R.data.toList) ∧ Below w.heap.size w w' := by
  rcases kind_cases b hb with ⟨kd, h1, h2⟩ | ⟨h1, h2⟩
  · exact refT_plain w b kd hb h1 h2
  · by_cases sg : 9223372036854775808 ≤ b
    · exact refT_num_neg w b _ hb rfl h1 h2 (.inl ⟨sg, rfl⟩) (quo_top b hb 1 (.inl ⟨sg, rfl⟩))
    · exact refT_num_pos w b _ hb rfl h1 h2 (.inr ⟨by omega, rfl⟩) (quo_top b hb 0 (.inr ⟨by omega, rfl⟩))
end Go.Proofs.YtobbbhmkcmbekaaDoor.bigs
/- The law FloatTells. -/
set_option linter.unusedVariables false
namespace Go.Proofs.YtobbbhmkcmbekaaDoor.bigs
open Go.RowKit Go.Sort
set_option maxHeartbeats 8000000 in
set_option maxRecDepth 100000 in
theorem lawTellsF (w : World) (b : Nat) (hb : b < 18446744073709551616) (htab : Lib.TabIs Tryd.prog w "internal/strconv.uint64pow10" .u64 Lib.pow10Tab) :
    Calls Tryd.prog 3 #[.int .u64 (b : Int)] w fun e w' => e = .returned (.bool true) ∧ Below w.heap.size w w' := by
  have k1 := partsW_any w b hb
  have k2 := parts_any w b hb
  generalize (fparts b).2.2 = kd at *
  generalize (fparts b).2.1 = ex at *
  generalize (fparts b).1 = mt at *
  have K1 := hide k1
  have K2 := hide k2
  have K3 := hide (textW_any w b hb htab)
  have K4 : ∀ W, Hid _ := fun W => hide (refT_any W b hb)
  clear k1 k2 htab
  go_enter Tryd.func3, Tryd.ntmps3
  go_wp2_with fail
  refine (unhide K1).mono ?_
  rintro _ w1 ⟨rfl, e1⟩
  rw [e1]
  clear e1 K1
  go_wp2_with fail
  refine (unhide K2).mono ?_
  rintro _ w2 ⟨rfl, e2⟩
  rw [e2]
  clear e2 K2
  go_wp2_with fail
  refine (unhide K3).mono ?_
  rintro _ w3 ⟨⟨R, rfl, hR⟩, b3⟩
  have HR := hide hR
  have B3 := hide b3
  clear K3 hR b3
  go_wp2_with fail
  refine (unhide (K4 w3)).mono ?_
  rintro _ w4 ⟨⟨R', rfl, hR'⟩, b4⟩
  have e : R' = R := by
    apply ByteArray.ext
    apply Array.toList_inj.1
    exact textIs_unique hR' (unhide HR)
  subst e
  have B4 := hide (below_up (unhide B3) b4)
  clear K4 hR' b4 HR B3
  go_wp2
  go_ret
  exact ⟨rfl, unhide B4⟩
end Go.Proofs.YtobbbhmkcmbekaaDoor.bigs
