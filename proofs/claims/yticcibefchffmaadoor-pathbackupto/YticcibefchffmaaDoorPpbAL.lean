/- Of our texts, what this claim reaches. -/
import Derived.Test.YticcibefchffmaaDoorPpbAJ
import Derived.Test.YticcibefchffmaaDoorPpbAI
set_option linter.unusedVariables false
namespace Go.Proofs.YticcibefchffmaaDoor.escs
open utfs
open bigs (hexc hexv hexv_le hexc_val digB digB_low digB_high)
def qr (r : Int) : List UInt8 :=
 if r = 34 then [92, 34] else if r = 92 then [92, 92] else if r = 10 then [92, 110] else if r = 9 then [92, 116] else if r = 13 then [92, 114]
 else if r < 32 ∨ r = 127 then [92, 117, 123] ++ (digB 16 r.toNat ++ [125]) else Lib.encodeRune r
def qs (rs : List Int) : List UInt8 := rs.flatMap qr
def quoteL (rs : List Int) : List UInt8 := 34 :: (qs rs ++ [34])
theorem qs_cons (r : Int) (rs : List Int) : qs (r :: rs) = qr r ++ qs rs := by simp [qs]
theorem qs_append (a b : List Int) : qs (a ++ b) = qs a ++ qs b := by simp [qs]
theorem qs_one (r : Int) : qs [r] = qr r := by simp [qs]
abbrev Said : Type := Int ⊕ (Int × Nat)
def hexF : Nat → Nat → List UInt8 → Nat × Nat
 | 0, v, _ => (v, 0)
 | _ + 1, v, [] => (v, 0)
 | f + 1, v, c :: l => if hexv c < 16 then ((hexF f (v * 16 + hexv c) l).1, (hexF f (v * 16 + hexv c) l).2 + 1) else (v, 0)
def numQ (s : List UInt8) : Said :=
 if (hexF 6 0 s).2 = 0 ∨ (s.drop (hexF 6 0 s).2).head? ≠ some 125 then .inl 4
 else if sc ((hexF 6 0 s).1 : Int) = true then .inr (((hexF 6 0 s).1 : Int), ((hexF 6 0 s).2 + 4)) else .inl 3
def escQ (t : List UInt8) : Said :=
 if t.take 2 = [117, 123] then numQ (t.drop 2)
 else match t with
  | [] => .inl 4
  | c :: _ => if c = 34 ∨ c = 92 ∨ c = 47 then .inr ((c.toNat : Int), 2) else if c = 110 then .inr (10, 2) else if c = 116 then .inr (9, 2) else if c = 114 then .inr (13, 2) else .inl 4
def nextQ (l : List UInt8) : Said :=
 if l.headD 0 = 10 then .inl 4 else if l.headD 0 = 92 then escQ (l.drop 1) else if badB l = true then .inl 3 else .inr (((Lib.decodeL l).1 : Int), (Lib.decodeL l).2)
abbrev Res : Type := Int ⊕ (List Int × Nat)
def resMore (r : Int) (n : Nat) : Res → Res
 | .inl e => .inl e
 | .inr (rs, k) => .inr ((r :: rs), (n + k))
def unqF : Nat → List UInt8 → Res
 | 0, _ => .inl 4
 | _ + 1, [] => .inl 4
 | f + 1, c :: t => if c = 34 then .inr ([], 1) else match nextQ (c :: t) with
  | .inl e => .inl e
  | .inr (r, n) => resMore r n (unqF f ((c :: t).drop n))
def unq (q : List UInt8) : Res :=
 match q with
 | [] => .inl 4
 | c :: t => if c = 34 then (match unqF (t.length + 1) t with | .inl e => .inl e | .inr (rs, k) => .inr (rs, (k + 1))) else .inl 4
theorem hexF_front : ∀ (f v : Nat) (l x : List UInt8), (hexF f v l).2 < l.length → hexF f v (l.take ((hexF f v l).2 + 1) ++ x) = hexF f v l
 | 0, v, l, x, _ => by simp [hexF]
 | f + 1, v, [], x, h => by simp at h
 | f + 1, v, c :: l, x, h => by
  by_cases hc : hexv c < 16
  ·have e : hexF (f + 1) v (c :: l) = ((hexF f (v * 16 + hexv c) l).1, (hexF f (v * 16 + hexv c) l).2 + 1) := by rw [hexF, if_pos hc]
   rw [e] at h ⊢
   simp only [List.length_cons] at h
   have ih := hexF_front f (v * 16 + hexv c) l x (by omega)
   rw [List.take_succ_cons, List.cons_append, hexF, if_pos hc, ih]
  ·have e : hexF (f + 1) v (c :: l) = (v, 0) := by rw [hexF, if_neg hc]
   rw [e, List.take_succ_cons, List.take_zero, List.cons_append, hexF, if_neg hc]
theorem enc_low {r : Int} (h0 : 0 ≤ r) (h1 : r ≤ 127) : Lib.encodeRune r = [r.toNat.toUInt8] := by
 simp [Lib.encodeRune, Lib.encodeRuneZ_one h0 h1]
theorem sc_low {r : Int} (h0 : 0 ≤ r) (h1 : r ≤ 127) : sc r = true := decide_eq_true (by omega)
theorem two_front {t : List UInt8} (h : t.take 2 = [117, 123]) : ∃ s, t = 117 :: 123 :: s := by
 match t, h with
 | [], h => simp at h
 | [a], h => simp at h
 | a :: b :: s, h => simp at h; exact ⟨s, by rw [h.1, h.2]⟩
theorem numQ_says {s : List UInt8} {r : Int} {m : Nat} (h : numQ s = .inr (r, m)) :
  5 ≤ m ∧ m - 3 ≤ s.length ∧ sc r = true ∧ ∀ x, numQ (s.take (m - 3) ++ x) = .inr (r, m) := by
 unfold numQ at h
 split at h
 ·cases h
 ·rename_i hn
  split at h
  ·rename_i hs
   cases h
   have h0 : (hexF 6 0 s).2 ≠ 0 := fun e => hn (.inl e)
   have h1 : (s.drop (hexF 6 0 s).2).head? = some 125 := Classical.byContradiction fun e => hn (.inr e)
   have hl : (hexF 6 0 s).2 < s.length := by
    rcases Nat.lt_or_ge (hexF 6 0 s).2 s.length with k | k
    ·exact k
    ·rw [List.drop_of_length_le k] at h1; cases h1
   refine ⟨by omega, by omega, hs, fun x => ?_⟩
   have e1 : (hexF 6 0 s).2 + 4 - 3 = (hexF 6 0 s).2 + 1 := by omega
   rw [e1]
   have hf := hexF_front 6 0 s x hl
   have hh : ((s.take ((hexF 6 0 s).2 + 1) ++ x).drop (hexF 6 0 s).2).head? = some 125 := by
    rw [← h1, List.head?_drop, List.head?_drop, List.getElem?_append_left (by rw [List.length_take]; omega), List.getElem?_take_of_lt (by omega)]
   unfold numQ
   rw [hf, if_neg (by rw [hh]; simp [h0]), if_pos hs]
  ·cases h
theorem says_front {l : List UInt8} {r : Int} {m : Nat} (hl : l ≠ []) (h : nextQ l = .inr (r, m)) :
  1 ≤ m ∧ m ≤ l.length ∧ sc r = true ∧ (Lib.encodeRune r).length ≤ m ∧ ∀ x, nextQ (l.take m ++ x) = .inr (r, m) := by
 match l, hl with
 | c :: t, _ =>
  unfold nextQ at h
  rw [List.headD_cons, List.drop_succ_cons, List.drop_zero] at h
  split at h
  ·cases h
  ·rename_i h10
   split at h
   ·rename_i h92
    subst h92
    unfold escQ at h
    split at h
    ·rename_i h2
     obtain ⟨s, rfl⟩ := two_front h2
     have e2 : (117 :: 123 :: s).drop 2 = s := rfl
     rw [e2] at h
     obtain ⟨a1, a2, a3, a4⟩ := numQ_says h
     have h4 := encodeRune_length r
     refine ⟨by omega, by simp only [List.length_cons]; omega, a3, by omega, fun x => ?_⟩
     obtain ⟨k, rfl⟩ : ∃ k, m = k + 3 := ⟨m - 3, by omega⟩
     have e3 : k + 3 - 3 = k := by omega
     rw [e3] at a4
     have e4 : (92 :: 117 :: 123 :: s).take (k + 3) ++ x = 92 :: 117 :: 123 :: (s.take k ++ x) := by simp
     rw [e4]
     unfold nextQ
     rw [List.headD_cons, if_neg (by decide), if_pos rfl, List.drop_succ_cons, List.drop_zero]
     unfold escQ
     rw [if_pos (by simp)]
     exact a4 x
    ·match t with
     | [] => cases h
     | c :: t' =>
      simp only at h
      have fin : ∀ (q : Int), 0 ≤ q → q ≤ 127 → c ≠ 117 → (∀ x, escQ (c :: x) = .inr (q, 2)) → (Sum.inr (q, 2) : Said) = .inr (r, m) → 1 ≤ m ∧ m ≤ (92 :: c :: t').length ∧ sc r = true ∧ (Lib.encodeRune r).length ≤ m ∧ ∀ x, nextQ ((92 :: c :: t').take m ++ x) = .inr (r, m) := by
       intro q q0 q1 hc hx e
       cases e
       refine ⟨by omega, by simp, sc_low q0 q1, by rw [enc_low q0 q1]; simp, fun x => ?_⟩
       have e4 : (92 :: c :: t').take 2 ++ x = 92 :: c :: x := by simp
       rw [e4]
       unfold nextQ
       rw [List.headD_cons, if_neg (by decide), if_pos rfl, List.drop_succ_cons, List.drop_zero]
       exact hx x
      have ne2 : c ≠ 117 → ∀ x : List UInt8, ¬ (c :: x).take 2 = [117, 123] := fun hc x e => by
       rw [List.take_succ_cons] at e
       injection e with e1 e2
       exact hc e1
      split at h
      ·rename_i hc
       have hc7 : c ≠ 117 := by rcases hc with rfl | rfl | rfl <;> decide
       refine fin (c.toNat : Int) (by omega) (by rcases hc with rfl | rfl | rfl <;> decide) hc7 (fun x => ?_) h
       unfold escQ
       rw [if_neg (ne2 hc7 x)]
       simp only
       rw [if_pos hc]
      ·rename_i hc
       split at h
       ·rename_i h1
        subst h1
        exact fin 10 (by decide) (by decide) (by decide) (fun x => by simp [escQ]) h
       ·split at h
        ·rename_i h1
         subst h1
         exact fin 9 (by decide) (by decide) (by decide) (fun x => by simp [escQ]) h
        ·split at h
         ·rename_i h1
          subst h1
          exact fin 13 (by decide) (by decide) (by decide) (fun x => by simp [escQ]) h
         ·cases h
   ·rename_i h92
    split at h
    ·cases h
    ·rename_i hb
     have hb' : badB (c :: t) = false := by simpa using hb
     obtain ⟨q, rest, hs, e, ed⟩ := badB_false (by simp) hb'
     rw [ed] at h
     simp only at h
     have hq := sc_true hs
     have eq : ((q.toNat : Nat) : Int) = q := by omega
     rw [eq] at h
     cases h
     have h4 := encodeRune_length r
     have hlen := congrArg List.length e
     rw [List.length_append] at hlen
     refine ⟨by omega, by omega, hs, Nat.le_refl _, fun x => ?_⟩
     have hc : (Lib.encodeRune r ++ x).headD 0 = c := by
      rcases he : Lib.encodeRune r with _ | ⟨a, b⟩
      ·rw [he] at h4; simp at h4
      ·rw [he] at e
       injection e with e1 _
       rw [e1]; rfl
     rw [e, List.take_left' rfl]
     unfold nextQ
     rw [hc, if_neg h10, if_neg h92, if_neg (by rw [badB_enc hs]; simp), dec_enc hs]
     simp only
     rw [eq]
theorem qr_cases (r : Int) (h : sc r = true) : (r = 34 ∨ r = 92 ∨ r = 10 ∨ r = 9 ∨ r = 13) ∨ ((r < 32 ∨ r = 127) ∧ r ≠ 34 ∧ r ≠ 92 ∧ r ≠ 10 ∧ r ≠ 9 ∧ r ≠ 13) ∨ (32 ≤ r ∧ r ≠ 127 ∧ r ≠ 34 ∧ r ≠ 92) := by omega
theorem qr_hex {r : Int} (h : r < 32 ∨ r = 127) (h1 : r ≠ 10) (h2 : r ≠ 9) (h3 : r ≠ 13) : qr r = 92 :: 117 :: 123 :: (digB 16 r.toNat ++ [125]) := by
 unfold qr
 rw [if_neg (by omega), if_neg (by omega), if_neg h1, if_neg h2, if_neg h3, if_pos h]
 rfl
theorem qr_plain {r : Int} (h0 : 32 ≤ r) (h1 : r ≠ 127) (h2 : r ≠ 34) (h3 : r ≠ 92) : qr r = Lib.encodeRune r := by
 unfold qr
 rw [if_neg h2, if_neg h3, if_neg (by omega), if_neg (by omega), if_neg (by omega), if_neg (by omega)]
theorem hex_two {r : Int} (h0 : 0 ≤ r) (h : r < 32 ∨ r = 127) : (∃ d, d < 16 ∧ r.toNat = d ∧ digB 16 r.toNat = [hexc d]) ∨ (∃ a d, a < 16 ∧ d < 16 ∧ r.toNat = a * 16 + d ∧ digB 16 r.toNat = [hexc a, hexc d]) := by
 by_cases c : r.toNat < 16
 ·exact .inl ⟨r.toNat, c, rfl, digB_low c⟩
 ·refine .inr ⟨r.toNat / 16, r.toNat % 16, by omega, by omega, by omega, ?_⟩
  rw [digB_high (by decide) (by omega), digB_low (b := 16) (n := r.toNat / 16) (by omega)]
  rfl
theorem hexv_close : hexv 125 = 16 := by decide
theorem next_qr {r : Int} (hs : sc r = true) (x : List UInt8) : ∃ c t, qr r ++ x = c :: t ∧ c ≠ 34 ∧ nextQ (c :: t) = .inr (r, (qr r).length) := by
 have h0 := sc_true hs
 rcases qr_cases r hs with h | ⟨h, h34, h92, h10, h9, h13⟩ | ⟨h, h127, h34, h92⟩
 ·rcases h with rfl | rfl | rfl | rfl | rfl
  ·exact ⟨92, 34 :: x, rfl, by decide, by simp [nextQ, escQ, qr]⟩
  ·exact ⟨92, 92 :: x, rfl, by decide, by simp [nextQ, escQ, qr]⟩
  ·exact ⟨92, 110 :: x, rfl, by decide, by simp [nextQ, escQ, qr]⟩
  ·exact ⟨92, 116 :: x, rfl, by decide, by simp [nextQ, escQ, qr]⟩
  ·exact ⟨92, 114 :: x, rfl, by decide, by simp [nextQ, escQ, qr]⟩
 ·have e := qr_hex h h10 h9 h13
  refine ⟨92, 117 :: 123 :: (digB 16 r.toNat ++ [125] ++ x), by rw [e]; simp, by decide, ?_⟩
  have key : numQ (digB 16 r.toNat ++ [125] ++ x) = .inr (r, (qr r).length) := by
   rw [e]
   rcases hex_two h0.1 h with ⟨d, hd, ed, eg⟩ | ⟨a, d, ha, hd, ed, eg⟩
   ·have v := (hexc_val hd).1
    rw [eg]
    have hf : hexF 6 0 ([hexc d] ++ [125] ++ x) = (d, 1) := by
     simp only [List.cons_append, List.nil_append, hexF, v, hexv_close]
     rw [if_pos hd, if_neg (by omega)]
     simp
    unfold numQ
    rw [hf, if_neg (by simp)]
    simp only
    have : ((d : Nat) : Int) = r := by omega
    rw [this, if_pos hs]
    rfl
   ·have va := (hexc_val ha).1
    have vd := (hexc_val hd).1
    rw [eg]
    have hf : hexF 6 0 ([hexc a, hexc d] ++ [125] ++ x) = (a * 16 + d, 2) := by
     simp only [List.cons_append, List.nil_append, hexF, va, vd, hexv_close]
     rw [if_pos ha, if_pos hd, if_neg (by omega)]
     simp
    unfold numQ
    rw [hf, if_neg (by simp)]
    simp only
    have : ((a * 16 + d : Nat) : Int) = r := by omega
    rw [this, if_pos hs]
    rfl
  unfold nextQ
  rw [List.headD_cons, if_neg (by decide), if_pos rfl, List.drop_succ_cons, List.drop_zero]
  unfold escQ
  rw [if_pos (by simp)]
  exact key
 ·rw [qr_plain h h127 h34 h92]
  have h4 := encodeRune_length r
  rcases he : Lib.encodeRune r ++ x with _ | ⟨c, t⟩
  ·exact absurd he (enc_ne r x)
  ·have hc : c.toNat ≠ 34 ∧ c.toNat ≠ 92 ∧ c.toNat ≠ 10 := by
    rcases code_forms hs with ⟨a, e⟩ | ⟨a, b, e⟩ | ⟨a, b, e⟩ | ⟨a, e⟩ <;> rw [e] at he <;> injection he with e1 _ <;> rw [← e1, byte_toNat (by omega) (by omega)] <;> omega
   have n34 : c ≠ 34 := fun e => hc.1 (by rw [e]; rfl)
   have n92 : c ≠ 92 := fun e => hc.2.1 (by rw [e]; rfl)
   have n10 : c ≠ 10 := fun e => hc.2.2 (by rw [e]; rfl)
   refine ⟨c, t, rfl, n34, ?_⟩
   unfold nextQ
   rw [List.headD_cons, if_neg n10, if_neg n92, ← he, if_neg (by rw [badB_enc hs]; simp), dec_enc hs]
   simp only
   have eq : ((r.toNat : Nat) : Int) = r := by omega
   rw [eq]
theorem qr_pos {r : Int} (hs : sc r = true) : 1 ≤ (qr r).length := by
 obtain ⟨c, t, e, _, h⟩ := next_qr hs []
 have := says_front (by simp) h
 exact this.1
theorem qr_le {r : Int} (hs : sc r = true) : (qr r).length ≤ 6 ∧ (qr r).length ≤ 6 * (Lib.encodeRune r).length := by
 have h0 := sc_true hs
 have h4 := encodeRune_length r
 have key : (qr r).length ≤ 6 := by
  rcases qr_cases r hs with h | ⟨h, h34, h92, h10, h9, h13⟩ | ⟨h, h127, h34, h92⟩
  ·rcases h with rfl | rfl | rfl | rfl | rfl <;> decide
  ·rw [qr_hex h h10 h9 h13]
   rcases hex_two h0.1 h with ⟨d, _, _, eg⟩ | ⟨a, d, _, _, _, eg⟩ <;> rw [eg] <;> simp
  ·rw [qr_plain h h127 h34 h92]; omega
 exact ⟨key, by omega⟩
theorem qs_le : ∀ (rs : List Int), (∀ r ∈ rs, sc r = true) → (qs rs).length ≤ 6 * (enc rs).length
 | [], _ => by simp [qs]
 | r :: rs, h => by
  have a := qr_le (h r List.mem_cons_self)
  have b := qs_le rs (fun q hq => h q (List.mem_cons_of_mem _ hq))
  rw [qs_cons, enc_cons, List.length_append, List.length_append]
  omega
theorem qs_ge : ∀ (rs : List Int), (∀ r ∈ rs, sc r = true) → rs.length ≤ (qs rs).length
 | [], _ => by simp
 | r :: rs, h => by
  have a := qr_pos (h r List.mem_cons_self)
  have b := qs_ge rs (fun q hq => h q (List.mem_cons_of_mem _ hq))
  rw [qs_cons, List.length_append, List.length_cons]
  omega
theorem unqF_back : ∀ (rs : List Int) (f : Nat) (x : List UInt8), (∀ r ∈ rs, sc r = true) → rs.length < f → unqF f (qs rs ++ 34 :: x) = .inr (rs, ((qs rs).length + 1))
 | [], f, x, _, hf => by
  obtain ⟨k, rfl⟩ : ∃ k, f = k + 1 := ⟨f - 1, by omega⟩
  simp [qs, unqF]
 | r :: rs, f, x, h, hf => by
  obtain ⟨k, rfl⟩ : ∃ k, f = k + 1 := ⟨f - 1, by omega⟩
  simp only [List.length_cons] at hf
  have ih := unqF_back rs k x (fun q hq => h q (List.mem_cons_of_mem _ hq)) (by omega)
  obtain ⟨c, t, e, hc, hn⟩ := next_qr (h r List.mem_cons_self) (qs rs ++ 34 :: x)
  rw [qs_cons, List.append_assoc, e, unqF, if_neg hc, hn]
  simp only
  rw [← e, List.drop_left' rfl, ih]
  simp only [resMore, List.length_append]
  rw [Nat.add_assoc]
theorem unq_back (rs : List Int) (x : List UInt8) (h : ∀ r ∈ rs, sc r = true) : unq (quoteL rs ++ x) = .inr (rs, (quoteL rs).length) := by
 have hg := qs_ge rs h
 unfold quoteL
 rw [List.cons_append, unq, if_pos rfl, List.append_assoc]
 rw [show qs rs ++ ([34] ++ x) = qs rs ++ 34 :: x from rfl, unqF_back rs _ x h (by simp; omega)]
 simp
theorem unqF_got : ∀ (f : Nat) (l : List UInt8) (rs : List Int) (k : Nat), unqF f l = .inr (rs, k) →
  1 ≤ k ∧ k ≤ l.length ∧ (∀ r ∈ rs, sc r = true) ∧ (enc rs).length + 1 ≤ k ∧ l.getD (k - 1) 0 = 34 ∧ ∀ f', ∃ e, unqF f' (l.take (k - 1)) = .inl e
 | 0, l, rs, k, h => by simp [unqF] at h
 | f + 1, [], rs, k, h => by simp [unqF] at h
 | f + 1, c :: t, rs, k, h => by
  rw [unqF] at h
  by_cases hc : c = 34
  ·rw [if_pos hc] at h
   cases h
   refine ⟨by omega, by simp, by simp, by simp [enc], by simp [hc], fun f' => ⟨4, ?_⟩⟩
   cases f' <;> simp [unqF]
  ·rw [if_neg hc] at h
   cases hn : nextQ (c :: t) with
   | inl e => rw [hn] at h; cases h
   | inr p =>
    obtain ⟨r, n⟩ := p
    rw [hn] at h
    simp only at h
    obtain ⟨a1, a2, a3, a4, a5⟩ := says_front (by simp) hn
    cases hu : unqF f ((c :: t).drop n) with
    | inl e => rw [hu] at h; cases h
    | inr p =>
     obtain ⟨rs', k'⟩ := p
     rw [hu] at h
     simp only [resMore, Sum.inr.injEq, Prod.mk.injEq] at h
     obtain ⟨rfl, rfl⟩ := h
     obtain ⟨b1, b2, b3, b4, b5, b6⟩ := unqF_got f _ _ _ hu
     rw [List.length_drop] at b2
     refine ⟨by omega, by omega, ?_, ?_, ?_, ?_⟩
     ·intro q hq
      rcases List.mem_cons.1 hq with rfl | hq
      ·exact a3
      ·exact b3 q hq
     ·rw [enc_cons, List.length_append]; omega
     ·rw [← b5, List.getD_eq_getElem?_getD, List.getD_eq_getElem?_getD, List.getElem?_drop]
      congr 2
      omega
     ·intro f'
      cases f' with
      | zero => exact ⟨4, rfl⟩
      | succ f' =>
       obtain ⟨e, he⟩ := b6 f'
       refine ⟨e, ?_⟩
       have e1 : n + k' - 1 = n + (k' - 1) := by omega
       have e2 : (c :: t).take (n + (k' - 1)) = (c :: t).take n ++ ((c :: t).drop n).take (k' - 1) := List.take_add
       have hh := a5 (((c :: t).drop n).take (k' - 1))
       rw [← e2] at hh
       rw [e1]
       have e3 : ((c :: t).take (n + (k' - 1))).drop n = ((c :: t).drop n).take (k' - 1) := by
        rw [e2, List.drop_left' (by rw [List.length_take]; omega)]
       obtain ⟨n', rfl⟩ : ∃ n', n = n' + 1 := ⟨n - 1, by omega⟩
       have e4 : (c :: t).take (n' + 1 + (k' - 1)) = c :: t.take (n' + (k' - 1)) := by
        rw [show n' + 1 + (k' - 1) = (n' + (k' - 1)) + 1 by omega, List.take_succ_cons]
       rw [e4] at hh e3 ⊢
       rw [unqF, if_neg hc, hh]
       simp only
       rw [e3, he]
       rfl
theorem unq_got {q : List UInt8} {rs : List Int} {k : Nat} (h : unq q = .inr (rs, k)) :
  2 ≤ k ∧ k ≤ q.length ∧ (∀ r ∈ rs, sc r = true) ∧ (enc rs).length + 2 ≤ k ∧ q.getD (k - 1) 0 = 34 ∧ ∃ e, unq (q.take (k - 1)) = .inl e := by
 match q with
 | [] => cases h
 | c :: t =>
  rw [unq] at h
  by_cases hc : c = 34
  ·rw [if_pos hc] at h
   cases hu : unqF (t.length + 1) t with
   | inl e => rw [hu] at h; cases h
   | inr p =>
    obtain ⟨rs', k'⟩ := p
    rw [hu] at h
    simp only [Sum.inr.injEq, Prod.mk.injEq] at h
    obtain ⟨rfl, rfl⟩ := h
    obtain ⟨b1, b2, b3, b4, b5, b6⟩ := unqF_got _ _ _ _ hu
    refine ⟨by omega, by simp only [List.length_cons]; omega, b3, by omega, ?_, ?_⟩
    ·rw [← b5]
     obtain ⟨j, rfl⟩ : ∃ j, k' = j + 1 := ⟨k' - 1, by omega⟩
     rfl
    ·obtain ⟨j, rfl⟩ : ∃ j, k' = j + 1 := ⟨k' - 1, by omega⟩
     obtain ⟨e, he⟩ := b6 ((t.take j).length + 1)
     refine ⟨e, ?_⟩
     rw [show j + 1 + 1 - 1 = j + 1 by omega, List.take_succ_cons, unq, if_pos hc]
     rw [show j + 1 - 1 = j by omega] at he
     rw [he]
  ·rw [if_neg hc] at h; cases h
theorem numQ_fails {s : List UInt8} {e : Int} (h : numQ s = .inl e) : e = 3 ∨ e = 4 := by
 unfold numQ at h
 split at h
 ·cases h; omega
 ·split at h
  ·cases h
  ·cases h; omega
theorem nextQ_fails {l : List UInt8} {e : Int} (h : nextQ l = .inl e) : e = 3 ∨ e = 4 := by
 unfold nextQ at h
 split at h
 ·cases h; omega
 ·split at h
  ·unfold escQ at h
   split at h
   ·exact numQ_fails h
   ·split at h
    ·cases h; omega
    ·split at h
     ·cases h
     ·split at h
      ·cases h
      ·split at h
       ·cases h
       ·split at h
        ·cases h
        ·cases h; omega
  ·split at h
   ·cases h; omega
   ·cases h
end Go.Proofs.YticcibefchffmaaDoor.escs
