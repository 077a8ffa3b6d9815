/- Of our texts, what this claim reaches. -/
import Derived.Test.YtnbfnjhbmeocfabGreatDoorPssAQ
import Derived.Test.YtnbfnjhbmeocfabGreatDoorPssBQ
import Derived.Test.YtnbfnjhbmeocfabGreatDoorPssBR
import Derived.Test.YtnbfnjhbmeocfabGreatDoorPssAO
import Derived.Test.YtnbfnjhbmeocfabGreatDoorPssBD
import Derived.Test.YtnbfnjhbmeocfabGreatDoorPssAA
set_option linter.unusedVariables false
namespace Go.Proofs.YtnbfnjhbmeocfabGreatDoor.valus
open toks (tokK isB isW isM noL runL shutN)
open bigs (tellB TextIs decs Dig10 layL expL sgL numRes ReadsTo)
def NoW (x : List UInt8) : Prop := ∀ c, x.head? = some c → isW c = false
def Sep (p : List UInt8) : Prop := ∀ x, NoW x → solS (p ++ x) = solS p ++ solS x
theorem noW_cons {c : UInt8} {x : List UInt8} (h : isW c = false) : NoW (c :: x) := fun d hd => by
 injection hd with hd
 rw [← hd]
 exact h
theorem noW_nil : NoW [] := fun d hd => by cases hd
theorem isW_kinds {c : UInt8} (h : isW c = true) : isB c = false ∧ c ≠ 10 ∧ c ≠ 35 := by
 refine ⟨?_, ?_, ?_⟩
 ·unfold isB
  cases h1 : (c == 32 || c == 9 || c == 13) with
  | false => rfl
  | true =>
   simp only [Bool.or_eq_true, beq_iff_eq] at h1
   rcases h1 with (rfl | rfl) | rfl <;> exact absurd h (by decide)
 ·rintro rfl
  exact absurd h (by decide)
 ·rintro rfl
  exact absurd h (by decide)
theorem sol_word {a x : List UInt8} (ha : a ≠ []) (hw : ∀ c ∈ a, isW c = true) (hx : NoW x) : solS (a ++ x) = (4, a) :: solS x := by
 have hr : runL isW (a ++ x) = a.length := by
  rw [run_all isW a x hw]
  cases x with
  | nil => rfl
  | cons c y => rw [run_stop isW c y (hx c rfl)]; rfl
 cases a with
 | nil => exact absurd rfl ha
 | cons c t =>
  have hc := hw c (by simp)
  obtain ⟨h1, h2, h3⟩ := isW_kinds hc
  have e : tokK (c :: t ++ x) = (4, (c :: t).length) := by
   rw [← hr, List.cons_append]
   unfold tokK
   simp only
   rw [if_neg (by rw [h1]; decide), if_neg h2, if_neg h3, if_pos hc]
  rw [sol_cons (by simp), e]
  show ([(4, (c :: t ++ x).take (c :: t).length)] : List Tok2) ++ solS ((c :: t ++ x).drop (c :: t).length) = _
  rw [List.take_left' rfl, List.drop_left' rfl]
  rfl
theorem sep_word {a : List UInt8} (ha : a ≠ []) (hw : ∀ c ∈ a, isW c = true) : solS a = [(4, a)] ∧ Sep a := by
 have h0 : solS a = [(4, a)] := by
  have := sol_word ha hw noW_nil
  rw [List.append_nil] at this
  rw [this]
  rfl
 exact ⟨h0, fun x hx => by rw [sol_word ha hw hx, h0]; rfl⟩
theorem shut_byte {c : UInt8} (h1 : c ≠ 34) (h2 : c ≠ 10) (h3 : c ≠ 92) (y : List UInt8) : shutN (c :: y) = if shutN y = 0 then 0 else shutN y + 1 := by
 cases y with
 | nil => simp [shutN, h1]
 | cons d l => rw [shutN, if_neg h1, if_neg h2, if_neg h3]
theorem shut_stroke {d : UInt8} (h : d ≠ 10) (y : List UInt8) : shutN (92 :: d :: y) = if shutN y = 0 then 0 else shutN y + 2 := by
 rw [shutN, if_neg (by decide), if_neg (by decide), if_pos rfl, if_neg h]
theorem shut_quote (y : List UInt8) : shutN (34 :: y) = 1 := by
 cases y with
 | nil => rfl
 | cons d l => rw [shutN, if_pos rfl]
theorem shut_bytes : ∀ (l y : List UInt8), (∀ c ∈ l, c ≠ 34 ∧ c ≠ 10 ∧ c ≠ 92) → shutN y ≠ 0 → shutN (l ++ y) = l.length + shutN y
 | [], y, _, _ => by simp
 | c :: l, y, h, hy => by
  obtain ⟨h1, h2, h3⟩ := h c (by simp)
  have ih := shut_bytes l y (fun d hd => h d (by simp [hd])) hy
  rw [List.cons_append, shut_byte h1 h2 h3, ih, if_neg (by omega), List.length_cons]
  omega
theorem hexc_plain {d : Nat} (h : d < 16) : bigs.hexc d ≠ 34 ∧ bigs.hexc d ≠ 10 ∧ bigs.hexc d ≠ 92 := by
 have : ∀ k : Fin 16, bigs.hexc k ≠ 34 ∧ bigs.hexc k ≠ 10 ∧ bigs.hexc k ≠ 92 := by decide
 exact this ⟨d, h⟩
theorem shut_qr {r : Int} (hs : utfs.sc r = true) {y : List UInt8} (hy : shutN y ≠ 0) : shutN (escs.qr r ++ y) = (escs.qr r).length + shutN y := by
 have h0 := utfs.sc_true hs
 rcases escs.qr_cases r hs with h | ⟨h, h34, h92, h10, h9, h13⟩ | ⟨h, h127, h34, h92⟩
 ·rcases h with rfl | rfl | rfl | rfl | rfl
  all_goals
   show shutN (92 :: _ :: y) = 2 + shutN y
   rw [shut_stroke (by decide), if_neg hy]
   omega
 ·rw [escs.qr_hex h h10 h9 h13]
  have hl : ∀ c ∈ (123 :: (bigs.digB 16 r.toNat ++ [125]) : List UInt8), c ≠ 34 ∧ c ≠ 10 ∧ c ≠ 92 := by
   rcases escs.hex_two h0.1 h with ⟨d, hd, _, eg⟩ | ⟨a, d, ha, hd, _, eg⟩
   ·rw [eg]
    intro c hc
    simp at hc
    rcases hc with rfl | rfl | rfl
    ·decide
    ·exact hexc_plain hd
    ·decide
   ·rw [eg]
    intro c hc
    simp at hc
    rcases hc with rfl | rfl | rfl | rfl
    ·decide
    ·exact hexc_plain ha
    ·exact hexc_plain hd
    ·decide
  have e := shut_bytes _ y hl hy
  show shutN (92 :: 117 :: ((123 :: (bigs.digB 16 r.toNat ++ [125])) ++ y)) = _
  rw [shut_stroke (by decide), e, if_neg (by omega)]
  simp only [List.length_cons]
  omega
 ·rw [escs.qr_plain h h127 h34 h92]
  refine shut_bytes _ y (fun c hc => ?_) hy
  have key : ∀ x : Int, 0 ≤ x → x < 256 → x ≠ 34 → x ≠ 10 → x ≠ 92 → (x.toNat.toUInt8 ≠ 34 ∧ x.toNat.toUInt8 ≠ 10 ∧ x.toNat.toUInt8 ≠ 92) := fun x a b q1 q2 q3 => by
   have e := utfs.byte_toNat a b
   refine ⟨fun e' => ?_, fun e' => ?_, fun e' => ?_⟩ <;> rw [e'] at e
   ·have t : (34 : UInt8).toNat = 34 := rfl
    omega
   ·have t : (10 : UInt8).toNat = 10 := rfl
    omega
   ·have t : (92 : UInt8).toNat = 92 := rfl
    omega
  rcases utfs.code_forms hs with ⟨a, e⟩ | ⟨a, b, e⟩ | ⟨a, b, e⟩ | ⟨a, e⟩ <;> rw [e] at hc <;> simp only [List.mem_cons, List.not_mem_nil, or_false] at hc
  ·rw [hc]
   exact key _ (by omega) (by omega) (by omega) (by omega) (by omega)
  ·rcases hc with rfl | rfl
   all_goals exact key _ (by omega) (by omega) (by omega) (by omega) (by omega)
  ·rcases hc with rfl | rfl | rfl
   all_goals exact key _ (by omega) (by omega) (by omega) (by omega) (by omega)
  ·rcases hc with rfl | rfl | rfl | rfl
   all_goals exact key _ (by omega) (by omega) (by omega) (by omega) (by omega)
theorem shut_qs : ∀ (rs : List Int) (x : List UInt8), (∀ r ∈ rs, utfs.sc r = true) → shutN (escs.qs rs ++ 34 :: x) = (escs.qs rs).length + 1
 | [], x, _ => by rw [escs.qs_nil]; exact shut_quote x
 | r :: rs, x, h => by
  have ih := shut_qs rs x (fun q hq => h q (by simp [hq]))
  rw [escs.qs_cons, List.append_assoc, shut_qr (h r (by simp)) (by rw [ih]; omega), ih, List.length_append]
  omega
theorem sol_quote {rs : List Int} (h : ∀ r ∈ rs, utfs.sc r = true) (x : List UInt8) : solS (escs.quoteL rs ++ x) = (5, escs.quoteL rs) :: solS x := by
 have e : tokK (escs.quoteL rs ++ x) = (5, (escs.quoteL rs).length) := by
  have h1 := shut_qs rs x h
  unfold escs.quoteL
  have h2 : (34 :: (escs.qs rs ++ [34])) ++ x = 34 :: (escs.qs rs ++ 34 :: x) := by simp
  rw [h2]
  unfold tokK
  simp only
  rw [if_neg (by decide), if_neg (by decide), if_neg (by decide), if_neg (by decide), if_neg (by decide), h1, if_pos ⟨trivial, by omega⟩]
  simp
 rw [sol_cons (by unfold escs.quoteL; simp), e]
 show ([(5, (escs.quoteL rs ++ x).take (escs.quoteL rs).length)] : List Tok2) ++ solS ((escs.quoteL rs ++ x).drop (escs.quoteL rs).length) = _
 rw [List.take_left' rfl, List.drop_left' rfl]
 rfl
theorem sep_quote {rs : List Int} (h : ∀ r ∈ rs, utfs.sc r = true) : solS (escs.quoteL rs) = [(5, escs.quoteL rs)] ∧ Sep (escs.quoteL rs) := by
 have h0 : solS (escs.quoteL rs) = [(5, escs.quoteL rs)] := by
  have := sol_quote h []
  rw [List.append_nil] at this
  rw [this]
  rfl
 exact ⟨h0, fun x hx => by rw [sol_quote h x, h0]; rfl⟩
theorem unq_quote {rs : List Int} (h : ∀ r ∈ rs, utfs.sc r = true) : escs.resE (escs.unq (escs.quoteL rs)) = 0 ∧ escs.resT (escs.unq (escs.quoteL rs)) = utfs.enc rs := by
 have := escs.unq_back rs [] h
 rw [List.append_nil] at this
 rw [this]
 exact ⟨rfl, rfl⟩
def okNum (c : UInt8) : Prop := (48 ≤ c.toNat ∧ c.toNat ≤ 57) ∨ c = 46 ∨ c = 101 ∨ c = 45
theorem okNum_isW {c : UInt8} (h : okNum c) : isW c = true := by
 rcases h with h | rfl | rfl | rfl
 ·unfold isW
  exact decide_eq_true (by omega)
 ·decide
 ·decide
 ·decide
theorem ok_decs (n : Nat) : ∀ c ∈ decs n, okNum c := fun c hc => .inl ((bigs.decs_form n).2.1 c hc)
theorem ok_itoa (x : Int) : ∀ c ∈ Lib.itoa x, okNum c := by
 unfold Lib.itoa
 split
 ·intro c hc
  rw [bigs.decDigits_decs] at hc
  rcases List.mem_cons.1 hc with rfl | hc
  ·exact .inr (.inr (.inr rfl))
  ·exact ok_decs _ c hc
 ·intro c hc
  rw [bigs.decDigits_decs] at hc
  exact ok_decs _ c hc
theorem ok_lay {D : List UInt8} (hD : ∀ c ∈ D, okNum c) (p : Int) : (∀ c ∈ layL D p, okNum c) ∧ ∃ c ∈ layL D p, c = 46 ∨ c = 101 := by
 have ht : ∀ n, ∀ c ∈ D.take n, okNum c := fun n c hc => hD c (List.mem_of_mem_take hc)
 have hd : ∀ n, ∀ c ∈ D.drop n, okNum c := fun n c hc => hD c (List.mem_of_mem_drop hc)
 have hr : ∀ n, ∀ c ∈ List.replicate n (48 : UInt8), okNum c := fun n c hc => by rw [List.eq_of_mem_replicate hc]; exact .inl (by decide)
 have h46 : okNum 46 := .inr (.inl rfl)
 have h48 : okNum 48 := .inl (by decide)
 have h101 : okNum 101 := .inr (.inr (.inl rfl))
 unfold layL
 split
 ·unfold expL
  constructor
  ·intro c hc
   rw [List.mem_append, List.mem_append, List.mem_cons] at hc
   rcases hc with hc | hc | rfl | hc
   ·exact ht _ c hc
   ·split at hc
    ·simp at hc
    ·rcases List.mem_cons.1 hc with rfl | hc
     ·exact h46
     ·exact hd _ c hc
   ·exact h101
   ·exact ok_itoa _ c hc
  ·exact ⟨101, by simp, .inr rfl⟩
 ·split
  ·constructor
   ·intro c hc
    simp only [List.cons_append, List.nil_append, List.mem_cons, List.mem_append] at hc
    rcases hc with rfl | rfl | hc | hc
    ·exact h48
    ·exact h46
    ·exact hr _ c hc
    ·exact hD c hc
   ·exact ⟨46, by simp, .inl rfl⟩
  ·split
   ·constructor
    ·intro c hc
     rw [List.mem_append, List.mem_cons] at hc
     rcases hc with hc | rfl | hc
     ·exact ht _ c hc
     ·exact h46
     ·exact hd _ c hc
    ·exact ⟨46, by simp, .inl rfl⟩
   ·constructor
    ·intro c hc
     rw [List.mem_append, List.mem_append] at hc
     rcases hc with hc | hc | hc
     ·exact hD c hc
     ·exact hr _ c hc
     ·simp only [List.mem_cons, List.not_mem_nil, or_false] at hc
      rcases hc with rfl | rfl
      ·exact h46
      ·exact h48
    ·exact ⟨46, by simp, .inl rfl⟩
theorem form_bad {c : UInt8} (h1 : c ≠ 95) (h2 : 10 ≤ bigs.hexv c) : ∀ (l : List UInt8) (q : Bool), c ∈ l → bigs.formG 10 q l = false
 | [], _, h => by cases h
 | d :: l, q, h => by
  rw [bigs.formG]
  rcases List.mem_cons.1 h with rfl | h
  ·rw [if_neg (fun e => h1 e.1), if_pos h2]
  ·have ih := form_bad h1 h2 l
   split
   ·exact ih _ h
   ·split
    ·rfl
    ·exact ih _ h
theorem base_ok : ∀ (l : List UInt8), (∀ c ∈ l, okNum c) → bigs.baseCut l = (10, l)
 | [], _ => rfl
 | [c], _ => rfl
 | c :: d :: r, h => by
  have hd := h d (by simp)
  have n1 : d ≠ 98 := by rintro rfl; rcases hd with hd | hd | hd | hd <;> revert hd <;> decide
  have n2 : d ≠ 111 := by rintro rfl; rcases hd with hd | hd | hd | hd <;> revert hd <;> decide
  have n3 : d ≠ 120 := by rintro rfl; rcases hd with hd | hd | hd | hd <;> revert hd <;> decide
  rw [bigs.baseCut, if_neg n1, if_neg n2, if_neg n3]
  split <;> rfl
theorem body_bad {l : List UInt8} (h : ∀ c ∈ l, okNum c) (hb : ∃ c ∈ l, c = 46 ∨ c = 101) (q : Bool) : bigs.bodyRes q (bigs.baseCut l).1 (bigs.baseCut l).2 = (0, 4) := by
 rw [base_ok l h]
 obtain ⟨c, hc, h1⟩ := hb
 have hf : bigs.formG 10 false l = false := by
  rcases h1 with rfl | rfl
  ·exact form_bad (by decide) (by decide) l false hc
  ·exact form_bad (by decide) (by decide) l false hc
 unfold bigs.bodyRes bigs.formedL
 rw [hf, Bool.and_false, if_pos rfl]
theorem frac_word {b : Nat} (hb : b < 18446744073709551616) (hn : (bigs.fparts b).2.2 = 2 → b = 9221120237041090561) {T : List UInt8} (h : TextIs b T) : T ≠ [] ∧ (∀ c ∈ T, isW c = true) ∧ T.length ≤ 30 ∧ WordTo T (3, 0, b, []) 0 := by
 obtain ⟨hlen, hrd⟩ := bigs.text_reads hb h
 have hr : ReadsTo T b 0 := by
  rcases hrd with ⟨a, _, c⟩ | ⟨_, c⟩
  ·rw [hn a]
   exact c
  ·exact c
 have fin : T ≠ [] → (∀ c ∈ T, isW c = true) → (T ≠ [110, 117, 108, 108] ∧ T ≠ [102, 97, 108, 115, 101] ∧ T ≠ [116, 114, 117, 101]) → (numRes T).2 = 4 → (T ≠ [] ∧ (∀ c ∈ T, isW c = true) ∧ T.length ≤ 30 ∧ WordTo T (3, 0, b, []) 0) :=
  fun h1 h2 h3 h4 => ⟨h1, h2, hlen, .inr (.inr (.inr ⟨h3, .inr ⟨h4, b, hr, by rw [if_pos rfl]⟩⟩))⟩
 have hsg : sgL b = [45] ∨ sgL b = [] := by
  unfold sgL
  split
  ·exact .inl rfl
  ·exact .inr rfl
 rcases h with ⟨_, rfl⟩ | ⟨_, rfl⟩ | ⟨_, _, rfl⟩ | ⟨_, _, d, j, ten, _, _, _, e⟩
 ·exact fin (by simp) (by decide) (by decide) (by decide)
 ·rcases hsg with e | e <;> rw [e] at fin ⊢ <;> exact fin (by simp) (by decide) (by decide) (by decide)
 ·rcases hsg with e | e <;> rw [e] at fin ⊢ <;> exact fin (by simp) (by decide) (by decide) (by decide)
 ·obtain ⟨o1, o2⟩ := ok_lay (ok_decs d) (((decs d).length : Int) + ten)
  obtain ⟨c0, q, e0, c1, c2⟩ := bigs.lay_head (d := d) ten
  generalize layL (decs d) (((decs d).length : Int) + ten) = Y at *
  have hw : ∀ c ∈ T, okNum c := by
   rw [e]
   intro c hc
   rcases List.mem_append.1 hc with hc | hc
   ·rcases hsg with e' | e' <;> rw [e'] at hc
    ·rw [List.mem_singleton.1 hc]
     exact .inr (.inr (.inr rfl))
    ·cases hc
   ·exact o1 c hc
  have hne : T ≠ [] := by rw [e, e0]; simp
  have n4 : (numRes T).2 = 4 := by
   unfold numRes
   rw [if_neg (by omega)]
   have hs : (bigs.signCut T).2 = Y := by
    rw [e]
    rcases hsg with e' | e' <;> rw [e']
    ·rfl
    ·rw [List.nil_append, e0]
     show (if c0 = 45 then (true, q) else (false, c0 :: q)).2 = c0 :: q
     rw [if_neg (fun h => by rw [h] at c1; exact absurd c1 (by decide))]
   rw [hs, body_bad o1 o2]
  have hno : ∀ u : List UInt8, (∃ c ∈ u, ¬ okNum c) → T ≠ u := fun u ⟨c, hc, hn⟩ e' => hn (hw c (by rw [e']; exact hc))
  refine fin hne (fun c hc => okNum_isW (hw c hc)) ⟨hno _ ⟨110, by simp, ?_⟩, hno _ ⟨102, by simp, ?_⟩, hno _ ⟨116, by simp, ?_⟩⟩ n4
  all_goals
   intro hd
   rcases hd with hd | hd | hd | hd <;> revert hd <;> decide
theorem num_word {n : Int} (h0 : -9223372036854775808 ≤ n) (h1 : n ≤ 9223372036854775807) : tellB 10 n ≠ [] ∧ (∀ c ∈ tellB 10 n, isW c = true) ∧ WordTo (tellB 10 n) (2, n, 0, []) 0 := by
 have hw : ∀ c ∈ tellB 10 n, okNum c := by
  rw [← bigs.itoa_tell]
  exact ok_itoa n
 have hr := bigs.read_tell (b := 10) (.inr (.inr (.inl rfl))) n h0 h1
 have hno : ∀ u : List UInt8, (∃ c ∈ u, ¬ okNum c) → tellB 10 n ≠ u := fun u ⟨c, hc, hn⟩ e' => hn (hw c (by rw [e']; exact hc))
 have hne : tellB 10 n ≠ [] := by
  intro e
  rw [e] at hr
  have h4 : (numRes []).2 = 0 := by rw [hr]
  exact absurd h4 (by decide)
 refine ⟨hne, fun c hc => okNum_isW (hw c hc), .inr (.inr (.inr ⟨⟨hno _ ⟨110, by simp, ?_⟩, hno _ ⟨102, by simp, ?_⟩, hno _ ⟨116, by simp, ?_⟩⟩, .inl ⟨by rw [hr]; show (0 : Int) ≠ 4; decide, by rw [hr], by rw [if_pos rfl, hr]⟩⟩))⟩
 all_goals
  intro hd
  rcases hd with hd | hd | hd | hd <;> revert hd <;> decide
theorem key_tok {k : List UInt8} (hk : utfs.bad k < 0) : ∃ t : Tok2, (t.1 = 4 ∨ t.1 = 5) ∧ KeyTo t.2 t.1 k 0 ∧ solS (escs.keyT k) = [t] ∧ Sep (escs.keyT k) ∧ (10 : UInt8) ∉ escs.keyT k ∧ (escs.keyT k).length ≤ 6 * k.length + 2 := by
 by_cases hb : escs.bareL k = true
 ·have e : escs.keyT k = k := by unfold escs.keyT; rw [if_pos hb]
  have hb' := hb
  unfold escs.bareL at hb'
  simp only [Bool.and_eq_true, decide_eq_true_eq] at hb'
  have hw : ∀ c ∈ k, isW c = true := fun c hc => by
   have h2 := List.all_eq_true.1 hb'.1.2 c hc
   unfold escs.inK escs.opK at h2
   simp only [Bool.or_eq_true, decide_eq_true_eq] at h2
   unfold isW
   exact decide_eq_true (by omega)
  have hne : k ≠ [] := by
   rintro rfl
   simp at hb'
  obtain ⟨s1, s2⟩ := sep_word hne hw
  refine ⟨(4, k), .inl rfl, ?_, by rw [e]; exact s1, by rw [e]; exact s2, ?_, by rw [e]; omega⟩
  ·unfold KeyTo
   rw [if_pos rfl, if_pos hb]
   exact ⟨rfl, rfl⟩
  ·rw [e]
   intro h10
   exact absurd (hw 10 h10) (by decide)
 ·obtain ⟨g1, g2⟩ := utfs.good_runes hk
  have e : escs.keyT k = escs.quoteL (utfs.runes k) := by
   unfold escs.keyT
   rw [if_neg hb, if_neg (by omega)]
  obtain ⟨s1, s2⟩ := sep_quote g2
  obtain ⟨u1, u2⟩ := unq_quote g2
  refine ⟨(5, escs.quoteL (utfs.runes k)), .inr rfl, ?_, by rw [e]; exact s1, by rw [e]; exact s2, by rw [e]; exact (escs.quoteL_good g2).2, ?_⟩
  ·unfold KeyTo
   rw [if_neg (show ¬ (5 : Nat) = 4 by decide)]
   exact ⟨by rw [u2]; exact g1, u1.symm⟩
  ·rw [e]
   have := escs.quoteL_len g2
   rw [← g1] at this
   exact this
end Go.Proofs.YtnbfnjhbmeocfabGreatDoor.valus
namespace Go.Proofs.YtnbfnjhbmeocfabGreatDoor.valus
open toks (tokK isB isW isM noL runL shutN)
open bigs (tellB TextIs)
theorem sol_in : ∀ (n : Nat) (x : List UInt8), solS (List.replicate n 32 ++ x) = solS x
 | 0, x => rfl
 | n + 1, x => by rw [List.replicate_succ, List.cons_append, sol_blank 32 _ (by decide), sol_in n x]
def segT (many : Bool) : List (List Tok2) → Tok2 → List Tok2
 | [], c => [c]
 | S :: r, c => if many = false ∧ r = [] then S ++ [c] else S ++ (6, [44]) :: segT many r c
theorem sol_comma (c : UInt8) (hc : isM c = true) (x : List UInt8) : ∀ (ps : List (List UInt8)), (∀ p ∈ ps, Sep p) → solS (commaL ps ++ c :: x) = segT false (ps.map solS) (6, [c]) ++ solS x
 | [], _ => by
  show solS (c :: x) = _
  rw [sol_mark c x hc]
  rfl
 | [p], h => by
  have hw : isW c = false := by
   unfold isM at hc
   simp only [Bool.or_eq_true, beq_iff_eq] at hc
   rcases hc with ((((((h | h) | h) | h) | h) | h) | h) <;> (rw [show c = _ from h]; decide)
  show solS (p ++ c :: x) = _
  rw [h p (by simp) _ (noW_cons hw), sol_mark c x hc]
  show _ = (if false = false ∧ ([] : List (List Tok2)) = [] then solS p ++ [(6, [c])] else _) ++ solS x
  rw [if_pos ⟨rfl, rfl⟩]
  simp
 | p :: q :: r, h => by
  have ih := sol_comma c hc x (q :: r) (fun y hy => h y (by simp [hy]))
  have e : commaL (p :: q :: r) ++ c :: x = p ++ 44 :: 32 :: (commaL (q :: r) ++ c :: x) := by
   show (p ++ 44 :: 32 :: commaL (q :: r)) ++ c :: x = _
   simp
  rw [e, h p (by simp) _ (noW_cons (by decide)), sol_mark 44 _ (by decide), sol_blank 32 _ (by decide), ih]
  show _ = (if false = false ∧ (q :: r).map solS = [] then _ else solS p ++ (6, [44]) :: segT false ((q :: r).map solS) (6, [c])) ++ solS x
  rw [if_neg (by simp)]
  simp
theorem sol_lines (c : UInt8) (hc : isM c = true) (d : Nat) (x : List UInt8) : ∀ (ps : List (List UInt8)), (∀ p ∈ ps, Sep p) → solS (linesL d ps ++ 10 :: (inL d ++ c :: x)) = segT true (ps.map solS) (6, [c]) ++ solS x
 | [], _ => by
  show solS (10 :: (inL d ++ c :: x)) = _
  rw [sol_line, inL, sol_in, sol_mark c x hc]
  rfl
 | p :: r, h => by
  have ih := sol_lines c hc d x r (fun y hy => h y (by simp [hy]))
  have e : linesL d (p :: r) ++ 10 :: (inL d ++ c :: x) = 10 :: (inL (d + 1) ++ (p ++ 44 :: (linesL d r ++ 10 :: (inL d ++ c :: x)))) := by
   unfold linesL lineP
   simp
  rw [e, sol_line, inL, sol_in, h p (by simp) _ (noW_cons (by decide)), sol_mark 44 _ (by decide)]
  rw [ih]
  show _ = (if true = false ∧ _ then _ else solS p ++ (6, [44]) :: segT true (r.map solS) (6, [c])) ++ solS x
  rw [if_neg (fun h => by cases h.1)]
  simp
theorem sol_betw (many : Bool) (d : Nat) (c : UInt8) (hc : isM c = true) (x : List UInt8) (ps : List (List UInt8)) (h : ∀ p ∈ ps, Sep p) : solS (betwL many d ps ++ c :: x) = segT many (ps.map solS) (6, [c]) ++ solS x := by
 unfold betwL
 cases many with
 | false => rw [if_neg (by decide)]; exact sol_comma c hc x ps h
 | true =>
  rw [if_pos rfl]
  by_cases h0 : ps = []
  ·rw [if_pos h0, h0]
   show solS (c :: x) = _
   rw [sol_mark c x hc]
   rfl
  ·rw [if_neg h0]
   have e : (linesL d ps ++ 10 :: inL d) ++ c :: x = linesL d ps ++ 10 :: (inL d ++ c :: x) := by simp
   rw [e]
   exact sol_lines c hc d x ps h
theorem sep_betw (many : Bool) (d : Nat) (o c : UInt8) (ho : isM o = true) (hc : isM c = true) (ps : List (List UInt8)) (h : ∀ p ∈ ps, Sep p) : solS (o :: (betwL many d ps ++ [c])) = (6, [o]) :: segT many (ps.map solS) (6, [c]) ∧ Sep (o :: (betwL many d ps ++ [c])) := by
 have h0 : ∀ x, solS ((o :: (betwL many d ps ++ [c])) ++ x) = (6, [o]) :: (segT many (ps.map solS) (6, [c]) ++ solS x) := fun x => by
  have e : (o :: (betwL many d ps ++ [c])) ++ x = o :: (betwL many d ps ++ c :: x) := by simp
  rw [e, sol_mark o _ ho, sol_betw many d c hc x ps h]
 have h1 : solS (o :: (betwL many d ps ++ [c])) = (6, [o]) :: segT many (ps.map solS) (6, [c]) := by
  have := h0 []
  rw [List.append_nil] at this
  rw [this]
  show (6, [o]) :: (_ ++ []) = _
  rw [List.append_nil]
 exact ⟨h1, fun x _ => by rw [h0, h1]; rfl⟩
theorem segL_told (many : Bool) {G : List Tok2 → V → Prop} (g : V → List UInt8) : ∀ (vs : List V), (∀ v ∈ vs, G (solS (g v)) v ∧ solS (g v) ≠ []) → SegL G vs (segT many ((vs.map g).map solS) (6, [93]))
 | [], _ => rfl
 | v :: vs, h => by
  obtain ⟨h1, h2⟩ := h v (by simp)
  have ih := segL_told many g vs (fun y hy => h y (by simp [hy]))
  show SegL G (v :: vs) (if many = false ∧ (vs.map g).map solS = [] then solS (g v) ++ [(6, [93])] else solS (g v) ++ (6, [44]) :: segT many ((vs.map g).map solS) (6, [93]))
  by_cases hc : many = false ∧ (vs.map g).map solS = []
  ·rw [if_pos hc]
   have hv : vs = [] := by simpa using hc.2
   exact ⟨_, _, [], h2, h1, rfl, .inr ⟨rfl, hv, rfl⟩⟩
  ·rw [if_neg hc]
   exact ⟨_, _, _, h2, h1, rfl, .inl ⟨rfl, ih⟩⟩
theorem segE_told (many : Bool) {G : List Tok2 → V → Prop} (g : V → List UInt8) : ∀ (es : List V) (keys : List (List UInt8)), (keys ++ es.map (fun e => (opnE e).1)).Nodup → (∀ e ∈ es, ∃ kt y, e = ent (opnE e).1 y ∧ (kt.1 = 4 ∨ kt.1 = 5) ∧ KeyTo kt.2 kt.1 (opnE e).1 0 ∧ ∃ sv, G sv y ∧ solS (g e) = kt :: (6, [58]) :: sv) → SegE G keys es (segT many ((es.map g).map solS) (6, [125]))
 | [], _, _, _ => rfl
 | e :: es, keys, hn, h => by
  obtain ⟨kt, y, h1, h2, h3, sv, h4, h5⟩ := h e (by simp)
  have ih := segE_told many g es (keys ++ [(opnE e).1]) (by rw [List.append_assoc]; exact hn) (fun y hy => h y (by simp [hy]))
  have hk : (opnE e).1 ∉ keys := by
   rw [List.nodup_append] at hn
   intro hm
   exact hn.2.2 _ hm _ (by simp) rfl
  show SegE G keys (e :: es) (if many = false ∧ (es.map g).map solS = [] then solS (g e) ++ [(6, [125])] else solS (g e) ++ (6, [44]) :: segT many ((es.map g).map solS) (6, [125]))
  by_cases hc : many = false ∧ (es.map g).map solS = []
  ·rw [if_pos hc]
   have hv : es = [] := by simpa using hc.2
   exact ⟨kt, (6, [58]), sv, (6, [125]), [], (opnE e).1, y, h2, h3, hk, .inl rfl, h4, h1, by rw [h5]; rfl, .inr ⟨rfl, hv, rfl⟩⟩
  ·rw [if_neg hc]
   exact ⟨kt, (6, [58]), sv, (6, [44]), _, (opnE e).1, y, h2, h3, hk, .inl rfl, h4, h1, by rw [h5]; rfl, .inl ⟨rfl, ih⟩⟩
theorem keysF_good : ∀ (l : List (List UInt8)) (p : Option (List UInt8)), keysF p l = 0 → (∀ k ∈ l, utfs.bad k < 0) ∧ l.Pairwise (fun a b => cmpB a b = .lt) ∧ ∀ q, p = some q → ∀ k ∈ l, cmpB q k = .lt
 | [], _, _ => ⟨fun _ h => by (cases h), List.Pairwise.nil, fun _ _ _ h => by (cases h)⟩
 | x :: r, p, h => by
  have h' : (if keyF p x = 0 then keysF (some x) r else keyF p x) = 0 := h
  by_cases h0 : keyF p x = 0
  ·rw [if_pos h0] at h'
   obtain ⟨i1, i2, i3⟩ := keysF_good r (some x) h'
   unfold keyF at h0
   by_cases h1 : 100 < x.length
   ·rw [if_pos h1] at h0
    cases h0
   ·rw [if_neg h1] at h0
    by_cases h2 : 0 ≤ utfs.bad x
    ·rw [if_pos h2] at h0
     cases h0
    ·rw [if_neg h2] at h0
     refine ⟨fun k hk => ?_, List.Pairwise.cons (i3 x rfl) i2, fun q hq k hk => ?_⟩
     ·rcases List.mem_cons.1 hk with rfl | hk
      ·omega
      ·exact i1 k hk
     ·subst hq
      have hl : cmpB q x = .lt := by
       unfold aheadF at h0
       simp only at h0
       by_cases hb : Op.bytesLess q x = true
       ·rw [less_cmp] at hb
        exact of_decide_eq_true hb
       ·rw [if_neg hb] at h0
        cases h0
      rcases List.mem_cons.1 hk with rfl | hk
      ·exact hl
      ·exact cmpB_trans hl (i3 x rfl k hk)
  ·rw [if_neg h0] at h'
   exact absurd h' h0
theorem one_parts {v : V} (h : oneV v = 0) : ((bigs.fparts (opn v).1.2.2.1).2.2 = 2 → (opn v).1.2.2.1 = 9221120237041090561) ∧ utfs.bad (opn v).1.2.2.2 < 0 ∧ keysF none (keysV (opn v).2.2) = 0 := by
 unfold oneV at h
 by_cases hk : KindOk (opn v).1.1 (opn v).1.2.1 (opn v).1.2.2.1 (opn v).1.2.2.2 (opn v).2.1.length (opn v).2.2.length
 ·rw [if_neg (fun h => h hk)] at h
  split at h
  ·cases h
  ·split at h
   ·cases h
   ·rename_i hu
    exact ⟨hk.2.2.2.2.2.2.2, by omega, h⟩
 ·rw [if_pos hk] at h
  cases h
theorem told_gr {F : Nat → List UInt8} (hF : ∀ b, b < 18446744073709551616 → TextIs b (F b)) (many : Bool) : ∀ (f d : Nat) (v : V), IsV f v → GoodV f v → faultV oneV v = 0 → Gr f (solS (toldV F many f d v)) v ∧ Sep (toldV F many f d v)
 | 0, _, _, h, _, _ => h.elim
 | f + 1, d, v, hI, hG, h0 => by
  obtain ⟨⟨k, n, b, s⟩, L, E, rfl, hb, hL, hE⟩ := hI
  obtain ⟨o, _, gL, gE⟩ := hG
  obtain ⟨p1, p2, p3⟩ := one_parts (good_one h0)
  rw [opn_mk] at o gL gE p1 p2 p3
  simp only at gL gE p1 p2 p3 hb
  have o1 := o.k
  have o2 := o.n
  have o3 := o.b
  have o4 := o.i
  have o5 := o.f
  have o6 := o.s
  have o7 := o.l
  have o8 := o.e
  simp only at o1 o2 o3 o4 o5 o6 o7 o8
  have hLg : ∀ y ∈ L, faultV oneV y = 0 := fun y hy => good_part h0 (by rw [parts_mk]; exact List.mem_append_left _ hy)
  have hEg : ∀ e ∈ E, faultV oneV (opnE e).2 = 0 := fun e he => good_part h0 (by rw [parts_mk]; exact List.mem_append_right _ (List.mem_map.2 ⟨e, he, rfl⟩))
  have hEI : ∀ e ∈ E, e = ent (opnE e).1 (opnE e).2 ∧ IsV f (opnE e).2 := fun e he => by
   obtain ⟨k', y, rfl, hy⟩ := hE e he
   exact ⟨by rw [opnE_ent], by rw [opnE_ent]; exact hy⟩
  by_cases k5 : k = 5
  ·subst k5
   have e1 : n = 0 := by have := mt o2 (by omega); omega
   have e2 : b = 0 := by have := mt o5 (by omega); omega
   have e3 : s = [] := Classical.byContradiction fun e => by have := o6 e; omega
   have e4 : E = [] := Classical.byContradiction fun e => by have := o8 e; omega
   subst e1 e2 e3 e4
   have et : toldV F many (f + 1) d (mkV (5, 0, 0, []) L []) = 91 :: (betwL many d (L.map (toldV F many f (d + 1))) ++ [93]) := by
    rw [toldV, opn_mk, if_pos rfl]
   have ih := fun y (hy : y ∈ L) => told_gr hF many f (d + 1) y (hL y hy) (gL y hy) (hLg y hy)
   obtain ⟨s1, s2⟩ := sep_betw many d 91 93 (by decide) (by decide) (L.map (toldV F many f (d + 1))) (fun p hp => by
    obtain ⟨y, hy, rfl⟩ := List.mem_map.1 hp
    exact (ih y hy).2)
   rw [et]
   exact ⟨.inr (.inl ⟨_, L, s1, segL_told many _ L (fun y hy => ⟨(ih y hy).1, gr_ne (ih y hy).1⟩), rfl⟩), s2⟩
  ·by_cases k6 : k = 6
   ·subst k6
    have e1 : n = 0 := by have := mt o2 (by omega); omega
    have e2 : b = 0 := by have := mt o5 (by omega); omega
    have e3 : s = [] := Classical.byContradiction fun e => by have := o6 e; omega
    have e4 : L = [] := Classical.byContradiction fun e => by have := o7 e; omega
    subst e1 e2 e3 e4
    have et : toldV F many (f + 1) d (mkV (6, 0, 0, []) [] E) = 123 :: (betwL many d (E.map (fun e => entT (opnE e).1 (toldV F many f (d + 1) (opnE e).2))) ++ [125]) := by
     rw [toldV, opn_mk, if_neg (show ¬ (6 : Int) = 5 by decide), if_pos rfl]
    have ih := fun e (he : e ∈ E) => told_gr hF many f (d + 1) (opnE e).2 (hEI e he).2 (gE e he) (hEg e he)
    obtain ⟨kg, ka, _⟩ := keysF_good _ _ p3
    have hone : ∀ e ∈ E, ∃ kt : Tok2, (kt.1 = 4 ∨ kt.1 = 5) ∧ KeyTo kt.2 kt.1 (opnE e).1 0 ∧ solS (entT (opnE e).1 (toldV F many f (d + 1) (opnE e).2)) = kt :: (6, [58]) :: solS (toldV F many f (d + 1) (opnE e).2) ∧ Sep (entT (opnE e).1 (toldV F many f (d + 1) (opnE e).2)) := fun e he => by
     obtain ⟨t, t1, t2, t3, t4, _⟩ := key_tok (kg (opnE e).1 (List.mem_map.2 ⟨e, he, rfl⟩))
     have all : ∀ x, NoW x → solS (entT (opnE e).1 (toldV F many f (d + 1) (opnE e).2) ++ x) = t :: (6, [58]) :: (solS (toldV F many f (d + 1) (opnE e).2) ++ solS x) := fun x hx => by
      unfold entT
      rw [List.append_assoc, List.cons_append, List.cons_append, t4 _ (noW_cons (by decide)), t3, sol_mark 58 _ (by decide), sol_blank 32 _ (by decide), (ih e he).2 x hx]
      rfl
     have h1 := all [] noW_nil
     rw [List.append_nil] at h1
     have h2 : solS ([] : List UInt8) = [] := rfl
     rw [h2, List.append_nil] at h1
     exact ⟨t, t1, t2, h1, fun x hx => by rw [all x hx, h1]; rfl⟩
    obtain ⟨s1, s2⟩ := sep_betw many d 123 125 (by decide) (by decide) (E.map (fun e => entT (opnE e).1 (toldV F many f (d + 1) (opnE e).2))) (fun p hp => by
     obtain ⟨e, he, rfl⟩ := List.mem_map.1 hp
     obtain ⟨_, _, _, _, h⟩ := hone e he
     exact h)
    rw [et]
    refine ⟨.inr (.inr ⟨_, E, E, s1, segE_told many _ E [] ?_ (fun e he => ?_), .refl _, ?_, rfl⟩), s2⟩
    ·rw [List.nil_append]
     exact ka.imp (fun {a b} h e => by rw [e, cmpB_refl] at h; cases h)
    ·obtain ⟨kt, h1, h2, h3, _⟩ := hone e he
     exact ⟨kt, (opnE e).2, (hEI e he).1, h1, h2, _, (ih e he).1, h3⟩
    ·unfold AscE
     unfold keysV at ka
     rw [List.pairwise_map] at ka
     exact ka
   ·have e4 : L = [] := Classical.byContradiction fun e => k5 (o7 e)
    have e5 : E = [] := Classical.byContradiction fun e => k6 (o8 e)
    subst e4 e5
    have et : toldV F many (f + 1) d (mkV (k, n, b, s) [] []) = leafT F (k, n, b, s) := by
     rw [toldV, opn_mk, if_neg k5, if_neg k6]
    rw [et]
    have word : ∀ T : List UInt8, leafT F (k, n, b, s) = T → T ≠ [] → (∀ c ∈ T, isW c = true) → WordTo T (k, n, b, s) 0 → Gr (f + 1) (solS (leafT F (k, n, b, s))) (mkV (k, n, b, s) [] []) ∧ Sep (leafT F (k, n, b, s)) := fun T e h1 h2 h3 => by
     rw [e]
     obtain ⟨s1, s2⟩ := sep_word h1 h2
     refine ⟨.inl ⟨4, T, (k, n, b, s), s1, .inl rfl, ?_, rfl⟩, s2⟩
     unfold LeafTo
     rw [if_pos rfl]
     exact h3
    have hk : k = 0 ∨ k = 1 ∨ k = 2 ∨ k = 3 ∨ k = 4 := by omega
    rcases hk with rfl | rfl | rfl | rfl | rfl
    ·have e1 : n = 0 := by have := mt o2 (by omega); omega
     have e2 : b = 0 := by have := mt o5 (by omega); omega
     have e3 : s = [] := Classical.byContradiction fun e => by have := o6 e; omega
     subst e1 e2 e3
     exact word [110, 117, 108, 108] rfl (by simp) (by decide) (.inl ⟨rfl, rfl, rfl⟩)
    ·have e2 : b = 0 := by have := mt o5 (by omega); omega
     have e3 : s = [] := Classical.byContradiction fun e => by have := o6 e; omega
     subst e2 e3
     rcases o3 rfl with rfl | rfl
     ·exact word [102, 97, 108, 115, 101] rfl (by simp) (by decide) (.inr (.inl ⟨rfl, rfl, rfl⟩))
     ·exact word [116, 114, 117, 101] rfl (by simp) (by decide) (.inr (.inr (.inl ⟨rfl, rfl, rfl⟩)))
    ·have e2 : b = 0 := by have := mt o5 (by omega); omega
     have e3 : s = [] := Classical.byContradiction fun e => by have := o6 e; omega
     subst e2 e3
     obtain ⟨q1, q2, q3⟩ := num_word o4.1 o4.2
     exact word (tellB 10 n) rfl q1 q2 q3
    ·have e1 : n = 0 := by have := mt o2 (by omega); omega
     have e3 : s = [] := Classical.byContradiction fun e => by have := o6 e; omega
     subst e1 e3
     obtain ⟨q1, q2, _, q3⟩ := frac_word hb p1 (hF b hb)
     exact word (F b) rfl q1 q2 q3
    ·have e1 : n = 0 := by have := mt o2 (by omega); omega
     have e2 : b = 0 := by have := mt o5 (by omega); omega
     subst e1 e2
     obtain ⟨g1, g2⟩ := utfs.good_runes p2
     have e : leafT F (4, 0, 0, s) = escs.quoteL (utfs.runes s) := by
      show escs.quoT s = _
      unfold escs.quoT
      rw [if_neg (by omega)]
     rw [e]
     obtain ⟨s1, s2⟩ := sep_quote g2
     obtain ⟨u1, u2⟩ := unq_quote g2
     refine ⟨.inl ⟨5, _, (4, 0, 0, s), s1, .inr rfl, ?_, rfl⟩, s2⟩
     unfold LeafTo
     rw [if_neg (by decide)]
     refine ⟨u1.symm, ?_⟩
     rw [if_pos rfl, u2, ← g1]
end Go.Proofs.YtnbfnjhbmeocfabGreatDoor.valus
namespace Go.Proofs.YtnbfnjhbmeocfabGreatDoor.valus
open bigs (tellB TextIs)
def lensOf (K : Nat) : List (List UInt8) → Nat
 | [] => 0
 | p :: r => p.length + K + lensOf K r
theorem comma_len (K : Nat) (hK : 2 ≤ K) : ∀ ps : List (List UInt8), (commaL ps).length ≤ lensOf K ps
 | [] => Nat.le_refl _
 | [p] => by show p.length ≤ p.length + K + 0; omega
 | p :: q :: r => by
  have ih := comma_len K hK (q :: r)
  show (p ++ 44 :: 32 :: commaL (q :: r)).length ≤ p.length + K + lensOf K (q :: r)
  rw [List.length_append, List.length_cons, List.length_cons]
  omega
theorem lines_len (d K : Nat) (hK : 2 * d + 4 ≤ K) : ∀ ps : List (List UInt8), (linesL d ps).length ≤ lensOf K ps
 | [] => Nat.le_refl _
 | p :: r => by
  have ih := lines_len d K hK r
  have e : linesL d (p :: r) = lineP d p ++ linesL d r := rfl
  show (linesL d (p :: r)).length ≤ p.length + K + lensOf K r
  rw [e, List.length_append, lineP_len]
  omega
theorem betw_len (many : Bool) (d K : Nat) (hK : 2 * d + 4 ≤ K) (ps : List (List UInt8)) : (betwL many d ps).length ≤ lensOf K ps + K := by
 unfold betwL
 cases many with
 | false =>
  rw [if_neg (by decide)]
  have := comma_len K (by omega) ps
  omega
 | true =>
  rw [if_pos rfl]
  by_cases h : ps = []
  ·rw [if_pos h, List.length_nil]
   omega
  ·rw [if_neg h, List.length_append, List.length_cons, inL_len]
   have := lines_len d K hK ps
   omega
theorem lens_le (K : Nat) (g : V → List UInt8) (q : V → V) (c : V → Nat) : ∀ vs : List V, (∀ v ∈ vs, (g v).length + K ≤ 30000 * c (q v)) → lensOf K (vs.map g) ≤ 30000 * sumOf c (vs.map q)
 | [], _ => Nat.le_refl _
 | v :: vs, h => by
  have ih := lens_le K g q c vs (fun x hx => h x (by simp [hx]))
  have h1 := h v (by simp)
  have e : sumOf c ((v :: vs).map q) = c (q v) + sumOf c (vs.map q) := rfl
  show (g v).length + K + lensOf K (vs.map g) ≤ _
  rw [e]
  omega
theorem shown_len {F : Nat → List UInt8} (hF : ∀ b, b < 18446744073709551616 → TextIs b (F b)) (many : Bool) : ∀ (f d : Nat) (v : V), IsV f v → GoodV f v → faultV oneV v = 0 → d + f ≤ 90 → (toldV F many f d v).length + 1000 ≤ 30000 * nodesV f v
 | 0, _, _, h, _, _, _ => h.elim
 | f + 1, d, v, hI, hG, h0, hd => by
  obtain ⟨⟨k, n, b, s⟩, L, E, rfl, hb, hL, hE⟩ := hI
  obtain ⟨o, ⟨ho1, ho2⟩, gL, gE⟩ := hG
  obtain ⟨p1, p2, p3⟩ := one_parts (good_one h0)
  rw [opn_mk] at o ho1 ho2 gL gE p1 p2 p3
  simp only at ho1 ho2 gL gE p1 p2 p3 hb
  have en : nodesV (f + 1) (mkV (k, n, b, s) L E) = sumOf (nodesV f) (L ++ E.map (fun e => (opnE e).2)) + 1 := rfl
  rw [en, sumOf_append]
  have hLg : ∀ y ∈ L, faultV oneV y = 0 := fun y hy => good_part h0 (by rw [parts_mk]; exact List.mem_append_left _ hy)
  have hEg : ∀ e ∈ E, faultV oneV (opnE e).2 = 0 := fun e he => good_part h0 (by rw [parts_mk]; exact List.mem_append_right _ (List.mem_map.2 ⟨e, he, rfl⟩))
  have hEI : ∀ e ∈ E, IsV f (opnE e).2 := fun e he => by
   obtain ⟨k', y, rfl, hy⟩ := hE e he
   rw [opnE_ent]
   exact hy
  rw [toldV, opn_mk]
  simp only
  by_cases k5 : k = 5
  ·rw [if_pos k5]
   have h1 := betw_len many d 200 (by omega) (L.map (toldV F many f (d + 1)))
   have h2 := lens_le 200 (toldV F many f (d + 1)) id (nodesV f) L (fun y hy => by have := shown_len hF many f (d + 1) y (hL y hy) (gL y hy) (hLg y hy) (by omega); show _ ≤ 30000 * nodesV f y; omega)
   rw [List.map_id] at h2
   simp only [List.length_cons, List.length_append, List.length_nil]
   omega
  ·rw [if_neg k5]
   by_cases k6 : k = 6
   ·rw [if_pos k6]
    obtain ⟨kg, _, _⟩ := keysF_good _ _ p3
    have h1 := betw_len many d 200 (by omega) (E.map (fun e => entT (opnE e).1 (toldV F many f (d + 1) (opnE e).2)))
    have h2 := lens_le 200 (fun e => entT (opnE e).1 (toldV F many f (d + 1) (opnE e).2)) (fun e => (opnE e).2) (nodesV f) E (fun e he => by
     have := shown_len hF many f (d + 1) (opnE e).2 (hEI e he) (gE e he) (hEg e he) (by omega)
     obtain ⟨_, _, _, _, _, _, hkl⟩ := key_tok (kg (opnE e).1 (List.mem_map.2 ⟨e, he, rfl⟩))
     have := ho2 e he
     unfold entT
     simp only [List.length_append, List.length_cons]
     omega)
    simp only [List.length_cons, List.length_append, List.length_nil]
    omega
   ·rw [if_neg k6]
    have hl : (leafT F (k, n, b, s)).length ≤ 24002 := by
     unfold leafT
     simp only
     split
     ·split <;> simp
     ·split
      ·have := bigs.tell_len (b := 10) (.inr (.inr (.inl rfl))) n o.i.1 o.i.2
       omega
      ·split
       ·have := (bigs.text_reads hb (hF b hb)).1
        omega
       ·split
        ·obtain ⟨g1, g2⟩ := utfs.good_runes p2
         unfold escs.quoT
         rw [if_neg (by omega)]
         have := escs.quoteL_len g2
         rw [← g1] at this
         omega
        ·simp
    omega
end Go.Proofs.YtnbfnjhbmeocfabGreatDoor.valus
