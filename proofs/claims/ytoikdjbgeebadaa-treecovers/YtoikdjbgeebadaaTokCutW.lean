/- The walks of package tok: the next token, Cut, Solid. -/
import Derived.Test.YtoikdjbgeebadaaTokNextW
set_option linter.unusedVariables false
namespace Go.Proofs.Ytoikdjbgeebadaa.toks
open Go.RowKit

/-- What the cutter knows behind a token, and what has changed. -/
def Went (w w' : World) (B : Nat) (s : ByteArray) (a : Nat) : Prop := ∃ (m : Nat) (b : Bool), Ctr w' B s m b ∧ m ≤ s.size ∧ NoText s.data.toList a m ∧ NoNote s.data.toList a b ∧ w.grownBy w' (some B)
set_option maxHeartbeats 4000000 in
set_option maxRecDepth 100000 in
theorem next_any (w : World) (B : Nat) (s : ByteArray) (m : Nat) (b : Bool) (a : Nat) (ha : a < s.size) (hs : s.size ≤ 20000) (hc : Ctr w B s m b) (hm : m ≤ s.size) (hT : NoText s.data.toList a m) (hN : NoNote s.data.toList a b) (hM : MaxOk w) :
    Calls Try.prog 22 #[.pointer (some ⟨B, 0, none⟩), .int .i64 (a : Int)] w fun e w' =>
      e = .returned (.tuple #[.int .i64 (((tokK (s.data.toList.drop a)).1 : Nat) : Int), .int .i64 ((a + (tokK (s.data.toList.drop a)).2 : Nat) : Int)]) ∧ Went w w' B s a := by
  have hl : a < s.data.toList.length := by rw [len_list]; exact ha
  have G0 : Hid (Went w w B s a) := hide ⟨m, b, hc, hm, hT, hN, grown_refl _ _⟩
  have c0 := hc.cell 0 _ rfl
  have KB := hide (isBlank_any w (s[a]'ha))
  by_cases c1 : isB (s[a]'ha) = true
  · have E := hide (tok_blank hl c1)
    have KR := hide (runB_any w B s m b a (Nat.le_of_lt ha) hs hc)
    rw [c1] at KB
    clear hc hT hN hM c1
    go_enter Try.func22, Try.ntmps22
    go_wp2_with fail
    refine (unhide KB).mono ?_
    rintro e w2 ⟨rfl, hw⟩
    rw [hw]
    clear hw KB
    go_wp2_with fail
    refine (unhide KR).mono ?_
    rintro e w2 ⟨rfl, hw⟩
    rw [hw]
    clear hw KR
    go_wp2
    go_ret2
    rw [unhide E]
    exact ⟨rfl, unhide G0⟩
  have c1 : isB (s[a]'ha) = false := by simpa using c1
  rw [c1] at KB
  by_cases c2 : s[a]'ha = 10
  · have E := hide (tok_line hl c1 c2)
    have i2 : (((s[a]'ha).toNat : Int) == 10) = true := b_eq 10 c2
    clear hc hT hN hM c1 c2
    go_enter Try.func22, Try.ntmps22
    go_wp2_with fail
    refine (unhide KB).mono ?_
    rintro e w2 ⟨rfl, hw⟩
    rw [hw]
    clear hw KB
    go_wp2
    go_ret2
    rw [unhide E]
    exact ⟨by go_num, unhide G0⟩
  have i2 : (((s[a]'ha).toNat : Int) == 10) = false := b_ne 10 c2
  by_cases c3 : s[a]'ha = 35
  · have E := hide (tok_note hl c1 c2 c3)
    have i3 : (((s[a]'ha).toNat : Int) == 35) = true := b_eq 35 c3
    have KL := hide (line_any w B s m b a (Nat.le_of_lt ha) hs hc)
    clear hc hT hN hM c1 c2 c3
    go_enter Try.func22, Try.ntmps22
    go_wp2_with fail
    refine (unhide KB).mono ?_
    rintro e w2 ⟨rfl, hw⟩
    rw [hw]
    clear hw KB
    go_wp2_with fail
    refine (unhide KL).mono ?_
    rintro e w2 ⟨rfl, hw⟩
    rw [hw]
    clear hw KL
    go_wp2
    go_ret2
    rw [unhide E]
    exact ⟨rfl, unhide G0⟩
  have i3 : (((s[a]'ha).toNat : Int) == 35) = false := b_ne 35 c3
  have KW := hide (inWord_any w (s[a]'ha))
  by_cases c4 : isW (s[a]'ha) = true
  · have E := hide (tok_word hl c1 c2 c3 c4)
    have KR := hide (runW_any w B s m b a (Nat.le_of_lt ha) hs hc)
    rw [c4] at KW
    clear hc hT hN hM c1 c2 c3 c4
    go_enter Try.func22, Try.ntmps22
    go_wp2_with fail
    refine (unhide KB).mono ?_
    rintro e w2 ⟨rfl, hw⟩
    rw [hw]
    clear hw KB
    go_wp2_with fail
    refine (unhide KW).mono ?_
    rintro e w2 ⟨rfl, hw⟩
    rw [hw]
    clear hw KW
    go_wp2_with fail
    refine (unhide KR).mono ?_
    rintro e w2 ⟨rfl, hw⟩
    rw [hw]
    clear hw KR
    go_wp2
    go_ret2
    rw [unhide E]
    exact ⟨rfl, unhide G0⟩
  have c4 : isW (s[a]'ha) = false := by simpa using c4
  rw [c4] at KW
  have KM := hide (isMark_any w (s[a]'ha))
  by_cases c5 : isM (s[a]'ha) = true
  · have E := hide (tok_mark hl c1 c2 c3 c4 c5)
    rw [c5] at KM
    clear hc hT hN hM c1 c2 c3 c4 c5
    go_enter Try.func22, Try.ntmps22
    go_wp2_with fail
    refine (unhide KB).mono ?_
    rintro e w2 ⟨rfl, hw⟩
    rw [hw]
    clear hw KB
    go_wp2_with fail
    refine (unhide KW).mono ?_
    rintro e w2 ⟨rfl, hw⟩
    rw [hw]
    clear hw KW
    go_wp2_with fail
    refine (unhide KM).mono ?_
    rintro e w2 ⟨rfl, hw⟩
    rw [hw]
    clear hw KM
    go_wp2
    go_ret2
    rw [unhide E]
    exact ⟨by go_num, unhide G0⟩
  have c5 : isM (s[a]'ha) = false := by simpa using c5
  rw [c5] at KM
  have E := hide (tok_else hl c1 c2 c3 c4 c5)
  have KN := hide (note_any w B s m b a ha hs hc hN hM)
  have KT : Hid (∀ w1 b', Ctr w1 B s m b' → _) := hide (fun w1 b' (h : Ctr w1 B s m b') => text_any w1 B s m b' a ha hs h hT hm)
  have HT := hide hT
  clear hc hT hN hM c1 c2 c3 c4 c5
  go_enter Try.func22, Try.ntmps22
  go_wp2_with fail
  refine (unhide KB).mono ?_
  rintro e w2 ⟨rfl, hw⟩
  rw [hw]
  clear hw KB
  go_wp2_with fail
  refine (unhide KW).mono ?_
  rintro e w2 ⟨rfl, hw⟩
  rw [hw]
  clear hw KW
  go_wp2_with fail
  refine (unhide KM).mono ?_
  rintro e w2 ⟨rfl, hw⟩
  rw [hw]
  clear hw KM
  go_wp2_with fail
  refine (unhide KN).mono ?_
  rintro e w1 (⟨rfl, hn, hw⟩ | ⟨rfl, hn, b', hc1, hN1, hg1, hz1⟩)
  · rw [hw]
    have E1 := hide ((unhide E).1 hn)
    clear hw KN hn
    go_wp2
    go_ret2
    rw [unhide E1]
    exact ⟨rfl, unhide G0⟩
  · have KT1 := hide (unhide KT w1 b' hc1)
    have HN := hide hn
    have C1 := hide hc1
    have N1 := hide hN1
    have G1 := hide hg1
    clear KN KT hn hc1 hN1 hg1 hz1 c0
    go_wp2_with fail
    refine (unhide KT1).mono ?_
    rintro e w2 (⟨rfl, hn, hw⟩ | ⟨rfl, hn, m', hc2, hT2, hm2, hg2, hz2⟩)
    · rw [hw]
      have E1 := hide ((unhide E).2.1 hn)
      clear hw KT1 hn
      go_wp2
      go_ret2
      rw [unhide E1]
      exact ⟨rfl, m, b', unhide C1, hm, unhide HT, unhide N1, unhide G1⟩
    · have E1 := hide ((unhide E).2.2 (unhide HN) hn)
      have R : Hid (Went w w2 B s a) := hide ⟨m', b', hc2, hm2, hT2, unhide N1, grown_trans (unhide G1) hg2⟩
      clear KT1 hn hc2 hT2 hg2 hz2
      go_wp2
      go_ret2
      rw [unhide E1]
      exact ⟨by go_num, unhide R⟩
/-- A token as cells; a list of tokens that lies in memory. -/
def tkC (t : Tk) : List Value := [.int .i64 (t.kind : Int), .int .i64 (t.fro : Int), .int .i64 (t.til : Int)]
def RowT (w : World) (a : Option Addr) (l : List Tk) : Prop :=
  l ≠ [] → ∃ b o, a = some ⟨b, o, none⟩ ∧ b < w.heap.size ∧ ∀ j (h : j < l.length), w.cell? ⟨b, o + j * 3, none⟩ = some (.int .i64 (l[j].kind : Int)) ∧ w.cell? ⟨b, o + j * 3 + 1, none⟩ = some (.int .i64 (l[j].fro : Int)) ∧ w.cell? ⟨b, o + j * 3 + 2, none⟩ = some (.int .i64 (l[j].til : Int))
def Toks (w : World) (v : Value) (l : List Tk) : Prop := ∃ a cap, v = .slice a l.length cap ∧ l.length ≤ cap ∧ RowT w a l
theorem RowT.below {w w' : World} {a : Option Addr} {l : List Tk} (h : RowT w a l) (hb : Below w.heap.size w w') : RowT w' a l := by
  intro h0
  obtain ⟨b, o, e, hlt, hc⟩ := h h0
  refine ⟨b, o, e, Nat.lt_of_lt_of_le hlt hb.size, fun j hj => ?_⟩
  rw [hb.cell (p := ⟨b, o + j * 3, none⟩) hlt, hb.cell (p := ⟨b, o + j * 3 + 1, none⟩) hlt, hb.cell (p := ⟨b, o + j * 3 + 2, none⟩) hlt]
  exact hc j hj
theorem Toks.below {w w' : World} {v : Value} {l : List Tk} (h : Toks w v l) (hb : Below w.heap.size w w') : Toks w' v l := by
  obtain ⟨a, cap, e, hc, hr⟩ := h
  exact ⟨a, cap, e, hc, hr.below hb⟩
theorem RowT.take {w : World} {a : Option Addr} {l : List Tk} (h : RowT w a l) (k : Nat) : RowT w a (l.take k) := by
  intro h0
  have hl : l ≠ [] := fun e => h0 (by rw [e, List.take_nil])
  obtain ⟨b, o, e, hlt, hc⟩ := h hl
  refine ⟨b, o, e, hlt, fun j hj => ?_⟩
  have hj' : j < l.length := by rw [List.length_take] at hj; omega
  rw [List.getElem_take]
  exact hc j hj'
theorem flat_len : ∀ l : List Tk, (l.flatMap tkC).length = l.length * 3
  | [] => rfl
  | t :: l => by
    rw [List.flatMap_cons, List.length_append, flat_len l]
    simp [tkC]
    omega
theorem flat_get : ∀ (l : List Tk) (j : Nat) (h : j < l.length), (l.flatMap tkC)[j * 3]? = some (.int .i64 (l[j].kind : Int)) ∧ (l.flatMap tkC)[j * 3 + 1]? = some (.int .i64 (l[j].fro : Int)) ∧ (l.flatMap tkC)[j * 3 + 2]? = some (.int .i64 (l[j].til : Int))
  | [], j, h => by simp at h
  | t :: l, 0, h => by simp [tkC]
  | t :: l, j + 1, h => by
    have ih := flat_get l j (by simpa using h)
    have e : ∀ r, ((t :: l).flatMap tkC)[(j + 1) * 3 + r]? = (l.flatMap tkC)[j * 3 + r]? := fun r => by
      rw [List.flatMap_cons, List.getElem?_append_right (by simp [tkC]; omega)]
      congr 1
      simp [tkC]
      omega
    have e0 := e 0
    rw [Nat.add_zero, Nat.add_zero] at e0
    rw [e0, e 1, e 2]
    exact ih
theorem toks_own {w : World} {base : Nat} {v : Value} {l : List Tk} (h : w.ownsRow base 34 3 v l.length (l.flatMap tkC)) : Toks w v l := by
  have h' := h
  rcases h.2 with ⟨rfl, h0⟩ | ⟨g, cap, cur, rfl, _, hg, hcap, _⟩
  · have : l = [] := List.eq_nil_of_length_eq_zero h0
    subst this
    exact ⟨none, 0, rfl, by simp, fun h => absurd rfl h⟩
  · refine ⟨_, cap, rfl, hcap, fun _ => ⟨g, 0, rfl, (Array.getElem?_eq_some_iff.1 hg).1, fun j hj => ?_⟩⟩
    rw [Nat.zero_add, h'.cellAt (j * 3) (by omega), h'.cellAt (j * 3 + 1) (by omega), h'.cellAt (j * 3 + 2) (by omega)]
    exact flat_get l j hj
theorem own_ge3 {w : World} {base e n : Nat} {v : Value} {xs : List Value} (h : w.ownsRow base e 3 v n xs) : ∀ g, v.ownBlock = some g → base ≤ g := fun g hg => (h.lt g hg).1
theorem own_kept {w w' : World} {base e n B : Nat} {v : Value} {xs : List Value} (h : w.ownsRow base e 3 v n xs) (hg : w.grownBy w' (some B)) (hB : B < base) : w'.ownsRow base e 3 v n xs := by
  refine h.kept hg ?_
  cases hv : v.ownBlock with
  | none => exact .inl rfl
  | some g => exact .inr (fun e => by injection e with e; have := own_ge3 h g hv; omega)
theorem own_not {w : World} {base e n B : Nat} {v : Value} {xs : List Value} (h : w.ownsRow base e 3 v n xs) (hB : B < base) : some B ≠ v.ownBlock := fun e => by
  have := own_ge3 h B e.symm
  omega
theorem infoTok : (Try.prog.info? 34).map (fun i => (i.zero, i.size, i.bytes)) = some (some (.agg #[.int .i64 0, .int .i64 0, .int .i64 0]), 3, 24) := by kernel_rfl
set_option maxHeartbeats 400000 in
theorem cut_large (s : ByteArray) (w : World) (hs : 20000 < s.size) :
    Calls Try.prog 14 #[.string s] w fun e w' => e = .returned (.tuple #[.slice none 0 0, .int .i64 2]) ∧ w' = w := by
  have i1 : (s.size : Int) > 20000 := by omega
  go_enter Try.func14, Try.ntmps14
  go_wp2
  go_ret2
  exact ⟨rfl, rfl⟩
/-- Tokens that are done, and those that are not yet. -/
def Done (l : List UInt8) (p : Nat) (d : List Tk) : Prop := toksL l = d ++ cutP p (l.drop p) ∧ d.length ≤ p
theorem done_zero (l : List UInt8) : Done l 0 [] := ⟨rfl, Nat.le_refl _⟩
theorem done_next {l : List UInt8} {p k n : Nat} {d : List Tk} (h : Done l p d) (hp : p < l.length) (hk : tokK (l.drop p) = (k, n)) : Done l (p + n) (d ++ [⟨k, p, p + n⟩]) := by
  have hne : l.drop p ≠ [] := fun e => by
    have := congrArg List.length e
    rw [List.length_drop, List.length_nil] at this
    omega
  have hz := (tokK_size hne).1
  rw [hk] at hz
  refine ⟨?_, ?_⟩
  · rw [h.1, cutP_cons hne, hk, List.append_assoc, List.drop_drop]
    rfl
  · have := h.2
    simp only at hz
    rw [List.length_append, List.length_singleton]
    omega
theorem done_end {l : List UInt8} {p : Nat} {d : List Tk} (h : Done l p d) (hp : l.length ≤ p) : d = toksL l := by
  rw [h.1, List.drop_of_length_le hp, cutP_nil, List.append_nil]
theorem tok_room {l : List UInt8} {p k n : Nat} (hp : p < l.length) (hk : tokK (l.drop p) = (k, n)) : 1 ≤ n ∧ p + n ≤ l.length ∧ 1 ≤ k ∧ k ≤ 7 := by
  have hne : l.drop p ≠ [] := fun e => by
    have := congrArg List.length e
    rw [List.length_drop, List.length_nil] at this
    omega
  have hz := tokK_size hne
  rw [hk, List.length_drop] at hz
  simp only at hz
  omega
theorem cell_three_new (w : World) (x y z : Value) (t : TypeId) : ∀ j u, [x, y, z][j]? = some u → (w.alloc (.cells #[x, y, z] t)).cell? ((⟨w.heap.size, 0, none⟩ : Addr).add j) = some u :=
  fun j u hu => World.news_of_block (blk_alloc w #[x, y, z] t) j u hu
set_option maxHeartbeats 2000000 in
set_option maxRecDepth 100000 in
theorem cut_any (s : ByteArray) (w : World) (hs : s.size ≤ 20000) (hM : MaxOk w) :
    Calls Try.prog 14 #[.string s] w fun e w' => ∃ v, e = .returned (.tuple #[v, .int .i64 0]) ∧ Toks w' v (toksL s.data.toList) ∧ Below w.heap.size w w' := by
  obtain ⟨i0, hi, hz0, hz1, hz2⟩ := info_parts infoTok
  have i1 : ¬ (s.size : Int) > 20000 := by omega
  have d1 : decide ((s.size : Int) > 20000) = false := decide_eq_false i1
  have HM := hide hM
  have hlt0 := hM.lt
  clear hM
  go_enter Try.func14, Try.ntmps14
  go_wp2_with fail
  go_loopw [4, 6] (fun v i wr => ∃ (p m : Nat) (b : Bool) (D : List Tk), p ≤ s.size ∧ i = .int .i64 p ∧ m ≤ s.size ∧ Hid (Done s.data.toList p D) ∧ Hid (Ctr wr w.heap.size s m b) ∧ Hid (NoText s.data.toList p m) ∧ Hid (NoNote s.data.toList p b) ∧
      wr.ownsRow (w.heap.size + 1) 34 3 v D.length (D.flatMap tkC) ∧ Hid (MaxOk wr) ∧ Below w.heap.size w wr ∧ w.heap.size < wr.heap.size) (fun _ i _ => s.size - (intOf i).toNat)
  case atStart =>
    refine ⟨0, 0, false, [], Nat.zero_le _, rfl, Nat.zero_le _, hide (done_zero _), hide (blk_alloc w _ _), hide (noText_zero _ _), hide (noNote_false _ _), World.ownsRow_nil _ _ _ _, hide ((unhide HM).below (Nat.le_refl _) ((Below.refl _ w).alloc (Nat.le_refl _) _)), (Below.refl _ w).alloc (Nat.le_refl _) _, by simp⟩
  case round =>
    obtain ⟨p, m, b, D, hp, rfl, hm, HD, HC, HT, HN, hown, HMr, hbw, hsz⟩ := hrel
    by_cases hlt : p < s.size
    · have hpl : p < s.data.toList.length := by rw [len_list]; exact hlt
      have KN := hide (next_any wr w.heap.size s m b p hlt hs (unhide HC) hm (unhide HT) (unhide HN) (unhide HMr))
      obtain ⟨k, n, hk⟩ : ∃ k n, tokK (s.data.toList.drop p) = (k, n) := ⟨_, _, rfl⟩
      obtain ⟨hn1, hn2, hk1, hk7⟩ := tok_room hpl hk
      rw [len_list] at hn2
      have hD2 := (unhide HD).2
      have DN := done_next (unhide HD) hpl hk
      rw [hk] at KN
      clear hk HC HT HN HD hpl
      simp only at KN
      generalize hq : p + n = q at *
      have DN := hide DN
      have hqp : p < q := by omega
      clear hq
      go_wp2_with fail
      refine (unhide KN).mono ?_
      rintro e w1 ⟨rfl, m', b', hc1, hm1, hT1, hN1, hg1⟩
      have hown1 := own_kept hown hg1 (Nat.lt_succ_self _)
      have hM1 := (unhide HMr).grown hg1 hlt0
      have hbw1 : Below w.heap.size w w1 := hbw.grown hg1 hbw.size (fun k hk => by injection hk with hk; omega)
      have hsz1 : w.heap.size < w1.heap.size := Nat.lt_of_lt_of_le hsz hg1.size
      have C1 := hide hc1
      have T1 := hide hT1
      have N1 := hide hN1
      have M1 := hide hM1
      clear KN hc1 hT1 hN1 hM1 hg1 hown HMr hbw hsz
      go_wp2_with (at_builtin; refine wpList_append_lies _ rfl _ _ 30 rfl (w.heap.size + 1) 34 i0 (.agg #[.int .i64 0, .int .i64 0, .int .i64 0]) 3 24 Try.underlying30 hi hz0 hz1 hz2 rfl (by decide) _ _ _ rfl (hown1.alloc _) ⟨w1.heap.size, 0, none⟩ 1 1 [.int .i64 (k : Int), .int .i64 (p : Int), .int .i64 (q : Int)] rfl rfl ?c1 ?c2 ?c3 ?c4 ?c5 ?c6 (w1.heap.size + 1) ?c7 ?_)
      case c1 => exact cell_three_new _ _ _ _ _
      case c2 => intro u hu; simp at hu; rcases hu with rfl | rfl | rfl <;> rfl
      case c3 => decide
      case c4 => unfold maxLen; omega
      case c5 => omega
      case c6 => have := hbw1.size; simp; omega
      case c7 => simp
      intro g cap w2 hown2 hg2 hat hlt2
      have hC2 : Hid (Ctr w2 w.heap.size s m' b') := hide (Blk.grown ((unhide C1).alloc _) hg2 (own_not hown1 (Nat.lt_succ_self _)))
      have hbw2 : Below w.heap.size w w2 := (hbw1.alloc hbw1.size _).grown hg2 (by have := hbw1.size; simp; omega) (fun x hx => by have := own_ge3 hown1 x hx; omega)
      have hM2 := hide ((unhide HM).below (Nat.le_refl _) hbw2)
      have hsz2 : w.heap.size < w2.heap.size := by have := hg2.size; simp at this; omega
      have T2 := hide ((unhide T1).on (Nat.le_of_lt hqp))
      have N2 := hide ((unhide N1).on (Nat.le_of_lt hqp))
      clear hg2 hown1 hat C1 T1 N1 M1 hbw1 hsz1
      go_wp2
      go_roundw
      case rel =>
        refine ⟨q, m', b', D ++ [⟨k, p, q⟩], hn2, by rfl, hm1, DN, hC2, T2, N2, ?_, hM2, hbw2, hsz2⟩
        rw [List.flatMap_append, List.length_append]
        exact hown2
      case measure => simp only [intOf]; omega
    · have DE := hide (done_end (unhide HD) (by rw [len_list]; omega))
      go_wp2
      go_ret2
      refine ⟨_, rfl, ?_, hbw⟩
      rw [← unhide DE]
      exact toks_own hown
end Go.Proofs.Ytoikdjbgeebadaa.toks
