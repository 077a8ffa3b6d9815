/- The walks of package tree's reader: what is seen, what is taken, what is refused. -/
import Derived.Test.YtoikdjbgeebadaaTreeRdW
set_option linter.unusedVariables false
namespace Go.Proofs.Ytoikdjbgeebadaa.trees
open Go.RowKit
open toks

theorem Good.byte {s : ByteArray} {l : List Tk} (g : Good s l) (i : Nat) (hi : i < l.length) : s.data.toList.getD l[i].fro 0 = s[l[i].fro]'(g.fro i hi) := by
  have h := g.fro i hi
  rw [List.getD_eq_getElem?_getD, List.getElem?_eq_getElem (by rw [len_list]; exact h)]
  rfl
set_option maxHeartbeats 1000000 in
set_option maxRecDepth 100000 in
theorem take_any (w : World) (B : Nat) (s : ByteArray) (a : Option Addr) (cap : Nat) (l : List Tk) (i d : Nat) (pl er : Int) (hr : Rd w B s (.slice a l.length cap) i d pl er) (ht : TkIn w B a l) (g : Good s l) (hi : i < l.length) :
    Calls Try.prog 54 #[.pointer (some ⟨B, 0, none⟩)] w fun e w' => ∃ j, e = .returned (.int .i64 (i : Int)) ∧ Nxt l (i + 1) j ∧ Rd w' B s (.slice a l.length cap) j d pl er ∧ w.grownBy w' (some B) := by
  have K := hide (goOn_any w B s a cap l i d pl er (i + 1) hr ht g hi)
  have c2 := hr.cell 2 _ rfl
  have hl := g.len
  clear hr ht g
  go_enter Try.func54, Try.ntmps54
  go_wp2_with fail
  refine (unhide K).mono ?_
  rintro e w2 ⟨j, rfl, h1, h2, h3⟩
  have H1 := hide h1
  have H2 := hide h2
  have H3 := hide h3
  clear K h1 h2 h3 c2
  go_wp2
  go_ret
  exact ⟨j, rfl, unhide H1, unhide H2, unhide H3⟩
set_option maxHeartbeats 1000000 in
set_option maxRecDepth 100000 in
theorem seesOne_any (w : World) (B : Nat) (s : ByteArray) (a : Option Addr) (cap : Nat) (l : List Tk) (i d : Nat) (pl er : Int) (ts : List Sym) (hr : Rd w B s (.slice a l.length cap) i d pl er) (ht : TkIn w B a l) (g : Good s l) (hat : At s.data.toList l i ts) :
    Calls Try.prog 45 #[.pointer (some ⟨B, 0, none⟩)] w fun e w' => e = .returned (.bool (seesB ts 120)) ∧ Below w.heap.size w w' := by
  have c1 := hr.cell 1 _ rfl
  have c2 := hr.cell 2 _ rfl
  have hl := g.len
  cases ts with
  | nil =>
    have hi := at_nil hat
    have i1 : (i : Int) ≥ (l.length : Int) := by omega
    have d1 : decide ((i : Int) ≥ (l.length : Int)) = true := decide_eq_true i1
    clear hr ht g hat hi
    go_enter Try.func45, Try.ntmps45
    go_wp2_with fail
    go_quiet (fail)
    go_wp2
    go_ret
    exact ⟨rfl, below_drewN (Below.refl _ _) _⟩
  | cons x r =>
    obtain ⟨hi, hx, hs, h3, _⟩ := at_cons hat
    have hk := sym_one g hi h3
    rw [← hs] at hk
    have E : Hid (seesB (x :: r) 120 = decide (l[i].kind = 4 ∨ l[i].kind = 5)) := hide hk
    have hne : l ≠ [] := fun e => by rw [e] at hi; simp at hi
    obtain ⟨b, o, rfl, hb, q⟩ := ht hne
    obtain ⟨x1, _, _⟩ := q i hi
    have hk7 := g.kind i hi
    have i1 : ¬ (i : Int) ≥ (l.length : Int) := by omega
    have d1 : decide ((i : Int) ≥ (l.length : Int)) = false := decide_eq_false i1
    have i2 : (i : Int) < (l.length : Int) := by omega
    clear hr ht g hat q hs hx hk
    generalize l[i].kind = z at *
    by_cases e4 : z = 4
    · have f4 : ((z : Int) == 4) = true := by rw [e4]; rfl
      rw [decide_eq_true (by omega)] at E
      clear e4
      go_enter Try.func45, Try.ntmps45
      go_wp2_with fail
      go_quiet (fail)
      go_wp2_with fail
      go_quiet (fail)
      go_wp2
      go_ret
      rw [unhide E]
      exact ⟨rfl, below_drewN (Below.refl _ _) _⟩
    · have f4 : ((z : Int) == 4) = false := beq_false_of_ne (by omega)
      by_cases e5 : z = 5
      · have f5 : ((z : Int) == 5) = true := by rw [e5]; rfl
        rw [decide_eq_true (by omega)] at E
        clear e4 e5
        go_enter Try.func45, Try.ntmps45
        go_wp2_with fail
        go_quiet (fail)
        go_wp2_with fail
        go_quiet (fail)
        go_wp2
        go_ret
        rw [unhide E]
        exact ⟨rfl, below_drewN (Below.refl _ _) _⟩
      · have f5 : ((z : Int) == 5) = false := beq_false_of_ne (by omega)
        rw [decide_eq_false (by omega)] at E
        clear e4 e5
        go_enter Try.func45, Try.ntmps45
        go_wp2_with fail
        go_quiet (fail)
        go_wp2_with fail
        go_quiet (fail)
        go_wp2
        go_ret
        rw [unhide E]
        exact ⟨rfl, below_drewN (Below.refl _ _) _⟩
set_option maxHeartbeats 1000000 in
set_option maxRecDepth 100000 in
theorem one_any (w : World) (B : Nat) (s : ByteArray) (a : Option Addr) (cap : Nat) (l : List Tk) (i d : Nat) (pl er : Int) (k : Nat) (hk : k ≤ 6) (hr : Rd w B s (.slice a l.length cap) i d pl er) (ht : TkIn w B a l) (g : Good s l) (hi : i < l.length) :
    Calls Try.prog 50 #[.pointer (some ⟨B, 0, none⟩), .int .i64 (k : Int)] w fun e w' => ∃ j, e = .returned (.agg #[.int .i64 (k : Int), .int .i64 (i : Int), .int .i64 ((i + 1 : Nat) : Int), .slice none 0 0]) ∧ Nxt l (i + 1) j ∧ Rd w' B s (.slice a l.length cap) j d pl er ∧ w.grownBy w' (some B) := by
  have hB := hr.lt
  have K : ∀ u, Below w.heap.size w u → Hid _ := fun u hu => hide (take_any u B s a cap l i d pl er (hr.below hu) (ht.below hu) g hi)
  have hl := g.len
  clear hr ht g
  have K := K _ ((Below.refl _ w).alloc (Nat.le_refl _) (.cells #[.int .i64 0, .int .i64 0, .int .i64 0, .slice none 0 0] 24))
  have cb := blk_alloc w #[.int .i64 0, .int .i64 0, .int .i64 0, .slice none 0 0] 24
  go_enter Try.func50, Try.ntmps50
  go_wp2_with fail
  refine (unhide K).mono ?_
  rintro e w2 ⟨j, rfl, h1, h2, h3⟩
  have H1 := hide h1
  have H2 := hide h2
  have H3 := hide h3
  have cb2 := Blk.grown cb h3 (fun e => by injection e with e; omega)
  obtain ⟨z0, z1, z2, z3⟩ := Blk.cells4 cb2
  obtain ⟨y0, y1, y2, y3⟩ := Blk.froz4 cb2
  have CB := hide cb2
  clear K h1 h2 h3 cb2 cb
  go_wp2
  have hF := put4_blk (unhide CB) (.int .i64 (k : Int)) (.int .i64 (i : Int)) (.int .i64 ((i : Int) + 1)) (.slice none 0 0)
  obtain ⟨f0, f1, f2, f3⟩ := Blk.cells4 hF
  have R1 : Rd _ B s _ j d pl er := put4_other (unhide H2) (c := B) (b := w.heap.size) (by omega) (.int .i64 (k : Int)) (.int .i64 (i : Int)) (.int .i64 ((i : Int) + 1)) (.slice none 0 0)
  have R2 : w.grownBy _ (some B) := put4_grown (grown_trans (grown_alloc (grown_refl w (some B)) _) (unhide H3)) (Nat.le_refl _) (.int .i64 (k : Int)) (.int .i64 (i : Int)) (.int .i64 ((i : Int) + 1)) (.slice none 0 0)
  refine bodyPost_ret (v := .agg #[.int .i64 (k : Int), .int .i64 (i : Int), .int .i64 ((i : Int) + 1), .slice none 0 0]) (by simp [results, Try.results50, go_sem, f0, f1, f2, f3]) rfl ?_
  exact ⟨j, by rw [show ((i + 1 : Nat) : Int) = (i : Int) + 1 by omega], unhide H1, R1, R2⟩
set_option maxHeartbeats 2000000 in
set_option maxRecDepth 100000 in
theorem refuse_any (w : World) (B : Nat) (s : ByteArray) (a : Option Addr) (cap : Nat) (l : List Tk) (i d : Nat) (pl er : Int) (ts : List Sym) (k : Nat) (hk : k ≤ 10) (hr : Rd w B s (.slice a l.length cap) i d pl er) (ht : TkIn w B a l) (g : Good s l) (hat : At s.data.toList l i ts) :
    Calls Try.prog 26 #[.pointer (some ⟨B, 0, none⟩), .int .i64 (k : Int)] w fun e w' => e = .returned (.tuple #[.agg #[.int .i64 0, .int .i64 0, .int .i64 0, .slice none 0 0], .bool false]) ∧ Rd w' B s (.slice a l.length cap) i d (placeOf s l ts : Int) k ∧ w.grownBy w' (some B) := by
  have hB := Blk.lt hr
  have hl := g.len
  have hz := g.size
  have hr0 : Rd ((World.alloc w (.cells #[.int .i64 0, .int .i64 0, .int .i64 0, .slice none 0 0] 24))) B s (.slice a l.length cap) i d pl er := Blk.alloc hr _
  have hr1 := (hr0.place (s.size : Int)).err (k : Int)
  have hcb : Blk ((((World.alloc w (.cells #[.int .i64 0, .int .i64 0, .int .i64 0, .slice none 0 0] 24))).setCell ⟨B, 4, none⟩ (.int .i64 (s.size : Int))).setCell ⟨B, 5, none⟩ (.int .i64 (k : Int))) w.heap.size #[.int .i64 0, .int .i64 0, .int .i64 0, .slice none 0 0] 24 := ((blk_alloc w _ _).set_other _ _ (Nat.ne_of_gt hB)).set_other _ _ (Nat.ne_of_gt hB)
  have hgr : w.grownBy ((((World.alloc w (.cells #[.int .i64 0, .int .i64 0, .int .i64 0, .slice none 0 0] 24))).setCell ⟨B, 4, none⟩ (.int .i64 (s.size : Int))).setCell ⟨B, 5, none⟩ (.int .i64 (k : Int))) (some B) := grown_trans (grown_trans (grown_alloc (grown_refl w (some B)) _) (grown_set _ B 4 _)) (grown_set _ B 5 _)
  have hrm := hr0.place (s.size : Int)
  have u0 := hr0.cell 0 _ rfl
  have u4 := hr0.cell 4 _ rfl
  have v4 := hr0.froz 4
  have u5 := hrm.cell 5 _ rfl
  have v5 := hrm.froz 5
  have HR1 := hide hr1
  have HC := hide hcb
  have HG := hide hgr
  have HB := hide hB
  cases ts with
  | nil =>
    have hi := at_nil hat
    have d1 : decide ((i : Int) < (l.length : Int)) = false := decide_eq_false (by omega)
    have i1 : ¬ (i : Int) < (l.length : Int) := by omega
    clear hr ht g hat hi hr0 hrm hr1 hcb hgr hB
    go_enter Try.func26, Try.ntmps26
    go_wp2_with fail
    clear u0 u4 u5 v4 v5
    generalize hW : ((((World.alloc w (.cells #[.int .i64 0, .int .i64 0, .int .i64 0, .slice none 0 0] 24))).setCell ⟨B, 4, none⟩ (.int .i64 (s.size : Int))).setCell ⟨B, 5, none⟩ (.int .i64 (k : Int))) = w1 at *
    have u1 := Blk.cell (unhide HR1) 1 _ rfl
    have u2 := Blk.cell (unhide HR1) 2 _ rfl
    obtain ⟨z0, z1, z2, z3⟩ := Blk.cells4 (unhide HC)
    obtain ⟨y0, y1, y2, y3⟩ := Blk.froz4 (unhide HC)
    clear hW
    go_quiet (fail)
    go_wp2
    clear z0 z1 z2 z3 y0 y1 y2 y3 u1 u2
    have hF := put4_blk (w := w1.drewN nq) (unhide HC) (.int .i64 0) (.int .i64 0) (.int .i64 0) (.slice none 0 0)
    obtain ⟨f0, f1, f2, f3⟩ := Blk.cells4 hF
    have R1 : Rd _ B s _ i d (placeOf s l [] : Int) k := put4_other (w := w1.drewN nq) (unhide HR1) (c := B) (b := w.heap.size) (Nat.ne_of_lt (unhide HB)) (.int .i64 0) (.int .i64 0) (.int .i64 0) (.slice none 0 0)
    have R2 : w.grownBy _ (some B) := put4_grown (grown_drewN (unhide HG) nq) (Nat.le_refl _) (.int .i64 0) (.int .i64 0) (.int .i64 0) (.slice none 0 0)
    refine bodyPost_ret (v := .tuple #[.agg #[.int .i64 0, .int .i64 0, .int .i64 0, .slice none 0 0], .bool false]) (by simp [results, Try.results26, go_sem, f0, f1, f2, f3]) rfl ?_
    exact ⟨rfl, R1, R2⟩
  | cons x r =>
    obtain ⟨hi, hx, hs, h3, _⟩ := at_cons hat
    have hne : l ≠ [] := fun e => by rw [e] at hi; simp at hi
    have EP : Hid (placeOf s l (x :: r) = l[i].fro) := hide (by
      show (l.getD x.2 ⟨0, 0, 0⟩).fro = _
      rw [hx, List.getD_eq_getElem?_getD, List.getElem?_eq_getElem hi]
      rfl)
    obtain ⟨b, o, rfl, hb, q⟩ := ht.grown hgr hne
    obtain ⟨_, x2, _⟩ := q i hi
    have i1 : (i : Int) < (l.length : Int) := by omega
    have hfz := g.fro i hi
    clear hr ht g hat hr0 hrm hr1 hcb hgr q hs hx h3 hB
    generalize l[i].fro = z at *
    go_enter Try.func26, Try.ntmps26
    go_wp2_with fail
    clear u0 u4 u5 v4 v5
    generalize hW : ((((World.alloc w (.cells #[.int .i64 0, .int .i64 0, .int .i64 0, .slice none 0 0] 24))).setCell ⟨B, 4, none⟩ (.int .i64 (s.size : Int))).setCell ⟨B, 5, none⟩ (.int .i64 (k : Int))) = w1 at *
    have u1 := Blk.cell (unhide HR1) 1 _ rfl
    have u2 := Blk.cell (unhide HR1) 2 _ rfl
    have u4 := Blk.cell (unhide HR1) 4 _ rfl
    have v4 := Blk.froz (unhide HR1) 4
    clear hW
    go_quiet (fail)
    go_wp2_with fail
    go_region
    have hR3 : Hid (Rd ((w1.drewN (nq + 1)).setCell ⟨B, 4, none⟩ (.int .i64 (z : Int))) B s (.slice (some ⟨b, o, none⟩) l.length cap) i d (z : Int) k) := hide (Rd.place (w := w1.drewN (nq + 1)) (unhide HR1) (z : Int))
    have hC3 : Hid (Blk ((w1.drewN (nq + 1)).setCell ⟨B, 4, none⟩ (.int .i64 (z : Int))) w.heap.size #[.int .i64 0, .int .i64 0, .int .i64 0, .slice none 0 0] 24) := hide (Blk.set_other (w := w1.drewN (nq + 1)) (unhide HC) _ _ (Nat.ne_of_gt (unhide HB)))
    have hG3 : Hid (w.grownBy ((w1.drewN (nq + 1)).setCell ⟨B, 4, none⟩ (.int .i64 (z : Int))) (some B)) := hide (grown_trans (grown_drewN (unhide HG) (nq + 1)) (grown_set _ B 4 _))
    generalize ((w1.drewN (nq + 1)).setCell ⟨B, 4, none⟩ (.int .i64 (z : Int))) = w3 at *
    obtain ⟨z0, z1, z2, z3⟩ := Blk.cells4 (unhide hC3)
    obtain ⟨y0, y1, y2, y3⟩ := Blk.froz4 (unhide hC3)
    clear HR1 HC HG u1 u2 u4 v4 x2
    go_wp2
    clear z0 z1 z2 z3 y0 y1 y2 y3
    have hF := put4_blk (unhide hC3) (.int .i64 0) (.int .i64 0) (.int .i64 0) (.slice none 0 0)
    obtain ⟨f0, f1, f2, f3⟩ := Blk.cells4 hF
    have R1 : Rd _ B s _ i d (z : Int) k := put4_other (unhide hR3) (c := B) (b := w.heap.size) (Nat.ne_of_lt (unhide HB)) (.int .i64 0) (.int .i64 0) (.int .i64 0) (.slice none 0 0)
    have R2 : w.grownBy _ (some B) := put4_grown (unhide hG3) (Nat.le_refl _) (.int .i64 0) (.int .i64 0) (.int .i64 0) (.slice none 0 0)
    refine bodyPost_ret (v := .tuple #[.agg #[.int .i64 0, .int .i64 0, .int .i64 0, .slice none 0 0], .bool false]) (by simp [results, Try.results26, go_sem, f0, f1, f2, f3]) rfl ?_
    rw [unhide EP]
    exact ⟨rfl, R1, R2⟩
set_option maxHeartbeats 2000000 in
set_option maxRecDepth 100000 in
theorem seesMark_any (w : World) (B : Nat) (s : ByteArray) (a : Option Addr) (cap : Nat) (l : List Tk) (i d : Nat) (pl er : Int) (ts : List Sym) (m : UInt8) (m1 : m ≠ 63) (m2 : m ≠ 120) (hr : Rd w B s (.slice a l.length cap) i d pl er) (ht : TkIn w B a l) (g : Good s l) (hat : At s.data.toList l i ts) :
    Calls Try.prog 44 #[.pointer (some ⟨B, 0, none⟩), .int .u8 (m.toNat : Int)] w fun e w' => e = .returned (.bool (seesB ts m)) ∧ Below w.heap.size w w' := by
  have c1 := hr.cell 1 _ rfl
  have c2 := hr.cell 2 _ rfl
  have hl := g.len
  cases ts with
  | nil =>
    have hi := at_nil hat
    have i1 : (i : Int) ≥ (l.length : Int) := by omega
    have d1 : decide ((i : Int) ≥ (l.length : Int)) = true := decide_eq_true i1
    clear hr ht g hat hi
    go_enter Try.func44, Try.ntmps44
    go_wp2_with fail
    go_quiet (fail)
    go_wp2
    go_ret
    exact ⟨rfl, below_drewN (Below.refl _ _) _⟩
  | cons x r =>
    obtain ⟨hi, hx, hs, h3, _⟩ := at_cons hat
    have hk := sym_mark g hi m1 m2
    rw [← hs, g.byte i hi] at hk
    have hf := g.fro i hi
    have E : Hid (seesB (x :: r) m = (decide (l[i].kind = 6) && (s[l[i].fro]'hf == m))) := hide hk
    have hne : l ≠ [] := fun e => by rw [e] at hi; simp at hi
    obtain ⟨b, o, rfl, hb, q⟩ := ht hne
    obtain ⟨x1, x2, x3⟩ := q i hi
    have hk7 := g.kind i hi
    have hz := g.size
    have i1 : ¬ (i : Int) ≥ (l.length : Int) := by omega
    have d1 : decide ((i : Int) ≥ (l.length : Int)) = false := decide_eq_false i1
    have i2 : (i : Int) < (l.length : Int) := by omega
    have c0 := hr.cell 0 _ rfl
    have HR := hide hr
    clear hr ht g hat q hs hx hk
    generalize l[i].kind = z at *
    generalize l[i].fro = y at *
    generalize l[i].til = y3 at *
    have al : ∀ {p : Addr} {v : Value} (n : Nat), w.cell? p = some v → ((w.drewN n).alloc (.cells #[.int .i64 0, .int .i64 0, .int .i64 0] 34)).cell? p = some v := fun n h => by
      rw [← h]
      exact World.cell?_of_block (Below.heap_alloc _ _ _ (World.block_lt_of_cell? w _ h))
    have e1 : ∀ n : Nat, ((w.drewN n).alloc (.cells #[.int .i64 0, .int .i64 0, .int .i64 0] 34)).cell? ⟨B, 1, none⟩ = some (.slice (some ⟨b, o, none⟩) l.length cap) := fun n => al n c1
    have e2 : ∀ n : Nat, ((w.drewN n).alloc (.cells #[.int .i64 0, .int .i64 0, .int .i64 0] 34)).cell? ⟨B, 2, none⟩ = some (.int .i64 (i : Int)) := fun n => al n c2
    have e3 : ∀ n : Nat, ((w.drewN n).alloc (.cells #[.int .i64 0, .int .i64 0, .int .i64 0] 34)).cell? ⟨b, o + i * 3, none⟩ = some (.int .i64 (z : Int)) := fun n => al n x1
    have e4 : ∀ n : Nat, ((w.drewN n).alloc (.cells #[.int .i64 0, .int .i64 0, .int .i64 0] 34)).cell? ⟨b, o + i * 3 + 1, none⟩ = some (.int .i64 (y : Int)) := fun n => al n x2
    have e5 : ∀ n : Nat, ((w.drewN n).alloc (.cells #[.int .i64 0, .int .i64 0, .int .i64 0] 34)).cell? ⟨b, o + i * 3 + 2, none⟩ = some (.int .i64 (y3 : Int)) := fun n => al n x3
    clear al
    have nb : ∀ n : Nat, Blk ((w.drewN n).alloc (.cells #[.int .i64 0, .int .i64 0, .int .i64 0] 34)) w.heap.size #[.int .i64 0, .int .i64 0, .int .i64 0] 34 := fun n => blk_alloc (w.drewN n) _ _
    have n0 := fun n => (nb n).cell 0 _ rfl
    have n1 := fun n => (nb n).cell 1 _ rfl
    have n2 := fun n => (nb n).cell 2 _ rfl
    have f0 := fun n => (nb n).froz 0
    have f1 := fun n => (nb n).froz 1
    have f2 := fun n => (nb n).froz 2
    have NB := fun n => hide (nb n)
    clear nb
    go_enter Try.func44, Try.ntmps44
    go_wp2_with fail
    go_quiet (fail)
    go_wp2_with fail
    go_region
    have B3 : Hid (Below w.heap.size w (((((w.drewN (nq + 1)).alloc (.cells #[.int .i64 0, .int .i64 0, .int .i64 0] 34)).setCell ⟨w.heap.size, 0, none⟩ (.int .i64 (z : Int))).setCell ⟨w.heap.size, 1, none⟩ (.int .i64 (y : Int))).setCell ⟨w.heap.size, 2, none⟩ (.int .i64 (y3 : Int)))) := hide (((((below_drewN (Below.refl _ w) _).alloc (Nat.le_refl _) _).setCell (Nat.le_refl _) _).setCell (Nat.le_refl _) _).setCell (Nat.le_refl _) _)
    have K3 : Hid (Blk (((((w.drewN (nq + 1)).alloc (.cells #[.int .i64 0, .int .i64 0, .int .i64 0] 34)).setCell ⟨w.heap.size, 0, none⟩ (.int .i64 (z : Int))).setCell ⟨w.heap.size, 1, none⟩ (.int .i64 (y : Int))).setCell ⟨w.heap.size, 2, none⟩ (.int .i64 (y3 : Int))) w.heap.size #[.int .i64 (z : Int), .int .i64 (y : Int), .int .i64 (y3 : Int)] 34) := hide (by
      have := (((unhide (NB (nq + 1))).set 0 (.int .i64 (z : Int))).set 1 (.int .i64 (y : Int))).set 2 (.int .i64 (y3 : Int))
      simpa using this)
    generalize (((((w.drewN (nq + 1)).alloc (.cells #[.int .i64 0, .int .i64 0, .int .i64 0] 34)).setCell ⟨w.heap.size, 0, none⟩ (.int .i64 (z : Int))).setCell ⟨w.heap.size, 1, none⟩ (.int .i64 (y : Int))).setCell ⟨w.heap.size, 2, none⟩ (.int .i64 (y3 : Int))) = w3 at *
    have g0 := (unhide K3).cell 0 _ rfl
    have g1 := (unhide K3).cell 1 _ rfl
    have r0 := Blk.cell ((unhide HR).below (unhide B3)) 0 _ rfl
    clear n0 n1 n2 f0 f1 f2 NB e1 e2 e3 e4 e5 K3 x1 x2 x3 c0 c1 c2 HR
    have i3 : (y : Int) < (s.size : Int) := by omega
    by_cases e6 : z = 6
    · have j6 : ((z : Int) == 6) = true := by rw [e6]; rfl
      rw [decide_eq_true e6, Bool.true_and] at E
      clear e6
      by_cases em : s[y]'hf = m
      · have jm : (((s[y]'hf).toNat : Int) == (m.toNat : Int)) = true := b_eq m em
        rw [show ((s[y]'hf) == m) = true by rw [em]; exact beq_self_eq_true _] at E
        clear em
        go_wp2_with fail
        go_quiet (fail)
        go_wp2
        go_ret
        rw [unhide E]
        exact ⟨rfl, below_drewN (unhide B3) _⟩
      · have jm : (((s[y]'hf).toNat : Int) == (m.toNat : Int)) = false := b_ne m em
        rw [show ((s[y]'hf) == m) = false from beq_false_of_ne em] at E
        clear em
        go_wp2_with fail
        go_quiet (fail)
        go_wp2
        go_ret
        rw [unhide E]
        exact ⟨rfl, below_drewN (unhide B3) _⟩
    · have j6 : ((z : Int) == 6) = false := beq_false_of_ne (by omega)
      rw [decide_eq_false e6, Bool.false_and] at E
      clear e6
      go_wp2_with fail
      go_quiet (fail)
      go_wp2
      go_ret
      rw [unhide E]
      exact ⟨rfl, below_drewN (unhide B3) _⟩
end Go.Proofs.Ytoikdjbgeebadaa.trees
