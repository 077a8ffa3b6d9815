/- The walks of package tree's reader: the next token. -/
import Derived.Test.YtoikdjbgeebadaaPartAC
import Derived.Test.YtoikdjbgeebadaaPartAE
import Derived.BigRegion
set_option linter.unusedVariables false
namespace Go.Proofs.Ytoikdjbgeebadaa.trees
open Go.RowKit
open toks

/-- The reader's block. -/
def Rd (w : World) (B : Nat) (s : ByteArray) (tv : Value) (i d : Nat) (pl er : Int) : Prop := Blk w B #[.string s, tv, .int .i64 (i : Int), .int .i64 (d : Int), .int .i64 pl, .int .i64 er] 47
/-- The tokens lie ahead of block B. -/
def TkIn (w : World) (B : Nat) (a : Option Addr) (l : List Tk) : Prop :=
  l ≠ [] → ∃ b o, a = some ⟨b, o, none⟩ ∧ b < B ∧ ∀ j (h : j < l.length), w.cell? ⟨b, o + j * 3, none⟩ = some (.int .i64 (l[j].kind : Int)) ∧ w.cell? ⟨b, o + j * 3 + 1, none⟩ = some (.int .i64 (l[j].fro : Int)) ∧ w.cell? ⟨b, o + j * 3 + 2, none⟩ = some (.int .i64 (l[j].til : Int))
theorem TkIn.grown {w w' : World} {B : Nat} {a : Option Addr} {l : List Tk} (h : TkIn w B a l) (hg : w.grownBy w' (some B)) : TkIn w' B a l := by
  intro h0
  obtain ⟨b, o, e, hb, hc⟩ := h h0
  have hne : ∀ k, some (⟨b, k, none⟩ : Addr).block ≠ some B := fun k e => by injection e with e; exact absurd e (Nat.ne_of_lt hb)
  refine ⟨b, o, e, hb, fun j hj => ?_⟩
  obtain ⟨c1, c2, c3⟩ := hc j hj
  exact ⟨hg.cell c1 (hne _), hg.cell c2 (hne _), hg.cell c3 (hne _)⟩
theorem grown_below {w w' : World} {r : Option Nat} (h : Below w.heap.size w w') : w.grownBy w' r := ⟨h.os, h.tape, h.output, h.size, fun k hk _ => h.block k hk⟩
theorem TkIn.below {w w' : World} {B : Nat} {a : Option Addr} {l : List Tk} (h : TkIn w B a l) (hb : Below w.heap.size w w') : TkIn w' B a l := h.grown (grown_below hb)
theorem Rd.below {w w' : World} {B : Nat} {s : ByteArray} {tv : Value} {i d : Nat} {pl er : Int} (h : Rd w B s tv i d pl er) (hb : Below w.heap.size w w') : Rd w' B s tv i d pl er := Blk.below h hb
theorem Rd.next {w : World} {B : Nat} {s : ByteArray} {tv : Value} {i d : Nat} {pl er : Int} (h : Rd w B s tv i d pl er) (j : Nat) : Rd (w.setCell ⟨B, 2, none⟩ (.int .i64 (j : Int))) B s tv j d pl er := by
  have := Blk.set h 2 (.int .i64 (j : Int))
  exact this
theorem Rd.level {w : World} {B : Nat} {s : ByteArray} {tv : Value} {i d : Nat} {pl er : Int} (h : Rd w B s tv i d pl er) (j : Nat) : Rd (w.setCell ⟨B, 3, none⟩ (.int .i64 (j : Int))) B s tv i j pl er := by
  have := Blk.set h 3 (.int .i64 (j : Int))
  exact this
theorem Rd.place {w : World} {B : Nat} {s : ByteArray} {tv : Value} {i d : Nat} {pl er : Int} (h : Rd w B s tv i d pl er) (j : Int) : Rd (w.setCell ⟨B, 4, none⟩ (.int .i64 j)) B s tv i d j er := by
  have := Blk.set h 4 (.int .i64 j)
  exact this
theorem Rd.err {w : World} {B : Nat} {s : ByteArray} {tv : Value} {i d : Nat} {pl er : Int} (h : Rd w B s tv i d pl er) (j : Int) : Rd (w.setCell ⟨B, 5, none⟩ (.int .i64 j)) B s tv i d pl j := by
  have := Blk.set h 5 (.int .i64 j)
  exact this
/-- A node's four cells, stored. -/
abbrev put4 (w : World) (b : Nat) (u0 u1 u2 u3 : Value) : World := (((w.setCell ⟨b, 0, none⟩ u0).setCell ⟨b, 1, none⟩ u1).setCell ⟨b, 2, none⟩ u2).setCell ⟨b, 3, none⟩ u3
theorem put4_blk {w : World} {b : Nat} {x0 x1 x2 x3 : Value} {t : Nat} (h : Blk w b #[x0, x1, x2, x3] t) (u0 u1 u2 u3 : Value) : Blk (put4 w b u0 u1 u2 u3) b #[u0, u1, u2, u3] t := by
  have := (((h.set 0 u0).set 1 u1).set 2 u2).set 3 u3
  simpa using this
theorem put4_other {w : World} {b c : Nat} {cs : Array Value} {t : Nat} (h : Blk w c cs t) (hne : c ≠ b) (u0 u1 u2 u3 : Value) : Blk (put4 w b u0 u1 u2 u3) c cs t :=
  (((h.set_other _ _ hne).set_other _ _ hne).set_other _ _ hne).set_other _ _ hne
theorem put4_size (w : World) (b : Nat) (u0 u1 u2 u3 : Value) : (put4 w b u0 u1 u2 u3).heap.size = w.heap.size := by simp [put4, World.setCell]
theorem put4_heap {w : World} {b c : Nat} (hne : c ≠ b) (u0 u1 u2 u3 : Value) : (put4 w b u0 u1 u2 u3).heap[c]? = w.heap[c]? := by
  unfold put4
  rw [Below.heap_setCell _ _ _ _ hne, Below.heap_setCell _ _ _ _ hne, Below.heap_setCell _ _ _ _ hne, Below.heap_setCell _ _ _ _ hne]
theorem put4_grown {w w2 : World} {r : Option Nat} {b : Nat} (h : w.grownBy w2 r) (hb : w.heap.size ≤ b) (u0 u1 u2 u3 : Value) : w.grownBy (put4 w2 b u0 u1 u2 u3) r :=
  ⟨h.os, h.tape, h.output, by rw [put4_size]; exact h.size, fun k hk hr => by rw [put4_heap (by omega)]; exact h.block k hk hr⟩
/-- The cells of a node in a block of its own. -/
structure Cells4 (w : World) (b : Nat) (u0 u1 u2 u3 : Value) : Prop where
  c0 : w.cell? ⟨b, 0, none⟩ = some u0
  c1 : w.cell? ⟨b, 1, none⟩ = some u1
  c2 : w.cell? ⟨b, 2, none⟩ = some u2
  c3 : w.cell? ⟨b, 3, none⟩ = some u3
theorem Blk.cells4 {w : World} {b : Nat} {u0 u1 u2 u3 : Value} {t : Nat} (h : Blk w b #[u0, u1, u2, u3] t) : Cells4 w b u0 u1 u2 u3 := ⟨Blk.cell h 0 _ rfl, Blk.cell h 1 _ rfl, Blk.cell h 2 _ rfl, Blk.cell h 3 _ rfl⟩
structure Froz4 (w : World) (b : Nat) : Prop where
  c0 : w.frozen? ⟨b, 0, none⟩ = false
  c1 : w.frozen? ⟨b, 1, none⟩ = false
  c2 : w.frozen? ⟨b, 2, none⟩ = false
  c3 : w.frozen? ⟨b, 3, none⟩ = false
theorem Blk.froz4 {w : World} {b : Nat} {cs : Array Value} {t : Nat} (h : Blk w b cs t) : Froz4 w b := ⟨Blk.froz h 0, Blk.froz h 1, Blk.froz h 2, Blk.froz h 3⟩
theorem grown_alloc {w w' : World} {r : Option Nat} (h : w.grownBy w' r) (o : Obj) : w.grownBy (w'.alloc o) r :=
  ⟨h.os, h.tape, h.output, Nat.le_trans h.size (by simp), fun k hk hr => by rw [Below.heap_alloc _ _ _ (Nat.lt_of_lt_of_le hk h.size)]; exact h.block k hk hr⟩
theorem grown_drewN {w w' : World} {r : Option Nat} (h : w.grownBy w' r) (n : Nat) : w.grownBy (w'.drewN n) r := ⟨h.os, h.tape, h.output, h.size, h.block⟩
set_option maxHeartbeats 1000000 in
set_option maxRecDepth 100000 in
theorem goOn_any (w : World) (B : Nat) (s : ByteArray) (a : Option Addr) (cap : Nat) (l : List Tk) (i d : Nat) (pl er : Int) (n : Nat) (hr : Rd w B s (.slice a l.length cap) i d pl er) (ht : TkIn w B a l) (g : Good s l) (hn : n ≤ l.length) :
    Calls Try.prog 24 #[.pointer (some ⟨B, 0, none⟩), .int .i64 (n : Int)] w fun e w' => ∃ j, e = .returned (.tuple #[]) ∧ Nxt l n j ∧ Rd w' B s (.slice a l.length cap) j d pl er ∧ w.grownBy w' (some B) := by
  have c1 := hr.cell 1 _ rfl
  have c2 := hr.cell 2 _ rfl
  have z2 := hr.froz 2
  have HR := hide hr
  have HT := hide ht
  have HG := hide g
  have hl := g.len
  clear hr ht g
  go_enter Try.func24, Try.ntmps24
  go_wp2_with fail
  go_loopw [1] (fun i wr => wr = w ∧ ∃ k : Nat, n ≤ k ∧ k ≤ l.length ∧ i = .int .i64 k ∧ Hid (∀ m (h : m < l.length), n ≤ m → m < k → ¬ 3 < l[m].kind)) (fun i _ => l.length - (intOf i).toNat)
  case atStart => exact ⟨rfl, n, Nat.le_refl _, hn, rfl, hide (fun m h h1 h2 => by omega)⟩
  case round =>
    obtain ⟨rfl, k, hnk, hk, rfl, HN⟩ := hrel
    by_cases hlt : k < l.length
    · have hne : l ≠ [] := fun e => by rw [e] at hlt; simp at hlt
      obtain ⟨b, o, rfl, hb, q⟩ := (unhide HT) hne
      obtain ⟨x1, _, _⟩ := q k hlt
      have hk7 := (unhide HG).kind k hlt
      have KS : Hid _ := hide (solid_any wr (l[k].kind : Int) (by omega) (by omega))
      have i1 : (k : Int) < (l.length : Int) := by omega
      have d1 : decide ((k : Int) < (l.length : Int)) = true := decide_eq_true i1
      by_cases h3 : 3 < l[k].kind
      · rw [decide_eq_true (show (4 : Int) ≤ (l[k].kind : Int) ∧ (l[k].kind : Int) ≤ 7 by omega)] at KS
        have J : Hid (Nxt l n k) := hide ⟨hnk, hk, unhide HN, fun _ => h3⟩
        clear q h3 hk7
        generalize l[k].kind = z at *
        go_wp2_with fail
        refine (unhide KS).mono ?_
        rintro e w2 ⟨rfl, hw⟩
        rw [hw]
        clear hw KS
        go_wp2
        go_end0
        exact ⟨k, rfl, unhide J, (unhide HR).next k, grown_set _ _ _ _⟩
      · rw [decide_eq_false (show ¬ ((4 : Int) ≤ (l[k].kind : Int) ∧ (l[k].kind : Int) ≤ 7) by omega)] at KS
        have J : Hid (∀ m (h : m < l.length), n ≤ m → m < k + 1 → ¬ 3 < l[m].kind) := hide (fun m h h1 h2 => by
          by_cases e : m = k
          · subst e; exact h3
          · exact unhide HN m h h1 (by omega))
        clear q h3 hk7
        generalize l[k].kind = z at *
        go_wp2_with fail
        refine (unhide KS).mono ?_
        rintro e w2 ⟨rfl, hw⟩
        rw [hw]
        clear hw KS
        go_wp2
        go_roundw
        case rel => exact ⟨by first | rfl | trivial, k + 1, by omega, hlt, by go_num, J⟩
        case measure => simp only [intOf]; omega
    · have hkl : k = l.length := by omega
      have d1 : decide ((k : Int) < (l.length : Int)) = false := decide_eq_false (by omega)
      have J : Hid (Nxt l n k) := hide ⟨hnk, hk, unhide HN, fun h => absurd h hlt⟩
      clear hkl
      go_wp2
      go_end0
      exact ⟨k, rfl, unhide J, (unhide HR).next k, grown_set _ _ _ _⟩
end Go.Proofs.Ytoikdjbgeebadaa.trees
/- The walks of package tree's reader: what is seen, what is taken, what is refused. -/
set_option linter.unusedVariables false
namespace Go.Proofs.Ytoikdjbgeebadaa.trees
open Go.RowKit
open toks

theorem Good.byte {s : ByteArray} {l : List Tk} (g : Good s l) (i : Nat) (hi : i < l.length) : s.data.toList.getD l[i].fro 0 = s[l[i].fro]'(g.fro i hi) := by
  have h := g.fro i hi
  rw [List.getD_eq_getElem?_getD, List.getElem?_eq_getElem (by rw [len_list]; exact h)]
  rfl
set_option maxHeartbeats 1000000 in
set_option maxRecDepth 100000 in
theorem take_any (w : World) (B : Nat) (s : ByteArray) (a : Option Addr) (cap : Nat) (l : List Tk) (i d : Nat) (pl er : Int) (hr : Rd w B s (.slice a l.length cap) i d pl er) (ht : TkIn w B a l) (g : Good s l) (hi : i < l.length) :
    Calls Try.prog 54 #[.pointer (some ⟨B, 0, none⟩)] w fun e w' => ∃ j, e = .returned (.int .i64 (i : Int)) ∧ Nxt l (i + 1) j ∧ Rd w' B s (.slice a l.length cap) j d pl er ∧ w.grownBy w' (some B) := by
  have K := hide (goOn_any w B s a cap l i d pl er (i + 1) hr ht g hi)
  have c2 := hr.cell 2 _ rfl
  have hl := g.len
  clear hr ht g
  go_enter Try.func54, Try.ntmps54
  go_wp2_with fail
  refine (unhide K).mono ?_
  rintro e w2 ⟨j, rfl, h1, h2, h3⟩
  have H1 := hide h1
  have H2 := hide h2
  have H3 := hide h3
  clear K h1 h2 h3 c2
  go_wp2
  go_ret
  exact ⟨j, rfl, unhide H1, unhide H2, unhide H3⟩
set_option maxHeartbeats 1000000 in
set_option maxRecDepth 100000 in
theorem seesOne_any (w : World) (B : Nat) (s : ByteArray) (a : Option Addr) (cap : Nat) (l : List Tk) (i d : Nat) (pl er : Int) (ts : List Sym) (hr : Rd w B s (.slice a l.length cap) i d pl er) (ht : TkIn w B a l) (g : Good s l) (hat : At s.data.toList l i ts) :
    Calls Try.prog 45 #[.pointer (some ⟨B, 0, none⟩)] w fun e w' => e = .returned (.bool (seesB ts 120)) ∧ Below w.heap.size w w' := by
  have c1 := hr.cell 1 _ rfl
  have c2 := hr.cell 2 _ rfl
  have hl := g.len
  cases ts with
  | nil =>
    have hi := at_nil hat
    have i1 : (i : Int) ≥ (l.length : Int) := by omega
    have d1 : decide ((i : Int) ≥ (l.length : Int)) = true := decide_eq_true i1
    clear hr ht g hat hi
    go_enter Try.func45, Try.ntmps45
    go_wp2_with fail
    go_quiet (fail)
    go_wp2
    go_ret
    exact ⟨rfl, below_drewN (Below.refl _ _) _⟩
  | cons x r =>
    obtain ⟨hi, hx, hs, h3, _⟩ := at_cons hat
    have hk := sym_one g hi h3
    rw [← hs] at hk
    have E : Hid (seesB (x :: r) 120 = decide (l[i].kind = 4 ∨ l[i].kind = 5)) := hide hk
    have hne : l ≠ [] := fun e => by rw [e] at hi; simp at hi
    obtain ⟨b, o, rfl, hb, q⟩ := ht hne
    obtain ⟨x1, _, _⟩ := q i hi
    have hk7 := g.kind i hi
    have i1 : ¬ (i : Int) ≥ (l.length : Int) := by omega
    have d1 : decide ((i : Int) ≥ (l.length : Int)) = false := decide_eq_false i1
    have i2 : (i : Int) < (l.length : Int) := by omega
    clear hr ht g hat q hs hx hk
    generalize l[i].kind = z at *
    by_cases e4 : z = 4
    · have f4 : ((z : Int) == 4) = true := by rw [e4]; rfl
      rw [decide_eq_true (by omega)] at E
      clear e4
      go_enter Try.func45, Try.ntmps45
      go_wp2_with fail
      go_quiet (fail)
      go_wp2_with fail
      go_quiet (fail)
      go_wp2
      go_ret
      rw [unhide E]
      exact ⟨rfl, below_drewN (Below.refl _ _) _⟩
    · have f4 : ((z : Int) == 4) = false := beq_false_of_ne (by omega)
      by_cases e5 : z = 5
      · have f5 : ((z : Int) == 5) = true := by rw [e5]; rfl
        rw [decide_eq_true (by omega)] at E
        clear e4 e5
        go_enter Try.func45, Try.ntmps45
        go_wp2_with fail
        go_quiet (fail)
        go_wp2_with fail
        go_quiet (fail)
        go_wp2
        go_ret
        rw [unhide E]
        exact ⟨rfl, below_drewN (Below.refl _ _) _⟩
      · have f5 : ((z : Int) == 5) = false := beq_false_of_ne (by omega)
        rw [decide_eq_false (by omega)] at E
        clear e4 e5
        go_enter Try.func45, Try.ntmps45
        go_wp2_with fail
        go_quiet (fail)
        go_wp2_with fail
        go_quiet (fail)
        go_wp2
        go_ret
        rw [unhide E]
        exact ⟨rfl, below_drewN (Below.refl _ _) _⟩
set_option maxHeartbeats 1000000 in
set_option maxRecDepth 100000 in
theorem one_any (w : World) (B : Nat) (s : ByteArray) (a : Option Addr) (cap : Nat) (l : List Tk) (i d : Nat) (pl er : Int) (k : Nat) (hk : k ≤ 6) (hr : Rd w B s (.slice a l.length cap) i d pl er) (ht : TkIn w B a l) (g : Good s l) (hi : i < l.length) :
    Calls Try.prog 50 #[.pointer (some ⟨B, 0, none⟩), .int .i64 (k : Int)] w fun e w' => ∃ j, e = .returned (.agg #[.int .i64 (k : Int), .int .i64 (i : Int), .int .i64 ((i + 1 : Nat) : Int), .slice none 0 0]) ∧ Nxt l (i + 1) j ∧ Rd w' B s (.slice a l.length cap) j d pl er ∧ w.grownBy w' (some B) := by
  have hB := hr.lt
  have K : ∀ u, Below w.heap.size w u → Hid _ := fun u hu => hide (take_any u B s a cap l i d pl er (hr.below hu) (ht.below hu) g hi)
  have hl := g.len
  clear hr ht g
  have K := K _ ((Below.refl _ w).alloc (Nat.le_refl _) (.cells #[.int .i64 0, .int .i64 0, .int .i64 0, .slice none 0 0] 24))
  have cb := blk_alloc w #[.int .i64 0, .int .i64 0, .int .i64 0, .slice none 0 0] 24
  go_enter Try.func50, Try.ntmps50
  go_wp2_with fail
  refine (unhide K).mono ?_
  rintro e w2 ⟨j, rfl, h1, h2, h3⟩
  have H1 := hide h1
  have H2 := hide h2
  have H3 := hide h3
  have cb2 := Blk.grown cb h3 (fun e => by injection e with e; omega)
  obtain ⟨z0, z1, z2, z3⟩ := Blk.cells4 cb2
  obtain ⟨y0, y1, y2, y3⟩ := Blk.froz4 cb2
  have CB := hide cb2
  clear K h1 h2 h3 cb2 cb
  go_wp2
  have hF := put4_blk (unhide CB) (.int .i64 (k : Int)) (.int .i64 (i : Int)) (.int .i64 ((i : Int) + 1)) (.slice none 0 0)
  obtain ⟨f0, f1, f2, f3⟩ := Blk.cells4 hF
  have R1 : Rd _ B s _ j d pl er := put4_other (unhide H2) (c := B) (b := w.heap.size) (by omega) (.int .i64 (k : Int)) (.int .i64 (i : Int)) (.int .i64 ((i : Int) + 1)) (.slice none 0 0)
  have R2 : w.grownBy _ (some B) := put4_grown (grown_trans (grown_alloc (grown_refl w (some B)) _) (unhide H3)) (Nat.le_refl _) (.int .i64 (k : Int)) (.int .i64 (i : Int)) (.int .i64 ((i : Int) + 1)) (.slice none 0 0)
  refine bodyPost_ret (v := .agg #[.int .i64 (k : Int), .int .i64 (i : Int), .int .i64 ((i : Int) + 1), .slice none 0 0]) (by simp [results, Try.results50, go_sem, f0, f1, f2, f3]) rfl ?_
  exact ⟨j, by rw [show ((i + 1 : Nat) : Int) = (i : Int) + 1 by omega], unhide H1, R1, R2⟩
set_option maxHeartbeats 2000000 in
set_option maxRecDepth 100000 in
theorem refuse_any (w : World) (B : Nat) (s : ByteArray) (a : Option Addr) (cap : Nat) (l : List Tk) (i d : Nat) (pl er : Int) (ts : List Sym) (k : Nat) (hk : k ≤ 10) (hr : Rd w B s (.slice a l.length cap) i d pl er) (ht : TkIn w B a l) (g : Good s l) (hat : At s.data.toList l i ts) :
    Calls Try.prog 26 #[.pointer (some ⟨B, 0, none⟩), .int .i64 (k : Int)] w fun e w' => e = .returned (.tuple #[.agg #[.int .i64 0, .int .i64 0, .int .i64 0, .slice none 0 0], .bool false]) ∧ Rd w' B s (.slice a l.length cap) i d (placeOf s l ts : Int) k ∧ w.grownBy w' (some B) := by
  have hB := Blk.lt hr
  have hl := g.len
  have hz := g.size
  have hr0 : Rd ((World.alloc w (.cells #[.int .i64 0, .int .i64 0, .int .i64 0, .slice none 0 0] 24))) B s (.slice a l.length cap) i d pl er := Blk.alloc hr _
  have hr1 := (hr0.place (s.size : Int)).err (k : Int)
  have hcb : Blk ((((World.alloc w (.cells #[.int .i64 0, .int .i64 0, .int .i64 0, .slice none 0 0] 24))).setCell ⟨B, 4, none⟩ (.int .i64 (s.size : Int))).setCell ⟨B, 5, none⟩ (.int .i64 (k : Int))) w.heap.size #[.int .i64 0, .int .i64 0, .int .i64 0, .slice none 0 0] 24 := ((blk_alloc w _ _).set_other _ _ (Nat.ne_of_gt hB)).set_other _ _ (Nat.ne_of_gt hB)
  have hgr : w.grownBy ((((World.alloc w (.cells #[.int .i64 0, .int .i64 0, .int .i64 0, .slice none 0 0] 24))).setCell ⟨B, 4, none⟩ (.int .i64 (s.size : Int))).setCell ⟨B, 5, none⟩ (.int .i64 (k : Int))) (some B) := grown_trans (grown_trans (grown_alloc (grown_refl w (some B)) _) (grown_set _ B 4 _)) (grown_set _ B 5 _)
  have hrm := hr0.place (s.size : Int)
  have u0 := hr0.cell 0 _ rfl
  have u4 := hr0.cell 4 _ rfl
  have v4 := hr0.froz 4
  have u5 := hrm.cell 5 _ rfl
  have v5 := hrm.froz 5
  have HR1 := hide hr1
  have HC := hide hcb
  have HG := hide hgr
  have HB := hide hB
  cases ts with
  | nil =>
    have hi := at_nil hat
    have d1 : decide ((i : Int) < (l.length : Int)) = false := decide_eq_false (by omega)
    have i1 : ¬ (i : Int) < (l.length : Int) := by omega
    clear hr ht g hat hi hr0 hrm hr1 hcb hgr hB
    go_enter Try.func26, Try.ntmps26
    go_wp2_with fail
    clear u0 u4 u5 v4 v5
    generalize hW : ((((World.alloc w (.cells #[.int .i64 0, .int .i64 0, .int .i64 0, .slice none 0 0] 24))).setCell ⟨B, 4, none⟩ (.int .i64 (s.size : Int))).setCell ⟨B, 5, none⟩ (.int .i64 (k : Int))) = w1 at *
    have u1 := Blk.cell (unhide HR1) 1 _ rfl
    have u2 := Blk.cell (unhide HR1) 2 _ rfl
    obtain ⟨z0, z1, z2, z3⟩ := Blk.cells4 (unhide HC)
    obtain ⟨y0, y1, y2, y3⟩ := Blk.froz4 (unhide HC)
    clear hW
    go_quiet (fail)
    go_wp2
    clear z0 z1 z2 z3 y0 y1 y2 y3 u1 u2
    have hF := put4_blk (w := w1.drewN nq) (unhide HC) (.int .i64 0) (.int .i64 0) (.int .i64 0) (.slice none 0 0)
    obtain ⟨f0, f1, f2, f3⟩ := Blk.cells4 hF
    have R1 : Rd _ B s _ i d (placeOf s l [] : Int) k := put4_other (w := w1.drewN nq) (unhide HR1) (c := B) (b := w.heap.size) (Nat.ne_of_lt (unhide HB)) (.int .i64 0) (.int .i64 0) (.int .i64 0) (.slice none 0 0)
    have R2 : w.grownBy _ (some B) := put4_grown (grown_drewN (unhide HG) nq) (Nat.le_refl _) (.int .i64 0) (.int .i64 0) (.int .i64 0) (.slice none 0 0)
    refine bodyPost_ret (v := .tuple #[.agg #[.int .i64 0, .int .i64 0, .int .i64 0, .slice none 0 0], .bool false]) (by simp [results, Try.results26, go_sem, f0, f1, f2, f3]) rfl ?_
    exact ⟨rfl, R1, R2⟩
  | cons x r =>
    obtain ⟨hi, hx, hs, h3, _⟩ := at_cons hat
    have hne : l ≠ [] := fun e => by rw [e] at hi; simp at hi
    have EP : Hid (placeOf s l (x :: r) = l[i].fro) := hide (by
      show (l.getD x.2 ⟨0, 0, 0⟩).fro = _
      rw [hx, List.getD_eq_getElem?_getD, List.getElem?_eq_getElem hi]
      rfl)
    obtain ⟨b, o, rfl, hb, q⟩ := ht.grown hgr hne
    obtain ⟨_, x2, _⟩ := q i hi
    have i1 : (i : Int) < (l.length : Int) := by omega
    have hfz := g.fro i hi
    clear hr ht g hat hr0 hrm hr1 hcb hgr q hs hx h3 hB
    generalize l[i].fro = z at *
    go_enter Try.func26, Try.ntmps26
    go_wp2_with fail
    clear u0 u4 u5 v4 v5
    generalize hW : ((((World.alloc w (.cells #[.int .i64 0, .int .i64 0, .int .i64 0, .slice none 0 0] 24))).setCell ⟨B, 4, none⟩ (.int .i64 (s.size : Int))).setCell ⟨B, 5, none⟩ (.int .i64 (k : Int))) = w1 at *
    have u1 := Blk.cell (unhide HR1) 1 _ rfl
    have u2 := Blk.cell (unhide HR1) 2 _ rfl
    have u4 := Blk.cell (unhide HR1) 4 _ rfl
    have v4 := Blk.froz (unhide HR1) 4
    clear hW
    go_quiet (fail)
    go_wp2_with fail
    go_region
    have hR3 : Hid (Rd ((w1.drewN (nq + 1)).setCell ⟨B, 4, none⟩ (.int .i64 (z : Int))) B s (.slice (some ⟨b, o, none⟩) l.length cap) i d (z : Int) k) := hide (Rd.place (w := w1.drewN (nq + 1)) (unhide HR1) (z : Int))
    have hC3 : Hid (Blk ((w1.drewN (nq + 1)).setCell ⟨B, 4, none⟩ (.int .i64 (z : Int))) w.heap.size #[.int .i64 0, .int .i64 0, .int .i64 0, .slice none 0 0] 24) := hide (Blk.set_other (w := w1.drewN (nq + 1)) (unhide HC) _ _ (Nat.ne_of_gt (unhide HB)))
    have hG3 : Hid (w.grownBy ((w1.drewN (nq + 1)).setCell ⟨B, 4, none⟩ (.int .i64 (z : Int))) (some B)) := hide (grown_trans (grown_drewN (unhide HG) (nq + 1)) (grown_set _ B 4 _))
    generalize ((w1.drewN (nq + 1)).setCell ⟨B, 4, none⟩ (.int .i64 (z : Int))) = w3 at *
    obtain ⟨z0, z1, z2, z3⟩ := Blk.cells4 (unhide hC3)
    obtain ⟨y0, y1, y2, y3⟩ := Blk.froz4 (unhide hC3)
    clear HR1 HC HG u1 u2 u4 v4 x2
    go_wp2
    clear z0 z1 z2 z3 y0 y1 y2 y3
    have hF := put4_blk (unhide hC3) (.int .i64 0) (.int .i64 0) (.int .i64 0) (.slice none 0 0)
    obtain ⟨f0, f1, f2, f3⟩ := Blk.cells4 hF
    have R1 : Rd _ B s _ i d (z : Int) k := put4_other (unhide hR3) (c := B) (b := w.heap.size) (Nat.ne_of_lt (unhide HB)) (.int .i64 0) (.int .i64 0) (.int .i64 0) (.slice none 0 0)
    have R2 : w.grownBy _ (some B) := put4_grown (unhide hG3) (Nat.le_refl _) (.int .i64 0) (.int .i64 0) (.int .i64 0) (.slice none 0 0)
    refine bodyPost_ret (v := .tuple #[.agg #[.int .i64 0, .int .i64 0, .int .i64 0, .slice none 0 0], .bool false]) (by simp [results, Try.results26, go_sem, f0, f1, f2, f3]) rfl ?_
    rw [unhide EP]
    exact ⟨rfl, R1, R2⟩
set_option maxHeartbeats 2000000 in
set_option maxRecDepth 100000 in
theorem seesMark_any (w : World) (B : Nat) (s : ByteArray) (a : Option Addr) (cap : Nat) (l : List Tk) (i d : Nat) (pl er : Int) (ts : List Sym) (m : UInt8) (m1 : m ≠ 63) (m2 : m ≠ 120) (hr : Rd w B s (.slice a l.length cap) i d pl er) (ht : TkIn w B a l) (g : Good s l) (hat : At s.data.toList l i ts) :
    Calls Try.prog 44 #[.pointer (some ⟨B, 0, none⟩), .int .u8 (m.toNat : Int)] w fun e w' => e = .returned (.bool (seesB ts m)) ∧ Below w.heap.size w w' := by
  have c1 := hr.cell 1 _ rfl
  have c2 := hr.cell 2 _ rfl
  have hl := g.len
  cases ts with
  | nil =>
    have hi := at_nil hat
    have i1 : (i : Int) ≥ (l.length : Int) := by omega
    have d1 : decide ((i : Int) ≥ (l.length : Int)) = true := decide_eq_true i1
    clear hr ht g hat hi
    go_enter Try.func44, Try.ntmps44
    go_wp2_with fail
    go_quiet (fail)
    go_wp2
    go_ret
    exact ⟨rfl, below_drewN (Below.refl _ _) _⟩
  | cons x r =>
    obtain ⟨hi, hx, hs, h3, _⟩ := at_cons hat
    have hk := sym_mark g hi m1 m2
    rw [← hs, g.byte i hi] at hk
    have hf := g.fro i hi
    have E : Hid (seesB (x :: r) m = (decide (l[i].kind = 6) && (s[l[i].fro]'hf == m))) := hide hk
    have hne : l ≠ [] := fun e => by rw [e] at hi; simp at hi
    obtain ⟨b, o, rfl, hb, q⟩ := ht hne
    obtain ⟨x1, x2, x3⟩ := q i hi
    have hk7 := g.kind i hi
    have hz := g.size
    have i1 : ¬ (i : Int) ≥ (l.length : Int) := by omega
    have d1 : decide ((i : Int) ≥ (l.length : Int)) = false := decide_eq_false i1
    have i2 : (i : Int) < (l.length : Int) := by omega
    have c0 := hr.cell 0 _ rfl
    have HR := hide hr
    clear hr ht g hat q hs hx hk
    generalize l[i].kind = z at *
    generalize l[i].fro = y at *
    generalize l[i].til = y3 at *
    have al : ∀ {p : Addr} {v : Value} (n : Nat), w.cell? p = some v → ((w.drewN n).alloc (.cells #[.int .i64 0, .int .i64 0, .int .i64 0] 34)).cell? p = some v := fun n h => by
      rw [← h]
      exact World.cell?_of_block (Below.heap_alloc _ _ _ (World.block_lt_of_cell? w _ h))
    have e1 : ∀ n : Nat, ((w.drewN n).alloc (.cells #[.int .i64 0, .int .i64 0, .int .i64 0] 34)).cell? ⟨B, 1, none⟩ = some (.slice (some ⟨b, o, none⟩) l.length cap) := fun n => al n c1
    have e2 : ∀ n : Nat, ((w.drewN n).alloc (.cells #[.int .i64 0, .int .i64 0, .int .i64 0] 34)).cell? ⟨B, 2, none⟩ = some (.int .i64 (i : Int)) := fun n => al n c2
    have e3 : ∀ n : Nat, ((w.drewN n).alloc (.cells #[.int .i64 0, .int .i64 0, .int .i64 0] 34)).cell? ⟨b, o + i * 3, none⟩ = some (.int .i64 (z : Int)) := fun n => al n x1
    have e4 : ∀ n : Nat, ((w.drewN n).alloc (.cells #[.int .i64 0, .int .i64 0, .int .i64 0] 34)).cell? ⟨b, o + i * 3 + 1, none⟩ = some (.int .i64 (y : Int)) := fun n => al n x2
    have e5 : ∀ n : Nat, ((w.drewN n).alloc (.cells #[.int .i64 0, .int .i64 0, .int .i64 0] 34)).cell? ⟨b, o + i * 3 + 2, none⟩ = some (.int .i64 (y3 : Int)) := fun n => al n x3
    clear al
    have nb : ∀ n : Nat, Blk ((w.drewN n).alloc (.cells #[.int .i64 0, .int .i64 0, .int .i64 0] 34)) w.heap.size #[.int .i64 0, .int .i64 0, .int .i64 0] 34 := fun n => blk_alloc (w.drewN n) _ _
    have n0 := fun n => (nb n).cell 0 _ rfl
    have n1 := fun n => (nb n).cell 1 _ rfl
    have n2 := fun n => (nb n).cell 2 _ rfl
    have f0 := fun n => (nb n).froz 0
    have f1 := fun n => (nb n).froz 1
    have f2 := fun n => (nb n).froz 2
    have NB := fun n => hide (nb n)
    clear nb
    go_enter Try.func44, Try.ntmps44
    go_wp2_with fail
    go_quiet (fail)
    go_wp2_with fail
    go_region
    have B3 : Hid (Below w.heap.size w (((((w.drewN (nq + 1)).alloc (.cells #[.int .i64 0, .int .i64 0, .int .i64 0] 34)).setCell ⟨w.heap.size, 0, none⟩ (.int .i64 (z : Int))).setCell ⟨w.heap.size, 1, none⟩ (.int .i64 (y : Int))).setCell ⟨w.heap.size, 2, none⟩ (.int .i64 (y3 : Int)))) := hide (((((below_drewN (Below.refl _ w) _).alloc (Nat.le_refl _) _).setCell (Nat.le_refl _) _).setCell (Nat.le_refl _) _).setCell (Nat.le_refl _) _)
    have K3 : Hid (Blk (((((w.drewN (nq + 1)).alloc (.cells #[.int .i64 0, .int .i64 0, .int .i64 0] 34)).setCell ⟨w.heap.size, 0, none⟩ (.int .i64 (z : Int))).setCell ⟨w.heap.size, 1, none⟩ (.int .i64 (y : Int))).setCell ⟨w.heap.size, 2, none⟩ (.int .i64 (y3 : Int))) w.heap.size #[.int .i64 (z : Int), .int .i64 (y : Int), .int .i64 (y3 : Int)] 34) := hide (by
      have := (((unhide (NB (nq + 1))).set 0 (.int .i64 (z : Int))).set 1 (.int .i64 (y : Int))).set 2 (.int .i64 (y3 : Int))
      simpa using this)
    generalize (((((w.drewN (nq + 1)).alloc (.cells #[.int .i64 0, .int .i64 0, .int .i64 0] 34)).setCell ⟨w.heap.size, 0, none⟩ (.int .i64 (z : Int))).setCell ⟨w.heap.size, 1, none⟩ (.int .i64 (y : Int))).setCell ⟨w.heap.size, 2, none⟩ (.int .i64 (y3 : Int))) = w3 at *
    have g0 := (unhide K3).cell 0 _ rfl
    have g1 := (unhide K3).cell 1 _ rfl
    have r0 := Blk.cell ((unhide HR).below (unhide B3)) 0 _ rfl
    clear n0 n1 n2 f0 f1 f2 NB e1 e2 e3 e4 e5 K3 x1 x2 x3 c0 c1 c2 HR
    have i3 : (y : Int) < (s.size : Int) := by omega
    by_cases e6 : z = 6
    · have j6 : ((z : Int) == 6) = true := by rw [e6]; rfl
      rw [decide_eq_true e6, Bool.true_and] at E
      clear e6
      by_cases em : s[y]'hf = m
      · have jm : (((s[y]'hf).toNat : Int) == (m.toNat : Int)) = true := b_eq m em
        rw [show ((s[y]'hf) == m) = true by rw [em]; exact beq_self_eq_true _] at E
        clear em
        go_wp2_with fail
        go_quiet (fail)
        go_wp2
        go_ret
        rw [unhide E]
        exact ⟨rfl, below_drewN (unhide B3) _⟩
      · have jm : (((s[y]'hf).toNat : Int) == (m.toNat : Int)) = false := b_ne m em
        rw [show ((s[y]'hf) == m) = false from beq_false_of_ne em] at E
        clear em
        go_wp2_with fail
        go_quiet (fail)
        go_wp2
        go_ret
        rw [unhide E]
        exact ⟨rfl, below_drewN (unhide B3) _⟩
    · have j6 : ((z : Int) == 6) = false := beq_false_of_ne (by omega)
      rw [decide_eq_false e6, Bool.false_and] at E
      clear e6
      go_wp2_with fail
      go_quiet (fail)
      go_wp2
      go_ret
      rw [unhide E]
      exact ⟨rfl, below_drewN (unhide B3) _⟩
end Go.Proofs.Ytoikdjbgeebadaa.trees
/- What the reader of values answers; the lemmas of its loop. -/
set_option linter.unusedVariables false
namespace Go.Proofs.Ytoikdjbgeebadaa.trees
open Go.RowKit
open toks

/-- What is answered: a node, or none and what is wrong. -/
def Res (B : Nat) (s : ByteArray) (a : Option Addr) (cap : Nat) (l : List Tk) (d f : Nat) (w : World) (q : R) (e : Ending) (w' : World) : Prop :=
  w.grownBy w' (some B) ∧
  match q with
  | .inl (c, ts) => e = .returned (.tuple #[(.agg #[.int .i64 0, .int .i64 0, .int .i64 0, .slice none 0 0]), .bool false]) ∧ ∃ i d', Rd w' B s (.slice a l.length cap) i d' (placeOf s l ts : Int) (c : Int)
  | .inr (t, ts) => ∃ u0 u1 u2 u3, e = .returned (.tuple #[.agg #[u0, u1, u2, u3], .bool true]) ∧ Lies (fun b => w.heap.size ≤ b) f w' [u0, u1, u2, u3] t ∧ ∃ i pl er, Rd w' B s (.slice a l.length cap) i d pl er ∧ At s.data.toList l i ts
theorem at_two {L : List UInt8} {l : List Tk} {i : Nat} {x : Sym} {r : List Sym} (h : At L l i (x :: r)) : i < l.length ∧ x.2 = i ∧ ∀ j, Nxt l (i + 1) j → At L l j r := by
  obtain ⟨hi, hx, _, _, hr⟩ := at_cons h
  exact ⟨hi, hx, fun j hj => by rw [hr]; exact hj.at⟩
theorem sol_len (L : List UInt8) : ∀ (l : List Tk) (i : Nat), (solF L i l).length ≤ l.length
  | [], i => Nat.le_refl _
  | t :: l, i => by
    have ih := sol_len L l (i + 1)
    by_cases h : 3 < t.kind
    · rw [sol_yes h, List.length_cons, List.length_cons]; omega
    · rw [sol_no h, List.length_cons]; omega
theorem At.len {L : List UInt8} {l : List Tk} {i : Nat} {ts : List Sym} (h : At L l i ts) : ts.length ≤ l.length := by
  rw [h.eq]
  have := sol_len L (l.drop i) i
  rw [List.length_drop] at this
  omega
theorem Rd.lev {w : World} {B : Nat} {s : ByteArray} {tv : Value} {i d : Nat} {pl er : Int} (h : Rd w B s tv i d pl er) (z : Int) (j : Nat) (hz : z = j) : Rd (w.setCell ⟨B, 3, none⟩ (.int .i64 z)) B s tv i j pl er := by
  rw [hz]; exact h.level j
/-- Blocks that are not this one. -/
theorem Lies.own {ok : Nat → Prop} {w : World} : ∀ {f : Nat} {vs : List Value} {t : T}, Lies ok f w vs t → Lies (fun b => ok b ∧ b < w.heap.size) f w vs t
  | 0, _, _, h => h.elim
  | f + 1, vs, t, h => by
    obtain ⟨k, a, e, l, p, cap, h1, h2, h3, h4⟩ := h
    refine ⟨k, a, e, l, p, cap, h1, h2, h3, fun hl => ?_⟩
    obtain ⟨b, o, hp, hok, hlt, hk⟩ := h4 hl
    refine ⟨b, o, hp, ⟨hok, hlt⟩, hlt, fun j hj => ?_⟩
    obtain ⟨us, u1, u2, u3⟩ := hk j hj
    exact ⟨us, u1, u2, Lies.own u3⟩
theorem KidsIn.weaken {ok ok' : Nat → Prop} {w : World} {f : Nat} {vss : List (List Value)} {l : List T} (ho : ∀ b, ok b → ok' b) (h : KidsIn ok f w vss l) : KidsIn ok' f w vss l :=
  ⟨h.len, fun j hj hj' => (h.each j hj hj').weaken ho⟩
theorem KidsIn.own {ok : Nat → Prop} {w : World} {f : Nat} {vss : List (List Value)} {l : List T} (h : KidsIn ok f w vss l) : KidsIn (fun b => ok b ∧ b < w.heap.size) f w vss l :=
  ⟨h.len, fun j hj hj' => (h.each j hj hj').own⟩
theorem infoNode : (Try.prog.info? 24).map (fun i => (i.zero, i.size, i.bytes)) = some (some (.agg #[.int .i64 0, .int .i64 0, .int .i64 0, .slice none 0 0]), 4, 48) := by kernel_rfl
theorem own_ge4 {w : World} {base e n : Nat} {v : Value} {xs : List Value} (h : w.ownsRow base e 4 v n xs) : ∀ g, v.ownBlock = some g → base ≤ g := fun g hg => (h.lt g hg).1
theorem own_kept4 {w w' : World} {base e n B : Nat} {v : Value} {xs : List Value} (h : w.ownsRow base e 4 v n xs) (hg : w.grownBy w' (some B)) (hB : B < base) : w'.ownsRow base e 4 v n xs := by
  refine h.kept hg ?_
  cases hv : v.ownBlock with
  | none => exact .inl rfl
  | some g => exact .inr (fun e => by injection e with e; have := own_ge4 h g hv; omega)
theorem own_not4 {w : World} {base e n B : Nat} {v : Value} {xs : List Value} (h : w.ownsRow base e 4 v n xs) (hB : B < base) : some B ≠ v.ownBlock := fun e => by
  have := own_ge4 h B e.symm
  omega
theorem cell_four_new (w : World) (x y z u : Value) (t : TypeId) : ∀ j r, [x, y, z, u][j]? = some r → (w.alloc (.cells #[x, y, z, u] t)).cell? ((⟨w.heap.size, 0, none⟩ : Addr).add j) = some r :=
  fun j r hu => World.news_of_block (blk_alloc w #[x, y, z, u] t) j r hu
theorem seesB_yes {ts : List Sym} {m : UInt8} (h : seesB ts m = true) : ∃ x r, ts = x :: r ∧ x.1 = m := by
  cases ts with
  | nil => cases h
  | cons x r => exact ⟨x, r, rfl, by simpa [seesB] using h⟩
theorem seesB_no {x : Sym} {r : List Sym} {m : UInt8} (h : seesB (x :: r) m = false) : x.1 ≠ m := by simpa [seesB] using h
theorem loop_end {q : List Sym → R} {ec : UInt8} {kind i F : Nat} {acc : List T} {x : Sym} {r : List Sym} (hx : x.1 = ec) (hF : (x :: r).length < F) : loopP q ec kind i F acc (x :: r) = .inr (nd kind i (x.2 + 1) acc, r) := by
  cases F with
  | zero => omega
  | succ F => rw [loopP, if_pos hx]
theorem loop_kid_bad {q : List Sym → R} {ec : UInt8} {kind i F : Nat} {acc : List T} {ts : List Sym} {e : Nat × List Sym} (hs : seesB ts ec = false) (hq0 : q [] = .inl (4, [])) (hq : q ts = .inl e) (hF : ts.length < F) : loopP q ec kind i F acc ts = .inl e := by
  cases F with
  | zero => omega
  | succ F =>
    cases ts with
    | nil => rw [hq0] at hq; rw [loopP]; exact hq
    | cons x r => rw [loopP, if_neg (seesB_no hs), hq]
theorem loop_comma {q : List Sym → R} {ec : UInt8} {kind i F : Nat} {acc : List T} {ts : List Sym} {t : T} {y : Sym} {r2 : List Sym} (hs : seesB ts ec = false) (hq0 : q [] = .inl (4, [])) (hq : q ts = .inr (t, y :: r2)) (hy : y.1 = 44) (hF : ts.length < F) : loopP q ec kind i F acc ts = loopP q ec kind i (F - 1) (acc ++ [t]) r2 := by
  cases F with
  | zero => omega
  | succ F =>
    cases ts with
    | nil => rw [hq0] at hq; cases hq
    | cons x r =>
      rw [loopP, if_neg (seesB_no hs), hq]
      simp only
      rw [if_pos hy]
      rfl
theorem loop_shut {q : List Sym → R} {ec : UInt8} {kind i F : Nat} {acc : List T} {ts : List Sym} {t : T} {y : Sym} {r2 : List Sym} (hs : seesB ts ec = false) (hq0 : q [] = .inl (4, [])) (hq : q ts = .inr (t, y :: r2)) (hy : y.1 ≠ 44) (hy2 : y.1 = ec) (hF : ts.length < F) : loopP q ec kind i F acc ts = .inr (nd kind i (y.2 + 1) (acc ++ [t]), r2) := by
  cases F with
  | zero => omega
  | succ F =>
    cases ts with
    | nil => rw [hq0] at hq; cases hq
    | cons x r =>
      rw [loopP, if_neg (seesB_no hs), hq]
      simp only
      rw [if_neg hy, if_pos hy2]
theorem loop_else {q : List Sym → R} {ec : UInt8} {kind i F : Nat} {acc : List T} {ts rest : List Sym} {t : T} (hs : seesB ts ec = false) (hq0 : q [] = .inl (4, [])) (hq : q ts = .inr (t, rest)) (h1 : seesB rest 44 = false) (h2 : seesB rest ec = false) (hF : ts.length < F) : loopP q ec kind i F acc ts = .inl (4, rest) := by
  cases F with
  | zero => omega
  | succ F =>
    cases ts with
    | nil => rw [hq0] at hq; cases hq
    | cons x r =>
      rw [loopP, if_neg (seesB_no hs), hq]
      cases rest with
      | nil => rfl
      | cons y r2 =>
        simp only
        rw [if_neg (seesB_no h1), if_neg (seesB_no h2)]
/-- How many solid tokens the reader has ahead of it. -/
def nextN (w : World) (B : Nat) : Nat := match w.cell? ⟨B, 2, none⟩ with | some (.int _ n) => n.toNat | _ => 0
def left (L : List UInt8) (l : List Tk) (B : Nat) (w : World) : Nat := (solF L (nextN w B) (l.drop (nextN w B))).length
theorem left_eq {w : World} {B : Nat} {s : ByteArray} {tv : Value} {i d : Nat} {pl er : Int} {l : List Tk} {ts : List Sym} (h : Rd w B s tv i d pl er) (ha : At s.data.toList l i ts) : left s.data.toList l B w = ts.length := by
  have e : nextN w B = i := by
    unfold nextN
    rw [Blk.cell h 2 (.int .i64 (i : Int)) rfl]
    simp
  unfold left
  rw [e, ← ha.eq]
/-- What holds at the head of the loop. -/
structure BInv (w : World) (B N : Nat) (s : ByteArray) (a : Option Addr) (cap : Nat) (l : List Tk) (d f kind i : Nat) (acc : List T) (vss : List (List Value)) (v : Value) (iC : Nat) (pl er : Int) (ts : List Sym) (wr : World) : Prop where
  rd : Rd wr B s (.slice a l.length cap) iC (d + 1) pl er
  at' : At s.data.toList l iC ts
  nb : Blk wr N #[.int .i64 (kind : Int), .int .i64 (i : Int), .int .i64 0, v] 24
  zb : Blk wr w.heap.size #[.int .i64 0, .int .i64 0, .int .i64 0, .slice none 0 0] 24
  own : wr.ownsRow (N + 1) 24 4 v acc.length vss.flatten
  kids : KidsIn (fun b => N + 1 ≤ b ∧ some b ≠ v.ownBlock) f wr vss acc
  gr : w.grownBy wr (some B)
  lt : B < w.heap.size ∧ w.heap.size < N
theorem BInv.sz {w : World} {B N : Nat} {s : ByteArray} {a : Option Addr} {cap : Nat} {l : List Tk} {d f kind i : Nat} {acc : List T} {vss : List (List Value)} {v : Value} {iC : Nat} {pl er : Int} {ts : List Sym} {wr : World} (h : BInv w B N s a cap l d f kind i acc vss v iC pl er ts wr) : N < wr.heap.size := Blk.lt h.nb
/-- Behind what writes the reader alone, and lays new blocks. -/
theorem BInv.on {w : World} {B N : Nat} {s : ByteArray} {a : Option Addr} {cap : Nat} {l : List Tk} {d f kind i : Nat} {acc : List T} {vss : List (List Value)} {v : Value} {iC : Nat} {pl er : Int} {ts : List Sym} {wr wa : World} (h : BInv w B N s a cap l d f kind i acc vss v iC pl er ts wr) (hg : wr.grownBy wa (some B)) {iC' : Nat} {pl' er' : Int} {ts' : List Sym} (hr : Rd wa B s (.slice a l.length cap) iC' (d + 1) pl' er') (ha : At s.data.toList l iC' ts') :
    BInv w B N s a cap l d f kind i acc vss v iC' pl' er' ts' wa := by
  have h1 := h.lt
  refine ⟨hr, ha, Blk.grown h.nb hg (fun e => by injection e with e; omega), Blk.grown h.zb hg (fun e => by injection e with e; omega), own_kept4 h.own hg (by omega), ?_, grown_trans h.gr hg, h1⟩
  exact h.kids.kept hg.size (fun b hb hlt => hg.block b hlt (fun e => by injection e with e; omega))
theorem BInv.below {w : World} {B N : Nat} {s : ByteArray} {a : Option Addr} {cap : Nat} {l : List Tk} {d f kind i : Nat} {acc : List T} {vss : List (List Value)} {v : Value} {iC : Nat} {pl er : Int} {ts : List Sym} {wr wa : World} (h : BInv w B N s a cap l d f kind i acc vss v iC pl er ts wr) (hb : Below wr.heap.size wr wa) :
    BInv w B N s a cap l d f kind i acc vss v iC pl er ts wa := h.on (grown_below hb) (h.rd.below hb) h.at'
/-- One kid more: the row was appended to, the node's cell holds the new one. -/
theorem BInv.more {w : World} {B N : Nat} {s : ByteArray} {a : Option Addr} {cap : Nat} {l : List Tk} {d f kind i : Nat} {acc : List T} {vss : List (List Value)} {v v' : Value} {iC : Nat} {pl er : Int} {ts : List Sym} {wr wx : World} {t : T} {us : List Value} (h : BInv w B N s a cap l d f kind i acc vss v iC pl er ts wr)
    (hL : Lies (fun b => N + 1 ≤ b ∧ some b ≠ v.ownBlock) f wr us t) (hown : wx.ownsRow (N + 1) 24 4 v' (acc.length + 1) (vss.flatten ++ us)) (hg : wr.grownBy wx v.ownBlock) (hat : v'.ownBlock = v.ownBlock ∨ ∀ g, v'.ownBlock = some g → wr.heap.size ≤ g) :
    BInv w B N s a cap l d f kind i (acc ++ [t]) (vss ++ [us]) v' iC pl er ts (wx.setCell ⟨N, 3, none⟩ v') := by
  have h1 := h.lt
  have nB := own_not4 h.own (show B < N + 1 by omega)
  have nN := own_not4 h.own (show N < N + 1 by omega)
  have nW := own_not4 h.own (show w.heap.size < N + 1 by omega)
  have hx : wx.grownBy (wx.setCell ⟨N, 3, none⟩ v') (some N) := grown_set _ _ _ _
  have hxh : ∀ b, b ≠ N → (wx.setCell ⟨N, 3, none⟩ v').heap[b]? = wx.heap[b]? := fun b hb => Below.heap_setCell _ _ _ _ hb
  refine ⟨Blk.set_other (Blk.grown h.rd hg nB) _ _ (show B ≠ N by omega), h.at', ?_, Blk.set_other (Blk.grown h.zb hg nW) _ _ (show w.heap.size ≠ N by omega), ?_, ?_, ?_, h1⟩
  · have := Blk.set (Blk.grown h.nb hg nN) 3 v'
    exact this
  · have e : (acc ++ [t]).length = acc.length + 1 := by simp
    have e2 : (vss ++ [us]).flatten = vss.flatten ++ us := by simp
    rw [e, e2]
    refine hown.kept hx ?_
    cases hv : v'.ownBlock with
    | none => exact .inl rfl
    | some g => exact .inr (fun e => by injection e with e; have := own_ge4 hown g hv; omega)
  · have hk : KidsIn (fun b => N + 1 ≤ b ∧ some b ≠ v.ownBlock) f wr (vss ++ [us]) (acc ++ [t]) := h.kids.snoc hL
    have hk2 := hk.own
    have hk3 : KidsIn (fun b => (N + 1 ≤ b ∧ some b ≠ v.ownBlock) ∧ b < wr.heap.size) f (wx.setCell ⟨N, 3, none⟩ v') (vss ++ [us]) (acc ++ [t]) := hk2.kept (Nat.le_trans hg.size hx.size) (fun b hb hlt => by rw [hxh b (by omega)]; exact hg.block b hlt hb.1.2)
    refine hk3.weaken fun b hb => ⟨hb.1.1, ?_⟩
    rcases hat with e | e
    · rw [e]; exact hb.1.2
    · intro e2
      have := e b e2.symm
      have := hb.2
      omega
  · exact ⟨(hg.os.trans h.gr.os), hg.tape.trans h.gr.tape, hg.output.trans h.gr.output, by simpa [World.setCell] using Nat.le_trans h.gr.size hg.size, fun k hk hr => by
      rw [hxh k (by omega), hg.block k (Nat.lt_of_lt_of_le hk h.gr.size) (fun e => by have := own_ge4 h.own k e.symm; omega)]
      exact h.gr.block k hk hr⟩
theorem own_slice {w : World} {base e n : Nat} {v : Value} {xs : List Value} (h : w.ownsRow base e 4 v n xs) : ∃ p m c, v = .slice p m c := by
  rcases h.2 with ⟨rfl, _⟩ | ⟨g, cap, cur, rfl, _⟩
  · exact ⟨_, _, _, rfl⟩
  · exact ⟨_, _, _, rfl⟩
theorem set_size (w : World) (p : Addr) (v : Value) : (w.setCell p v).heap.size = w.heap.size := by simp [World.setCell]
theorem grown_out {w w' : World} {r : Option Nat} (h : w.grownBy w' r) (b j : Nat) (v : Value) (hb : w.heap.size ≤ b) : w.grownBy (w'.setCell ⟨b, j, none⟩ v) r :=
  ⟨h.os, h.tape, h.output, by rw [set_size]; exact h.size, fun k hk hr => by rw [Below.heap_setCell _ _ _ _ (show k ≠ b by omega)]; exact h.block k hk hr⟩
/-- The end of the loop: the node lies in the answer's block. -/
theorem BInv.nb2 {w : World} {B N : Nat} {s : ByteArray} {a : Option Addr} {cap : Nat} {l : List Tk} {d f kind i : Nat} {acc : List T} {vss : List (List Value)} {v : Value} {iC : Nat} {pl er : Int} {ts : List Sym} {wa w4 : World} (h : BInv w B N s a cap l d f kind i acc vss v iC pl er ts wa) (hg : wa.grownBy w4 (some B)) (z : Value) : Blk w4 N #[.int .i64 (kind : Int), .int .i64 (i : Int), .int .i64 0, v] 24 ∧ Blk (w4.setCell ⟨N, 2, none⟩ z) N #[.int .i64 (kind : Int), .int .i64 (i : Int), z, v] 24 ∧ Blk (w4.setCell ⟨N, 2, none⟩ z) w.heap.size #[.int .i64 0, .int .i64 0, .int .i64 0, .slice none 0 0] 24 := by
  have h1 := h.lt
  have k1 := Blk.grown h.nb hg (fun e => by injection e with e; omega)
  have k2 := Blk.grown h.zb hg (fun e => by injection e with e; omega)
  refine ⟨k1, ?_, Blk.set_other k2 _ _ (show w.heap.size ≠ N by omega)⟩
  have := Blk.set k1 2 z
  exact this
theorem BInv.fin {w : World} {B N : Nat} {s : ByteArray} {a : Option Addr} {cap : Nat} {l : List Tk} {d f kind i : Nat} {acc : List T} {vss : List (List Value)} {v : Value} {iC : Nat} {pl er : Int} {ts : List Sym} {wa w4 : World} (h : BInv w B N s a cap l d f kind i acc vss v iC pl er ts wa) (hg : wa.grownBy w4 (some B)) {i4 : Nat} {pl4 er4 : Int} {r1 : List Sym} (hr : Rd w4 B s (.slice a l.length cap) i4 d pl4 er4) (ha : At s.data.toList l i4 r1) (e : Nat) (z : Int) (hz : z = e) :
    Res B s a cap l d (f + 1) w (.inr (nd kind i e acc, r1)) (.returned (.tuple #[.agg #[.int .i64 (kind : Int), .int .i64 (i : Int), .int .i64 z, v], .bool true])) (put4 (w4.setCell ⟨N, 2, none⟩ (.int .i64 z)) w.heap.size (.int .i64 (kind : Int)) (.int .i64 (i : Int)) (.int .i64 z) v) := by
  subst hz
  have h1 := h.lt
  have hgr := grown_trans h.gr hg
  have hx : w4.grownBy (w4.setCell ⟨N, 2, none⟩ (.int .i64 (e : Int))) (some N) := grown_set _ _ _ _
  have hb : ∀ b, N + 1 ≤ b → (put4 (w4.setCell ⟨N, 2, none⟩ (.int .i64 (e : Int))) w.heap.size (.int .i64 (kind : Int)) (.int .i64 (i : Int)) (.int .i64 (e : Int)) v).heap[b]? = w4.heap[b]? := fun b hb => by
    rw [put4_heap (by omega), Below.heap_setCell _ _ _ _ (show b ≠ N by omega)]
  have hsz : (put4 (w4.setCell ⟨N, 2, none⟩ (.int .i64 (e : Int))) w.heap.size (.int .i64 (kind : Int)) (.int .i64 (i : Int)) (.int .i64 (e : Int)) v).heap.size = w4.heap.size := by
    rw [put4_size, set_size]
  have hgF : w.grownBy (put4 (w4.setCell ⟨N, 2, none⟩ (.int .i64 (e : Int))) w.heap.size (.int .i64 (kind : Int)) (.int .i64 (i : Int)) (.int .i64 (e : Int)) v) (some B) := put4_grown (grown_out hgr N 2 _ (by omega)) (Nat.le_refl _) _ _ _ _
  refine ⟨hgF, _, _, _, _, rfl, ?_, i4, pl4, er4, put4_other (Blk.set_other hr _ _ (show B ≠ N by omega)) (show B ≠ w.heap.size by omega) _ _ _ _, ha⟩
  have hk4 : KidsIn (fun b => N + 1 ≤ b ∧ some b ≠ v.ownBlock) f w4 vss acc := h.kids.kept hg.size (fun b hb hlt => hg.block b hlt (fun e => by injection e with e; omega))
  have hkF := (hk4.kept (w' := put4 (w4.setCell ⟨N, 2, none⟩ (.int .i64 (e : Int))) w.heap.size (.int .i64 (kind : Int)) (.int .i64 (i : Int)) (.int .i64 (e : Int)) v) (by rw [hsz]; exact Nat.le_refl _) (fun b hb' hlt => hb b hb'.1)).weaken (ok' := fun b => w.heap.size ≤ b) (fun b hb => by omega)
  refine lies_own (base := N + 1) (ty := 24) hkF ?_ (fun b hb => by omega)
  have ho4 := own_kept4 h.own hg (show B < N + 1 by omega)
  have ho5 : (w4.setCell ⟨N, 2, none⟩ (.int .i64 (e : Int))).ownsRow (N + 1) 24 4 v acc.length vss.flatten := own_kept4 ho4 hx (by omega)
  have hput : (w4.setCell ⟨N, 2, none⟩ (.int .i64 (e : Int))).grownBy (put4 (w4.setCell ⟨N, 2, none⟩ (.int .i64 (e : Int))) w.heap.size (.int .i64 (kind : Int)) (.int .i64 (i : Int)) (.int .i64 (e : Int)) v) (some w.heap.size) :=
    ⟨rfl, rfl, rfl, by rw [put4_size]; exact Nat.le_refl _, fun k hk hr => put4_heap (fun e => hr (by rw [e])) _ _ _ _⟩
  exact own_kept4 ho5 hput (by omega)
/-- Nothing was read: the answer's block holds zeroes. -/
theorem fail_end {w wx : World} {B : Nat} {s : ByteArray} {a : Option Addr} {cap : Nat} {l : List Tk} {d f c : Nat} {te : List Sym} {i d' : Nat} (hB : B < w.heap.size) (hg : w.grownBy wx (some B)) (hz : Blk wx w.heap.size #[.int .i64 0, .int .i64 0, .int .i64 0, .slice none 0 0] 24) (hr : Rd wx B s (.slice a l.length cap) i d' (placeOf s l te : Int) (c : Int)) :
    Res B s a cap l d f w (.inl (c, te)) (.returned (.tuple #[(.agg #[.int .i64 0, .int .i64 0, .int .i64 0, .slice none 0 0]), .bool false])) (put4 wx w.heap.size (.int .i64 0) (.int .i64 0) (.int .i64 0) (.slice none 0 0)) ∧ Cells4 (put4 wx w.heap.size (.int .i64 0) (.int .i64 0) (.int .i64 0) (.slice none 0 0)) w.heap.size (.int .i64 0) (.int .i64 0) (.int .i64 0) (.slice none 0 0) :=
  ⟨⟨put4_grown hg (Nat.le_refl _) _ _ _ _, rfl, i, d', put4_other hr (show B ≠ w.heap.size by omega) _ _ _ _⟩, Blk.cells4 (put4_blk hz _ _ _ _)⟩
theorem Lies.form {ok : Nat → Prop} {f : Nat} {w : World} {u0 u1 u2 u3 : Value} {t : T} (h : Lies ok f w [u0, u1, u2, u3] t) : ∃ (k a e : Nat) (p : Option Addr) (n c : Nat), u0 = .int .i64 (k : Int) ∧ u1 = .int .i64 (a : Int) ∧ u2 = .int .i64 (e : Int) ∧ u3 = .slice p n c := by
  cases f with
  | zero => exact h.elim
  | succ f =>
    obtain ⟨k, a, e, l, p, cap, _, hv, _⟩ := h
    injection hv with h0 hv
    injection hv with h1 hv
    injection hv with h2 hv
    injection hv with h3 _
    exact ⟨k, a, e, p, _, cap, h0, h1, h2, h3⟩
theorem loc_less {q : List Sym → R} (hq : Loc q) {ts rest : List Sym} {t : T} (h : q ts = .inr (t, rest)) : rest.length < ts.length := by
  obtain ⟨p, hp, e, _⟩ := hq.good _ _ _ h
  have := List.length_pos_iff.2 hp
  rw [e, List.length_append]
  omega
end Go.Proofs.Ytoikdjbgeebadaa.trees
/- Answers that are handed on; an entry's node in memory. -/
set_option linter.unusedVariables false
namespace Go.Proofs.Ytoikdjbgeebadaa.trees
open Go.RowKit
open toks

theorem put4_lies {w : World} {R0 : Nat} {ok : Nat → Prop} {f : Nat} {vs : List Value} {t : T} (h : Lies ok f w vs t) (ho : ∀ b, ok b → b ≠ R0) (u0 u1 u2 u3 : Value) : Lies ok f (put4 w R0 u0 u1 u2 u3) vs t :=
  h.kept (by rw [put4_size]; exact Nat.le_refl _) (fun b hb _ => put4_heap (ho b hb) _ _ _ _)
/-- A node that a callee has read lies in the answer's block, too. -/
theorem pass_good {u u1 w' : World} {B R0 : Nat} {s : ByteArray} {a : Option Addr} {cap : Nat} {l : List Tk} {d f i : Nat} {pl er : Int} {t : T} {ts : List Sym} {x0 x1 x2 x3 v0 v1 v2 v3 : Value} (hB : B < u.heap.size) (h0 : u.heap.size ≤ R0) (h1 : R0 < u1.heap.size) (hg : u.grownBy u1 (some B)) (hg1 : u1.grownBy w' (some B)) (hz : Blk w' R0 #[x0, x1, x2, x3] 24)
    (hL : Lies (fun b => u1.heap.size ≤ b) f w' [v0, v1, v2, v3] t) (hr : Rd w' B s (.slice a l.length cap) i d pl er) (ha : At s.data.toList l i ts) :
    Res B s a cap l d f u (.inr (t, ts)) (.returned (.tuple #[.agg #[v0, v1, v2, v3], .bool true])) (put4 w' R0 v0 v1 v2 v3) ∧ Cells4 (put4 w' R0 v0 v1 v2 v3) R0 v0 v1 v2 v3 := by
  refine ⟨⟨put4_grown (grown_trans hg hg1) h0 _ _ _ _, v0, v1, v2, v3, rfl, ?_, i, pl, er, put4_other hr (show B ≠ R0 by omega) _ _ _ _, ha⟩, Blk.cells4 (put4_blk hz _ _ _ _)⟩
  exact (put4_lies hL (fun b hb => by omega) _ _ _ _).weaken (fun b hb => by omega)
theorem pass_bad {u u1 w' : World} {B R0 : Nat} {s : ByteArray} {a : Option Addr} {cap : Nat} {l : List Tk} {d f i d' c : Nat} {te : List Sym} {x0 x1 x2 x3 : Value} (hB : B < u.heap.size) (h0 : u.heap.size ≤ R0) (hg : u.grownBy u1 (some B)) (hg1 : u1.grownBy w' (some B)) (hz : Blk w' R0 #[x0, x1, x2, x3] 24)
    (hr : Rd w' B s (.slice a l.length cap) i d' (placeOf s l te : Int) (c : Int)) :
    Res B s a cap l d f u (.inl (c, te)) (.returned (.tuple #[(.agg #[.int .i64 0, .int .i64 0, .int .i64 0, .slice none 0 0]), .bool false])) (put4 w' R0 (.int .i64 0) (.int .i64 0) (.int .i64 0) (.slice none 0 0)) ∧ Cells4 (put4 w' R0 (.int .i64 0) (.int .i64 0) (.int .i64 0) (.slice none 0 0)) R0 (.int .i64 0) (.int .i64 0) (.int .i64 0) (.slice none 0 0) :=
  ⟨⟨put4_grown (grown_trans hg hg1) h0 _ _ _ _, rfl, i, d', put4_other hr (show B ≠ R0 by omega) _ _ _ _⟩, Blk.cells4 (put4_blk hz _ _ _ _)⟩
/-- The return, where the answer lies in such a block. -/
theorem ret_put {P : Program} {fn : Func} {Post : Ending → World → Prop} {a : Act} {w : World} {R0 : Nat} {u0 u1 u2 u3 v : Value} (hc : Cells4 (put4 w R0 u0 u1 u2 u3) R0 u0 u1 u2 u3) (hr : ∀ wF, Cells4 wF R0 u0 u1 u2 u3 → (results fn a.tmps).run P wF = .ok v wF) (hd : a.defers = []) (hP : Post (.returned v) (put4 w R0 u0 u1 u2 u3)) : bodyPost P fn Post .ret a (put4 w R0 u0 u1 u2 u3) :=
  bodyPost_ret (hr _ hc) hd hP
theorem Lies.form' {ok : Nat → Prop} {f : Nat} {w : World} {u0 u1 u2 u3 : Value} {t : T} (h : Lies ok f w [u0, u1, u2, u3] t) : ∃ (k a e : Nat) (p : Option Addr) (n c : Nat), u0 = .int .i64 (k : Int) ∧ u1 = .int .i64 (a : Int) ∧ u2 = .int .i64 (e : Int) ∧ u3 = .slice p n c ∧ endT t = e ∧ ∃ f', f = f' + 1 := by
  cases f with
  | zero => exact h.elim
  | succ f =>
    obtain ⟨k, a, e, l, p, cap, rfl, hv, _⟩ := h
    injection hv with h0 hv
    injection hv with h1 hv
    injection hv with h2 hv
    injection hv with h3 _
    exact ⟨k, a, e, p, _, cap, h0, h1, h2, h3, rfl, f, rfl⟩
/-- What an entry's walk keeps. -/
structure EInv (w : World) (B K : Nat) (i : Nat) (wr : World) : Prop where
  zb : Blk wr w.heap.size #[.int .i64 0, .int .i64 0, .int .i64 0, .slice none 0 0] 24
  kb : Blk wr K #[.int .i64 2, .int .i64 (i : Int), .int .i64 ((i : Int) + 1), .slice none 0 0] 24
  gr : w.grownBy wr (some B)
  lt : B < w.heap.size ∧ w.heap.size < K
theorem EInv.on {w wr wa : World} {B K i : Nat} (h : EInv w B K i wr) (hg : wr.grownBy wa (some B)) : EInv w B K i wa := by
  have h1 := h.lt
  exact ⟨Blk.grown h.zb hg (fun e => by injection e with e; omega), Blk.grown h.kb hg (fun e => by injection e with e; omega), grown_trans h.gr hg, h1⟩
/-- A node with two kids, in a row that was just laid. -/
theorem lies_pair {ok : Nat → Prop} {f : Nat} {w : World} {S : Nat} {k a e : Nat} {i : Nat} {u0 u1 u2 u3 : Value} {v : T} {t : TypeId} (hS : Blk w S #[.int .i64 2, .int .i64 (i : Int), .int .i64 ((i : Int) + 1), .slice none 0 0, u0, u1, u2, u3] t) (hok : ok S) (hv : Lies ok (f + 1) w [u0, u1, u2, u3] v) :
    Lies ok (f + 2) w [.int .i64 (k : Int), .int .i64 (a : Int), .int .i64 (e : Int), .slice (some ⟨S, 0, none⟩) 2 2] (nd k a e [nd 2 i (i + 1) [], v]) := by
  refine ⟨k, a, e, [nd 2 i (i + 1) [], v], some ⟨S, 0, none⟩, 2, rfl, rfl, Nat.le_refl _, fun _ => ⟨S, 0, rfl, hok, Blk.lt hS, fun j hj => ?_⟩⟩
  match j, hj with
  | 0, _ =>
    refine ⟨[.int .i64 2, .int .i64 (i : Int), .int .i64 ((i : Int) + 1), .slice none 0 0], rfl, fun m hm => ?_, ?_⟩
    · match m, hm with
      | 0, _ => exact Blk.cell hS 0 _ rfl
      | 1, _ => exact Blk.cell hS 1 _ rfl
      | 2, _ => exact Blk.cell hS 2 _ rfl
      | 3, _ => exact Blk.cell hS 3 _ rfl
    · have := lies_leaf ok f w 2 i (i + 1)
      rw [show ((i + 1 : Nat) : Int) = (i : Int) + 1 by omega] at this
      exact this
  | 1, _ =>
    refine ⟨[u0, u1, u2, u3], rfl, fun m hm => ?_, hv⟩
    match m, hm with
    | 0, _ => exact Blk.cell hS 4 _ rfl
    | 1, _ => exact Blk.cell hS 5 _ rfl
    | 2, _ => exact Blk.cell hS 6 _ rfl
    | 3, _ => exact Blk.cell hS 7 _ rfl
theorem ent_none {q : List Sym → R} {ts : List Sym} (h : seesB ts 120 = false) : entP q ts = .inl (4, ts) := by
  match ts with
  | [] => rfl
  | [x] => rw [ent_one, if_neg (seesB_no h)]
  | x :: m :: r => rw [ent_two, if_neg (seesB_no h)]
theorem ent_key {q : List Sym → R} {x : Sym} {r : List Sym} (hx : x.1 = 120) (h1 : seesB r 58 = false) (h2 : seesB r 61 = false) : entP q (x :: r) = .inl (4, r) := by
  match r with
  | [] => rw [ent_one, if_pos hx]
  | m :: r => rw [ent_two, if_pos hx, if_neg (fun e => e.elim (seesB_no h1) (seesB_no h2))]
theorem ent_val_bad {q : List Sym → R} {x m : Sym} {r : List Sym} {e : Nat × List Sym} (hx : x.1 = 120) (hm : m.1 = 58 ∨ m.1 = 61) (h : q r = .inl e) : entP q (x :: m :: r) = .inl e := by
  rw [ent_two, if_pos hx, if_pos hm, h]
theorem ent_val_good {q : List Sym → R} {x m : Sym} {r r2 : List Sym} {v : T} (hx : x.1 = 120) (hm : m.1 = 58 ∨ m.1 = 61) (h : q r = .inr (v, r2)) : entP q (x :: m :: r) = .inr (nd 4 x.2 (endT v) [nd 2 x.2 (x.2 + 1) [], v], r2) := by
  rw [ent_two, if_pos hx, if_pos hm, h]
end Go.Proofs.Ytoikdjbgeebadaa.trees
/- The walk of package tree's between: what stands between two marks. -/
set_option linter.unusedVariables false
namespace Go.Proofs.Ytoikdjbgeebadaa.trees
open Go.RowKit
open toks

set_option maxHeartbeats 4000000 in
set_option maxRecDepth 100000 in
theorem between_1 (w : World) (B P : Nat) (s : ByteArray) (a : Option Addr) (cap : Nat) (l : List Tk) (i d : Nat) (pl er : Int) (x : Sym) (r : List Sym) (q : List Sym → R) (kind f : Nat) (ec : UInt8) (m1 : ec ≠ 63) (m2 : ec ≠ 120) (m3 : ec ≠ 44) (hkind : kind ≤ 6) (hd : d ≤ 20)
    (hr : Rd w B s (.slice a l.length cap) i d pl er) (ht : TkIn w B a l) (g : Good s l) (hat : At s.data.toList l i (x :: r)) (hP : w.cell? ⟨P, 0, none⟩ = some ((.pointer (some ⟨B, 0, none⟩)))) (hPB : P ≠ B) (hq0 : q [] = .inl (4, [])) (hql : Loc q)
    (KID : ∀ (u : World) (j : Nat) (pl er : Int) (ts : List Sym), Rd u B s (.slice a l.length cap) j (d + 1) pl er → TkIn u B a l → At s.data.toList l j ts → u.cell? ⟨P, 0, none⟩ = some ((.pointer (some ⟨B, 0, none⟩))) → Calls Try.prog 47 #[(.pointer (some ⟨P, 0, none⟩))] u (Res B s a cap l (d + 1) f u (q ts))) :
    Calls Try.prog 46 #[(.pointer (some ⟨B, 0, none⟩)), .int .i64 (kind : Int), .int .u8 (ec.toNat : Int), .func (.func 47) #[] #[(.pointer (some ⟨P, 0, none⟩))]] w (Res B s a cap l d (f + 1) w (loopP q ec kind x.2 (r.length + 1) [] r)) := by
  obtain ⟨hi, hx, hs, h3, hre⟩ := at_cons hat
  have hB := Blk.lt hr
  have hlen := hat.len
  have K1 : Hid _ := hide (take_any ((World.alloc w (.cells #[.int .i64 0, .int .i64 0, .int .i64 0, .slice none 0 0] 24))) B s a cap l i d pl er (Blk.alloc hr _) (ht.below ((Below.refl _ w).alloc (Nat.le_refl _) _)) g hi)
  have HP := hide hP
  have HT := hide ht
  have HG := hide g
  have HK := hide KID
  have HL := hide hql
  have HB := hide hB
  have HRE := hide hre
  have hl := g.len
  rw [hx]
  clear hr ht g hat hP KID hql hB hs h3 hre hx
  suffices FIN : ∀ Post : Ending → World → Prop, Hid (∀ e w', Res B s a cap l d (f + 1) w (loopP q ec kind i (r.length + 1) [] r) e w' → Post e w') → Calls Try.prog 46 #[(.pointer (some ⟨B, 0, none⟩)), .int .i64 (kind : Int), .int .u8 (ec.toNat : Int), .func (.func 47) #[] #[(.pointer (some ⟨P, 0, none⟩))]] w Post from FIN _ (hide fun _ _ h => h)
  intro Post HPost
  go_enter Try.func46, Try.ntmps46
  go_wp2_with fail
  refine (unhide K1).mono ?_
  rintro e w1 ⟨j, rfl, h1, h2, h3⟩
  dsimp only
  have hB := unhide HB
  have hs1 : w.heap.size + 1 ≤ w1.heap.size := by have := h3.size; simpa using this
  have hzb : Blk w1 w.heap.size #[.int .i64 0, .int .i64 0, .int .i64 0, .slice none 0 0] 24 := Blk.grown (blk_alloc w _ _) h3 (fun e => by injection e with e; omega)
  have hg1 : w.grownBy w1 (some B) := grown_trans (grown_alloc (grown_refl w _) _) h3
  have nb := blk_alloc w1 #[.int .i64 (kind : Int), .int .i64 (i : Int), .int .i64 0, .slice none 0 0] 24
  have rb : Rd (w1.alloc (.cells #[.int .i64 (kind : Int), .int .i64 (i : Int), .int .i64 0, .slice none 0 0] 24)) B s (.slice a l.length cap) j d pl er := Blk.alloc h2 _
  have rc := Blk.cell rb 3 (.int .i64 (d : Int)) rfl
  have rf := Blk.froz rb 3
  have NB := hide (Blk.set_other nb ⟨B, 3, none⟩ (.int .i64 ((d : Int) + 1)) (show w1.heap.size ≠ B by omega))
  have RB := hide (rb.lev ((d : Int) + 1) (d + 1) (by omega))
  have ZB := hide (Blk.set_other (Blk.alloc hzb (.cells #[.int .i64 (kind : Int), .int .i64 (i : Int), .int .i64 0, .slice none 0 0] 24)) ⟨B, 3, none⟩ (.int .i64 ((d : Int) + 1)) (show w.heap.size ≠ B by omega))
  have G1 := hide (grown_trans (grown_alloc hg1 (.cells #[.int .i64 (kind : Int), .int .i64 (i : Int), .int .i64 0, .slice none 0 0] 24)) (grown_set _ B 3 (.int .i64 ((d : Int) + 1))))
  have N1 := hide h1
  clear K1 h1 h2 h3 hB hzb hg1 nb rb
  go_wp2_with fail
  clear rc rf
  generalize hW : ((w1.alloc (.cells #[.int .i64 (kind : Int), .int .i64 (i : Int), .int .i64 0, .slice none 0 0] 24)).setCell ⟨B, 3, none⟩ (.int .i64 ((d : Int) + 1))) = w2 at *
  have hlt : B < w.heap.size ∧ w.heap.size < w1.heap.size := ⟨unhide HB, by omega⟩
  have I0 : Hid (BInv w B w1.heap.size s a cap l d f kind i [] [] (.slice none 0 0) j pl er r w2) := hide ⟨unhide RB, by rw [unhide HRE]; exact (unhide N1).at, unhide NB, unhide ZB, World.ownsRow_nil _ _ _ _, kidsIn_nil _ _ _, unhide G1, hlt⟩
  have hrl : r.length + 1 ≤ l.length := hlen
  clear hW NB RB ZB G1 N1 HRE HB hs1 hlen hlt hi
  generalize w1.heap.size = N at *
  clear w1
  go_loopw [11] (fun _ wr => ∃ (acc : List T) (vss : List (List Value)) (v : Value) (iC : Nat) (pl er : Int) (ts : List Sym) (F : Nat), ts.length < F ∧ acc.length + ts.length ≤ l.length ∧ Hid (loopP q ec kind i F acc ts = loopP q ec kind i (r.length + 1) [] r) ∧ Hid (BInv w B N s a cap l d f kind i acc vss v iC pl er ts wr)) (fun _ wr => left s.data.toList l B wr)
  case atStart => exact ⟨[], [], _, j, pl, er, r, r.length + 1, by omega, by simp; omega, hide rfl, I0⟩
  case round =>
    obtain ⟨acc, vss, v, iC, pl1, er1, ts, F, hF, hA, HE, HI⟩ := hrel
    obtain ⟨pv0, nv0, cv0, rfl⟩ := own_slice (unhide HI).own
    have HLW : Hid (left s.data.toList l B wr = ts.length) := hide (left_eq (unhide HI).rd (unhide HI).at')
    have KS : Hid _ := hide (seesMark_any wr B s a cap l iC (d + 1) pl1 er1 ts ec m1 m2 (unhide HI).rd ((unhide HT).grown (unhide HI).gr) (unhide HG) (unhide HI).at')
    cases hse : seesB ts ec with
    | true =>
      obtain ⟨x1, r1, rfl, hx1⟩ := seesB_yes hse
      have RES : Hid (loopP q ec kind i (r.length + 1) [] r = .inr (nd kind i (x1.2 + 1) acc, r1)) := hide (by rw [← unhide HE]; exact loop_end hx1 hF)
      rw [hse] at KS
      clear HE hse hx1 hF HK HL
      go_wp2_with fail
      refine (unhide KS).mono ?_
      rintro e wa ⟨rfl, hba⟩
      dsimp only
      have I1 := (unhide HI).below hba
      have c3 := Blk.cell I1.rd 3 (.int .i64 ((d : Int) + 1)) (by simp)
      have z3 := Blk.froz I1.rd 3
      have hgs := grown_set wa B 3 (.int .i64 (d : Int))
      obtain ⟨hi1, hx1, hre1⟩ := at_two I1.at'
      have K2 := hide (take_any _ B s a cap l iC d pl1 er1 (I1.rd.lev (d : Int) d rfl) (((unhide HT).grown I1.gr).grown hgs) (unhide HG) hi1)
      have HI1 := hide I1
      have HR1 := hide hre1
      have HX1 := hide hx1
      have HGS := hide hgs
      clear KS hba I1 HI hx1 hre1 hgs
      go_wp2_with fail
      refine (unhide K2).mono ?_
      rintro e w4 ⟨i4, rfl, n4, rd4, g4⟩
      dsimp only
      have g5 := grown_trans (unhide HGS) g4
      obtain ⟨k1, k2, k3⟩ := (unhide HI1).nb2 g5 (.int .i64 ((iC : Int) + 1))
      have p2 := Blk.cell k1 2 _ rfl
      have y2 := Blk.froz k1 2
      obtain ⟨q0, q1, q2, q3⟩ := Blk.cells4 k2
      obtain ⟨z0, z1, z2, z3⟩ := Blk.cells4 k3
      obtain ⟨y0, y1, y2', y3⟩ := Blk.froz4 k3
      have a4 : At s.data.toList l i4 r1 := unhide HR1 _ n4
      have FIN := hide ((unhide HI1).fin g5 rd4 a4 (x1.2 + 1) ((iC : Int) + 1) (by rw [unhide HX1]; omega))
      have FB := hide (put4_blk k3 (.int .i64 (kind : Int)) (.int .i64 (i : Int)) (.int .i64 ((iC : Int) + 1)) (.slice pv0 nv0 cv0))
      clear K2 n4 rd4 g4 g5 k1 k2 k3 a4 HI1 HR1 HX1 HGS c3
      go_wp2
      have FN := unhide FIN
      obtain ⟨f0, f1, f2, f3⟩ := Blk.cells4 (unhide FB)
      refine bodyPost_ret (v := .tuple #[.agg #[.int .i64 (kind : Int), .int .i64 (i : Int), .int .i64 ((iC : Int) + 1), .slice pv0 nv0 cv0], .bool true]) (by simp [results, Try.results46, go_sem, f0, f1, f2, f3]) rfl ?_
      refine unhide HPost _ _ ?_
      rw [unhide RES]
      exact FN
    | false =>
      rw [hse] at KS
      go_wp2_with fail
      refine (unhide KS).mono ?_
      rintro e wa ⟨rfl, hba⟩
      dsimp only
      have I1 := (unhide HI).below hba
      have KK := hide (unhide HK wa iC pl1 er1 ts I1.rd ((unhide HT).grown I1.gr) I1.at' (I1.gr.cell (unhide HP) (fun e => by injection e with e; exact hPB e)))
      have HI1 := hide I1
      have HSE := hide hse
      clear KS hba I1 HI HK hse
      cases hq : q ts with
      | inl er =>
        obtain ⟨c, te⟩ := er
        have RES : Hid (loopP q ec kind i (r.length + 1) [] r = .inl (c, te)) := hide (by rw [← unhide HE]; exact loop_kid_bad (unhide HSE) hq0 hq hF)
        rw [hq] at KK
        clear hq HE HSE hF HL hq0
        go_wp2_with fail
        refine (unhide KK).mono ?_
        rintro e wb ⟨hg, rfl, ib, db, rb⟩
        dsimp only
        have zb2 := Blk.alloc (Blk.grown (unhide HI1).zb hg (fun e => by injection e with e; have := (unhide HI1).lt; omega)) (.cells #[.int .i64 0, .int .i64 0, .int .i64 0, .slice none 0 0] 24)
        have rb2 : Rd ((World.alloc wb (.cells #[.int .i64 0, .int .i64 0, .int .i64 0, .slice none 0 0] 24))) B s (.slice a l.length cap) ib db _ _ := Blk.alloc rb _
        have G2 := hide (grown_alloc (grown_trans (unhide HI1).gr hg) (.cells #[.int .i64 0, .int .i64 0, .int .i64 0, .slice none 0 0] 24))
        obtain ⟨z0, z1, z2, z3⟩ := Blk.cells4 zb2
        obtain ⟨y0, y1, y2, y3⟩ := Blk.froz4 zb2
        have FE := hide (fail_end (d := d) (f := f + 1) (unhide HI1).lt.1 (grown_alloc (grown_trans (unhide HI1).gr hg) _) zb2 rb2)
        clear KK hg rb zb2 rb2 HI1 G2
        go_wp2
        obtain ⟨FE1, f0, f1, f2, f3⟩ := unhide FE
        refine bodyPost_ret (v := .tuple #[(.agg #[.int .i64 0, .int .i64 0, .int .i64 0, .slice none 0 0]), .bool false]) (by simp [results, Try.results46, go_sem, f0, f1, f2, f3]) rfl ?_
        refine unhide HPost _ _ ?_
        rw [unhide RES]
        exact FE1
      | inr tr =>
        obtain ⟨t, rest⟩ := tr
        have hless := loc_less (unhide HL) hq
        have EM : Hid (left s.data.toList l B wr = ts.length) := HLW
        have HQ := hide hq
        rw [hq] at KK
        clear hq HL
        go_wp2_with fail
        refine (unhide KK).mono ?_
        rintro e wb ⟨hg, u0, u1, u2, u3, rfl, hL, ib, plb, erb, rb, ab⟩
        dsimp only
        obtain ⟨k0, a0, e0, pk, nk, ck, rfl, rfl, rfl, rfl⟩ := hL.form
        have I2 := (unhide HI1).on hg rb ab
        have bc : Below wb.heap.size wb (wb.alloc (.cells #[.int .i64 (k0 : Int), .int .i64 (a0 : Int), .int .i64 (e0 : Int), .slice pk nk ck] 24)) := (Below.refl _ wb).alloc (Nat.le_refl _) _
        have I3 := I2.below bc
        have n3 := Blk.cell I3.nb 3 (.slice pv0 nv0 cv0) rfl
        obtain ⟨j0, j1, j2, j3⟩ := Blk.cells4 (blk_alloc wb #[.int .i64 (k0 : Int), .int .i64 (a0 : Int), .int .i64 (e0 : Int), .slice pk nk ck] 24)
        have hL2 := hide (hL.weaken (ok' := fun b => N + 1 ≤ b ∧ some b ≠ (Value.slice pv0 nv0 cv0).ownBlock) (fun b hb => ⟨by have := (unhide HI1).sz; omega, fun e => by have := ((unhide HI1).own.lt b e.symm).2; omega⟩))
        have HI2 := hide I2
        have HI3 := hide I3
        have hNs := I3.sz
        have hown3 := I3.own
        clear KK hg rb ab hL I2 I3 bc HI1
        obtain ⟨i0, hinf, hz0, hz1, hz2⟩ := info_parts infoNode
        go_wp2_with (at_builtin; refine wpList_append_lies _ rfl _ _ 22 rfl (N + 1) 24 i0 (.agg #[.int .i64 0, .int .i64 0, .int .i64 0, .slice none 0 0]) 4 48 Try.underlying22 hinf hz0 hz1 hz2 rfl (by decide) _ _ _ rfl (hown3.alloc _) ⟨wb.heap.size + 1, 0, none⟩ 1 1 [.int .i64 (k0 : Int), .int .i64 (a0 : Int), .int .i64 (e0 : Int), .slice pk nk ck] rfl rfl ?c1 ?c2 ?c3 ?c4 ?c5 ?c6 (wb.heap.size + 2) ?c7 ?_)
        case c1 =>
          have := cell_four_new (wb.alloc (.cells #[.int .i64 (k0 : Int), .int .i64 (a0 : Int), .int .i64 (e0 : Int), .slice pk nk ck] 24)) (.int .i64 (k0 : Int)) (.int .i64 (a0 : Int)) (.int .i64 (e0 : Int)) (.slice pk nk ck) 24
          simpa using this
        case c2 => intro u hu; simp at hu; rcases hu with rfl | rfl | rfl | rfl <;> rfl
        case c3 => decide
        case c4 => unfold maxLen; omega
        case c5 => omega
        case c6 => simp at hNs ⊢; omega
        case c7 => simp
        intro g cap' wx hown2 hg2 hat hlt2
        have I4 := (unhide HI3).below ((Below.refl (wb.alloc (.cells #[.int .i64 (k0 : Int), .int .i64 (a0 : Int), .int .i64 (e0 : Int), .slice pk nk ck] 24)).heap.size _).alloc (Nat.le_refl _) (.cells #[.int .i64 (k0 : Int), .int .i64 (a0 : Int), .int .i64 (e0 : Int), .slice pk nk ck] 24))
        have hL4 := (((unhide hL2).below ((Below.refl _ wb).alloc (Nat.le_refl _) (.cells #[.int .i64 (k0 : Int), .int .i64 (a0 : Int), .int .i64 (e0 : Int), .slice pk nk ck] 24))).below ((Below.refl _ _).alloc (Nat.le_refl _) (.cells #[.int .i64 (k0 : Int), .int .i64 (a0 : Int), .int .i64 (e0 : Int), .slice pk nk ck] 24)))
        have nx := Blk.grown I4.nb hg2 (own_not4 I4.own (Nat.lt_succ_self N))
        have nx3 := Blk.cell nx 3 (.slice pv0 nv0 cv0) rfl
        have nf3 := Blk.froz nx 3
        have I5 := hide (I4.more hL4 hown2 hg2 (by
          rcases hat with e | e
          · exact .inl (by rw [e]; rfl)
          · refine .inr (fun g' hg' => ?_)
            have e2 : some g = some g' := hg'
            injection e2 with e2
            simp
            omega))
        clear I4 hL4 nx hown2 hg2 hat hlt2 HI2 HI3 hL2 n3 j0 j1 j2 j3 hNs hown3 hinf hz0 hz1 hz2 i0
        have hA2 : (acc ++ [t]).length + rest.length ≤ l.length := by simp; omega
        go_wp2_with fail
        clear nx3 nf3
        generalize wx.setCell ⟨N, 3, none⟩ (.slice (some ⟨g, 0, none⟩) (acc.length + 1) cap') = w5 at *
        have KS2 := hide (seesMark_any w5 B s a cap l ib (d + 1) plb erb rest 44 (by decide) (by decide) (unhide I5).rd ((unhide HT).grown (unhide I5).gr) (unhide HG) (unhide I5).at')
        cases h44 : seesB rest 44 with
        | true =>
          obtain ⟨y, r2, rfl, hy⟩ := seesB_yes h44
          have HE2 : Hid (loopP q ec kind i (F - 1) (acc ++ [t]) r2 = loopP q ec kind i (r.length + 1) [] r) := hide (by rw [← unhide HE]; exact (loop_comma (unhide HSE) hq0 (unhide HQ) hy hF).symm)
          rw [h44] at KS2
          clear h44 hy HE HSE HQ
          refine (unhide KS2).mono ?_
          rintro e w6 ⟨rfl, hb6⟩
          dsimp only
          have I6 := (unhide I5).below hb6
          obtain ⟨hi6, hx6, hre6⟩ := at_two I6.at'
          have K6 := hide (take_any w6 B s a cap l ib (d + 1) plb erb I6.rd ((unhide HT).grown I6.gr) (unhide HG) hi6)
          have HI6 := hide I6
          have HR6 := hide hre6
          clear KS2 hb6 I6 I5 hre6 hi6 hx6
          go_wp2_with fail
          refine (unhide K6).mono ?_
          rintro e w7 ⟨i7, rfl, n7, rd7, g7⟩
          dsimp only
          have a7 : At s.data.toList l i7 r2 := unhide HR6 _ n7
          have HI7 := hide ((unhide HI6).on g7 rd7 a7)
          have hlen2 : (y :: r2).length = r2.length + 1 := rfl
          have EM7 := hide (left_eq rd7 a7)
          clear K6 n7 rd7 g7 a7 HI6 HR6
          go_wp2
          go_roundw
          case rel => exact ⟨acc ++ [t], vss ++ [_], _, i7, plb, erb, r2, F - 1, by omega, by omega, HE2, HI7⟩
          case measure => rw [unhide EM, unhide EM7]; omega
        | false =>
          rw [h44] at KS2
          refine (unhide KS2).mono ?_
          rintro e w6 ⟨rfl, hb6⟩
          dsimp only
          have I6 := (unhide I5).below hb6
          have K6 := hide (seesMark_any w6 B s a cap l ib (d + 1) plb erb rest ec m1 m2 I6.rd ((unhide HT).grown I6.gr) (unhide HG) I6.at')
          have HI6 := hide I6
          have H44 := hide h44
          clear KS2 hb6 I6 I5 h44
          cases hec : seesB rest ec with
          | true =>
            obtain ⟨y, r2, rfl, hy⟩ := seesB_yes hec
            have HE2 : Hid (loopP q ec kind i ((y :: r2).length + 1) (acc ++ [t]) (y :: r2) = loopP q ec kind i (r.length + 1) [] r) := hide (by rw [← unhide HE, loop_shut (unhide HSE) hq0 (unhide HQ) (seesB_no (unhide H44)) hy hF]; exact loop_end hy (Nat.lt_succ_self _))
            rw [hec] at K6
            clear hec hy HE HSE HQ H44
            go_wp2_with fail
            refine (unhide K6).mono ?_
            rintro e w7 ⟨rfl, hb7⟩
            dsimp only
            have HI7 := hide ((unhide HI6).below hb7)
            have EM7 := hide (left_eq (unhide HI7).rd (unhide HI7).at')
            clear K6 hb7 HI6
            go_wp2
            go_roundw
            case rel => exact ⟨acc ++ [t], vss ++ [_], _, ib, plb, erb, y :: r2, (y :: r2).length + 1, by omega, hA2, HE2, HI7⟩
            case measure => rw [unhide EM, unhide EM7]; omega
          | false =>
            have RES : Hid (loopP q ec kind i (r.length + 1) [] r = .inl (4, rest)) := hide (by rw [← unhide HE]; exact loop_else (unhide HSE) hq0 (unhide HQ) (unhide H44) hec hF)
            rw [hec] at K6
            clear hec HE HSE HQ H44
            go_wp2_with fail
            refine (unhide K6).mono ?_
            rintro e w7 ⟨rfl, hb7⟩
            dsimp only
            have I7 := (unhide HI6).below hb7
            have K7 := hide (refuse_any w7 B s a cap l ib (d + 1) plb erb rest 4 (by decide) I7.rd ((unhide HT).grown I7.gr) (unhide HG) I7.at')
            have HI7 := hide I7
            clear K6 hb7 I7 HI6
            go_wp2_with fail
            refine (unhide K7).mono ?_
            rintro e w8 ⟨rfl, rd8, g8⟩
            dsimp only
            have zb8 := Blk.grown (unhide HI7).zb g8 (fun e => by injection e with e; have := (unhide HI7).lt; omega)
            obtain ⟨z0, z1, z2, z3⟩ := Blk.cells4 zb8
            obtain ⟨y0, y1, y2, y3⟩ := Blk.froz4 zb8
            have FE := hide (fail_end (d := d) (f := f + 1) (unhide HI7).lt.1 (grown_trans (unhide HI7).gr g8) zb8 rd8)
            clear K7 rd8 g8 zb8 HI7
            go_wp2
            obtain ⟨FE1, f0, f1, f2, f3⟩ := unhide FE
            refine bodyPost_ret (v := .tuple #[(.agg #[.int .i64 0, .int .i64 0, .int .i64 0, .slice none 0 0]), .bool false]) (by simp [results, Try.results46, go_sem, f0, f1, f2, f3]) rfl ?_
            refine unhide HPost _ _ ?_
            rw [unhide RES]
            exact FE1
end Go.Proofs.Ytoikdjbgeebadaa.trees
/- The walk of package tree's closures: they read a kid. -/
set_option linter.unusedVariables false
namespace Go.Proofs.Ytoikdjbgeebadaa.trees
open Go.RowKit
open toks

set_option maxHeartbeats 1000000 in
set_option maxRecDepth 100000 in
theorem kid_1 (w : World) (B P : Nat) (s : ByteArray) (a : Option Addr) (cap : Nat) (l : List Tk) (i d : Nat) (pl er : Int) (ts : List Sym) (q : List Sym → R) (f : Nat)
    (hr : Rd w B s (.slice a l.length cap) i d pl er) (ht : TkIn w B a l) (hat : At s.data.toList l i ts) (hP : w.cell? ⟨P, 0, none⟩ = some ((.pointer (some ⟨B, 0, none⟩))))
    (VAL : ∀ (u : World) (j : Nat) (pl er : Int) (ts : List Sym), Rd u B s (.slice a l.length cap) j d pl er → TkIn u B a l → At s.data.toList l j ts → Calls Try.prog 48 #[(.pointer (some ⟨B, 0, none⟩))] u (Res B s a cap l d f u (q ts))) :
    Calls Try.prog 47 #[(.pointer (some ⟨P, 0, none⟩))] w (Res B s a cap l d f w (q ts)) := by
  have hB := Blk.lt hr
  have bz : Below w.heap.size w ((World.alloc w (.cells #[.int .i64 0, .int .i64 0, .int .i64 0, .slice none 0 0] 24))) := (Below.refl _ w).alloc (Nat.le_refl _) _
  have KV := hide (VAL ((World.alloc w (.cells #[.int .i64 0, .int .i64 0, .int .i64 0, .slice none 0 0] 24))) i pl er ts (hr.below bz) (ht.below bz) hat)
  have cP : ((World.alloc w (.cells #[.int .i64 0, .int .i64 0, .int .i64 0, .slice none 0 0] 24))).cell? ⟨P, 0, none⟩ = some ((.pointer (some ⟨B, 0, none⟩))) := by
    rw [← hP]
    exact World.cell?_of_block (Below.heap_alloc _ _ _ (World.block_lt_of_cell? w _ hP))
  have HZ := hide (blk_alloc w #[.int .i64 0, .int .i64 0, .int .i64 0, .slice none 0 0] 24)
  have HGZ := hide (grown_alloc (grown_refl w (some B)) (.cells #[.int .i64 0, .int .i64 0, .int .i64 0, .slice none 0 0] 24))
  have hz0 : ((World.alloc w (.cells #[.int .i64 0, .int .i64 0, .int .i64 0, .slice none 0 0] 24))).heap.size = w.heap.size + 1 := by simp
  have HB := hide hB
  clear hr ht hat VAL hB bz hP
  suffices FIN : ∀ Post : Ending → World → Prop, Hid (∀ e w', Res B s a cap l d f w (q ts) e w' → Post e w') → Calls Try.prog 47 #[(.pointer (some ⟨P, 0, none⟩))] w Post from FIN _ (hide fun _ _ h => h)
  intro Post HPost
  go_enter Try.func47, Try.ntmps47
  go_wp2_with fail
  generalize (World.alloc w (.cells #[.int .i64 0, .int .i64 0, .int .i64 0, .slice none 0 0] 24)) = w0 at *
  clear cP
  generalize q ts = qq at *
  cases qq with
  | inl er1 =>
    obtain ⟨c, te⟩ := er1
    refine (unhide KV).mono ?_
    rintro e w7 ⟨g7, rfl, ib, db, rb⟩
    dsimp only
    have zb := Blk.grown (unhide HZ) g7 (fun e => by injection e with e; have := unhide HB; omega)
    obtain ⟨z0, z1, z2, z3⟩ := Blk.cells4 zb
    obtain ⟨y0, y1, y2, y3⟩ := Blk.froz4 zb
    have FE := hide (pass_bad (d := d) (f := f) (unhide HB) (Nat.le_refl _) (unhide HGZ) g7 zb rb)
    clear KV g7 rb zb
    go_wp2
    obtain ⟨FE1, FC⟩ := unhide FE
    refine ret_put (v := .tuple #[(.agg #[.int .i64 0, .int .i64 0, .int .i64 0, .slice none 0 0]), .bool false]) FC (fun wF hF => by obtain ⟨f0, f1, f2, f3⟩ := hF; simp [results, Try.results47, go_sem, f0, f1, f2, f3]) rfl ?_
    exact unhide HPost _ _ FE1
  | inr tr =>
    obtain ⟨v, r2⟩ := tr
    refine (unhide KV).mono ?_
    rintro e w7 ⟨g7, u0, u1, u2, u3, rfl, hL, ib, plb, erb, rb, ab⟩
    dsimp only
    obtain ⟨k0, a0, e0, pk, nk, ck, rfl, rfl, rfl, rfl, he0, f', rfl⟩ := hL.form'
    have zb := Blk.grown (unhide HZ) g7 (fun e => by injection e with e; have := unhide HB; omega)
    obtain ⟨z0, z1, z2, z3⟩ := Blk.cells4 zb
    obtain ⟨y0, y1, y2, y3⟩ := Blk.froz4 zb
    have FE := hide (pass_good (d := d) (unhide HB) (Nat.le_refl _) (by omega) (unhide HGZ) g7 zb hL rb ab)
    clear KV g7 rb zb hL ab he0
    go_wp2
    obtain ⟨FE1, FC⟩ := unhide FE
    refine ret_put (v := .tuple #[.agg #[.int .i64 (k0 : Int), .int .i64 (a0 : Int), .int .i64 (e0 : Int), .slice pk nk ck], .bool true]) FC (fun wF hF => by obtain ⟨f0, f1, f2, f3⟩ := hF; simp [results, Try.results47, go_sem, f0, f1, f2, f3]) rfl ?_
    exact unhide HPost _ _ FE1
end Go.Proofs.Ytoikdjbgeebadaa.trees
/- The walk of package tree's entry. -/
set_option linter.unusedVariables false
namespace Go.Proofs.Ytoikdjbgeebadaa.trees
open Go.RowKit
open toks

set_option maxHeartbeats 4000000 in
set_option maxRecDepth 100000 in
theorem entry_any (w : World) (B : Nat) (s : ByteArray) (a : Option Addr) (cap : Nat) (l : List Tk) (i d : Nat) (pl er : Int) (ts : List Sym) (q : List Sym → R) (f : Nat)
    (hr : Rd w B s (.slice a l.length cap) i d pl er) (ht : TkIn w B a l) (g : Good s l) (hat : At s.data.toList l i ts)
    (VAL : ∀ (u : World) (j : Nat) (pl er : Int) (ts : List Sym), Rd u B s (.slice a l.length cap) j d pl er → TkIn u B a l → At s.data.toList l j ts → Calls Try.prog 25 #[(.pointer (some ⟨B, 0, none⟩))] u (Res B s a cap l d f u (q ts))) :
    Calls Try.prog 48 #[(.pointer (some ⟨B, 0, none⟩))] w (Res B s a cap l d (f + 1) w (entP q ts)) := by
  have hB := Blk.lt hr
  have bz : Below w.heap.size w ((World.alloc w (.cells #[.int .i64 0, .int .i64 0, .int .i64 0, .slice none 0 0] 24))) := (Below.refl _ w).alloc (Nat.le_refl _) _
  have K1 : Hid _ := hide (seesOne_any ((World.alloc w (.cells #[.int .i64 0, .int .i64 0, .int .i64 0, .slice none 0 0] 24))) B s a cap l i d pl er ts (hr.below bz) (ht.below bz) g hat)
  have HT := hide ht
  have HG := hide g
  have HV := hide VAL
  have HB := hide hB
  have HR := hide (hr.below bz)
  have HA := hide hat
  have HZ := hide (blk_alloc w #[.int .i64 0, .int .i64 0, .int .i64 0, .slice none 0 0] 24)
  have HGZ := hide (grown_alloc (grown_refl w (some B)) (.cells #[.int .i64 0, .int .i64 0, .int .i64 0, .slice none 0 0] 24))
  have hl := g.len
  have hz0 : ((World.alloc w (.cells #[.int .i64 0, .int .i64 0, .int .i64 0, .slice none 0 0] 24))).heap.size = w.heap.size + 1 := by simp
  clear hr ht g hat VAL hB bz
  suffices FIN : ∀ Post : Ending → World → Prop, Hid (∀ e w', Res B s a cap l d (f + 1) w (entP q ts) e w' → Post e w') → Calls Try.prog 48 #[(.pointer (some ⟨B, 0, none⟩))] w Post from FIN _ (hide fun _ _ h => h)
  intro Post HPost
  go_enter Try.func48, Try.ntmps48
  go_wp2_with fail
  generalize (World.alloc w (.cells #[.int .i64 0, .int .i64 0, .int .i64 0, .slice none 0 0] 24)) = w0 at *
  cases h1 : seesB ts 120 with
  | false =>
    have RES : Hid (entP q ts = .inl (4, ts)) := hide (ent_none h1)
    rw [h1] at K1
    refine (unhide K1).mono ?_
    rintro e w1 ⟨rfl, b1⟩
    dsimp only
    have KR := hide (refuse_any w1 B s a cap l i d pl er ts 4 (by decide) ((unhide HR).below b1) ((unhide HT).grown (grown_trans (unhide HGZ) (grown_below b1))) (unhide HG) (unhide HA))
    have HB1 := hide b1
    clear K1 b1 h1
    go_wp2_with fail
    refine (unhide KR).mono ?_
    rintro e w2 ⟨rfl, rd2, g2⟩
    dsimp only
    have g2' := grown_trans (grown_below (unhide HB1)) g2
    have zb := Blk.grown (unhide HZ) g2' (fun e => by injection e with e; have := unhide HB; omega)
    obtain ⟨z0, z1, z2, z3⟩ := Blk.cells4 zb
    obtain ⟨y0, y1, y2, y3⟩ := Blk.froz4 zb
    have FE := hide (pass_bad (d := d) (f := f + 1) (unhide HB) (Nat.le_refl _) (unhide HGZ) g2' zb rd2)
    clear KR rd2 g2 g2' zb
    go_wp2
    obtain ⟨FE1, f0, f1, f2, f3⟩ := unhide FE
    refine bodyPost_ret (v := .tuple #[(.agg #[.int .i64 0, .int .i64 0, .int .i64 0, .slice none 0 0]), .bool false]) (by simp [results, Try.results48, go_sem, f0, f1, f2, f3]) rfl ?_
    refine unhide HPost _ _ ?_
    rw [unhide RES]
    exact FE1
  | true =>
    obtain ⟨x, r, rfl, hx⟩ := seesB_yes h1
    rw [h1] at K1
    refine (unhide K1).mono ?_
    rintro e w1 ⟨rfl, b1⟩
    dsimp only
    obtain ⟨hi, hx2, hre⟩ := at_two (unhide HA)
    have KO := hide (one_any w1 B s a cap l i d pl er 2 (by decide) ((unhide HR).below b1) ((unhide HT).grown (grown_trans (unhide HGZ) (grown_below b1))) (unhide HG) hi)
    have HB1 := hide b1
    have HX := hide hx
    have HX2 := hide hx2
    have HRE := hide hre
    clear K1 b1 h1 hx hx2 hre HA HR
    go_wp2_with fail
    refine (unhide KO).mono ?_
    rintro e w2 ⟨i2, rfl, n2, rd2, g2⟩
    dsimp only
    have g2' := grown_trans (unhide HGZ) (grown_trans (grown_below (unhide HB1)) g2)
    have hz2 : w.heap.size < w2.heap.size := by have := (grown_trans (grown_below (r := some B) (unhide HB1)) g2).size; omega
    have zb := Blk.grown (unhide HZ) (grown_trans (grown_below (unhide HB1)) g2) (fun e => by injection e with e; have := unhide HB; omega)
    have I3 : EInv w B w2.heap.size i (w2.alloc (.cells #[.int .i64 2, .int .i64 (i : Int), .int .i64 ((i : Int) + 1), .slice none 0 0] 24)) := ⟨Blk.alloc zb _, blk_alloc _ _ _, grown_alloc g2' _, unhide HB, hz2⟩
    have rd3 : Rd (w2.alloc (.cells #[.int .i64 2, .int .i64 (i : Int), .int .i64 ((i : Int) + 1), .slice none 0 0] 24)) B s (.slice a l.length cap) i2 d pl er := Blk.alloc rd2 _
    have a3 := unhide HRE _ n2
    have K3 := hide (seesMark_any _ B s a cap l i2 d pl er r 58 (by decide) (by decide) rd3 ((unhide HT).grown I3.gr) (unhide HG) a3)
    have HI3 := hide I3
    have HRD3 := hide rd3
    have HA3 := hide a3
    clear KO n2 rd2 g2 g2' hz2 zb I3 rd3 a3 HRE HGZ HZ HB1
    go_wp2_with fail
    generalize w2.alloc (.cells #[.int .i64 2, .int .i64 (i : Int), .int .i64 ((i : Int) + 1), .slice none 0 0] 24) = w3 at *
    generalize w2.heap.size = K at *
    cases h58 : seesB r 58 with
    | true =>
      obtain ⟨m, r1, rfl, hm⟩ := seesB_yes h58
      have HM : Hid (m.1 = 58 ∨ m.1 = 61) := hide (.inl hm)
      rw [h58] at K3
      clear h58 hm
      refine (unhide K3).mono ?_
      rintro e wq ⟨rfl, b4⟩
      dsimp only
      have Iq := hide ((unhide HI3).on (grown_below b4))
      have Rq := hide ((unhide HRD3).below b4)
      clear K3 b4 HI3 HRD3
      obtain ⟨hi4, hx4, hn4⟩ := at_two (unhide HA3)
      have KT := hide (take_any wq B s a cap l i2 d pl er (unhide Rq) ((unhide HT).grown (unhide Iq).gr) (unhide HG) hi4)
      have HN4 := hide hn4
      clear hx4 hn4 hi4 Rq HA3
      go_wp2_with fail
      refine (unhide KT).mono ?_
      rintro e w6 ⟨i6, rfl, n6, rd6, g6⟩
      dsimp only
      have I6 := hide ((unhide Iq).on g6)
      have KV := hide (unhide HV w6 i6 pl er r1 rd6 ((unhide HT).grown (unhide I6).gr) (unhide HN4 _ n6))
      clear KT n6 rd6 g6 Iq HN4 HV
      cases hq : q r1 with
      | inl er1 =>
        obtain ⟨c, te⟩ := er1
        have RES : Hid (entP q (x :: m :: r1) = .inl (c, te)) := hide (ent_val_bad (unhide HX) (unhide HM) hq)
        rw [hq] at KV
        clear hq
        go_wp2_with fail
        refine (unhide KV).mono ?_
        rintro e w7 ⟨g7, rfl, ib, db, rb⟩
        dsimp only
        have I7 := (unhide I6).on (grown_alloc g7 (.cells #[.int .i64 0, .int .i64 0, .int .i64 0, .slice none 0 0] 24))
        have rb7 : Rd ((World.alloc w7 (.cells #[.int .i64 0, .int .i64 0, .int .i64 0, .slice none 0 0] 24))) B s (.slice a l.length cap) ib db _ _ := Blk.alloc rb _
        obtain ⟨z0, z1, z2, z3⟩ := Blk.cells4 I7.zb
        obtain ⟨y0, y1, y2, y3⟩ := Blk.froz4 I7.zb
        have FE := hide (pass_bad (d := d) (f := f + 1) (unhide HB) (Nat.le_refl _) (unhide I6).gr (grown_alloc g7 _) I7.zb rb7)
        clear KV g7 rb I7 rb7 I6
        go_wp2
        obtain ⟨FE1, f0, f1, f2, f3⟩ := unhide FE
        refine bodyPost_ret (v := .tuple #[(.agg #[.int .i64 0, .int .i64 0, .int .i64 0, .slice none 0 0]), .bool false]) (by simp [results, Try.results48, go_sem, f0, f1, f2, f3]) rfl ?_
        refine unhide HPost _ _ ?_
        rw [unhide RES]
        exact FE1
      | inr tr =>
        obtain ⟨v, r2⟩ := tr
        have RES : Hid (entP q (x :: m :: r1) = .inr (nd 4 x.2 (endT v) [nd 2 x.2 (x.2 + 1) [], v], r2)) := hide (ent_val_good (unhide HX) (unhide HM) hq)
        rw [hq] at KV
        clear hq
        go_wp2_with fail
        refine (unhide KV).mono ?_
        rintro e w7 ⟨g7, u0, u1, u2, u3, rfl, hL, ib, plb, erb, rb, ab⟩
        dsimp only
        obtain ⟨k0, a0, e0, pk, nk, ck, rfl, rfl, rfl, rfl, he0, f', rfl⟩ := hL.form'
        have I7 := (unhide I6).on (grown_alloc g7 (.cells #[.int .i64 (k0 : Int), .int .i64 (a0 : Int), .int .i64 (e0 : Int), .slice pk nk ck] 24))
        obtain ⟨j0, j1, j2, j3⟩ := Blk.cells4 (blk_alloc w7 #[.int .i64 (k0 : Int), .int .i64 (a0 : Int), .int .i64 (e0 : Int), .slice pk nk ck] 24)
        obtain ⟨l0, l1, l2, l3⟩ := Blk.cells4 I7.kb
        have I9 := I7.on (grown_below ((Below.refl _ (w7.alloc (.cells #[.int .i64 (k0 : Int), .int .i64 (a0 : Int), .int .i64 (e0 : Int), .slice pk nk ck] 24))).alloc (Nat.le_refl _) (.cells #[.int .i64 2, .int .i64 (i : Int), .int .i64 ((i : Int) + 1), .slice none 0 0, .int .i64 (k0 : Int), .int .i64 (a0 : Int), .int .i64 (e0 : Int), .slice pk nk ck] 24)))
        obtain ⟨z0, z1, z2, z3⟩ := Blk.cells4 I9.zb
        obtain ⟨y0, y1, y2, y3⟩ := Blk.froz4 I9.zb
        have bS := blk_alloc (w7.alloc (.cells #[.int .i64 (k0 : Int), .int .i64 (a0 : Int), .int .i64 (e0 : Int), .slice pk nk ck] 24)) #[.int .i64 2, .int .i64 (i : Int), .int .i64 ((i : Int) + 1), .slice none 0 0, .int .i64 (k0 : Int), .int .i64 (a0 : Int), .int .i64 (e0 : Int), .slice pk nk ck] 24
        have eS : (w7.alloc (.cells #[.int .i64 (k0 : Int), .int .i64 (a0 : Int), .int .i64 (e0 : Int), .slice pk nk ck] 24)).heap.size = w7.heap.size + 1 := by simp
        rw [eS] at bS
        have hL9 := (hL.below ((Below.refl _ w7).alloc (Nat.le_refl _) (.cells #[.int .i64 (k0 : Int), .int .i64 (a0 : Int), .int .i64 (e0 : Int), .slice pk nk ck] 24))).below ((Below.refl _ _).alloc (Nat.le_refl _) (.cells #[.int .i64 2, .int .i64 (i : Int), .int .i64 ((i : Int) + 1), .slice none 0 0, .int .i64 (k0 : Int), .int .i64 (a0 : Int), .int .i64 (e0 : Int), .slice pk nk ck] 24))
        have LP := lies_pair (k := 4) (a := i) (e := e0) bS (by have := g7.size; omega) hL9
        have FE := hide (pass_good (d := d) (unhide HB) (Nat.le_refl _) (Blk.lt (unhide I6).zb) (unhide I6).gr (grown_alloc (grown_alloc g7 _) _) I9.zb LP (Blk.alloc (Blk.alloc rb _) _) ab)
        have HE0 := hide he0
        clear KV g7 rb ab hL I7 he0 I9 bS eS hL9 LP I6
        go_wp2
        obtain ⟨FE1, FC⟩ := unhide FE
        refine ret_put (v := .tuple #[.agg #[.int .i64 4, .int .i64 (i : Int), .int .i64 (e0 : Int), .slice (some ⟨w7.heap.size + 1, 0, none⟩) 2 2], .bool true]) FC (fun wF hF => by obtain ⟨f0, f1, f2, f3⟩ := hF; simp [results, Try.results48, go_sem, f0, f1, f2, f3]) rfl ?_
        refine unhide HPost _ _ ?_
        rw [unhide RES, unhide HX2, unhide HE0]
        exact FE1
    | false =>
      rw [h58] at K3
      refine (unhide K3).mono ?_
      rintro e w4 ⟨rfl, b4⟩
      dsimp only
      have I4 := hide ((unhide HI3).on (grown_below b4))
      have R4 := hide ((unhide HRD3).below b4)
      have H58 := hide h58
      have K4 := hide (seesMark_any _ B s a cap l i2 d pl er r 61 (by decide) (by decide) (unhide R4) ((unhide HT).grown (unhide I4).gr) (unhide HG) (unhide HA3))
      clear K3 b4 HI3 HRD3 h58
      cases h61 : seesB r 61 with
      | true =>
        obtain ⟨m, r1, rfl, hm⟩ := seesB_yes h61
        have HM : Hid (m.1 = 58 ∨ m.1 = 61) := hide (.inr hm)
        rw [h61] at K4
        clear h61 hm
        go_wp2_with fail
        refine (unhide K4).mono ?_
        rintro e wq ⟨rfl, b5⟩
        dsimp only
        have Iq := hide ((unhide I4).on (grown_below b5))
        have Rq := hide ((unhide R4).below b5)
        clear K4 b5 I4 R4
        obtain ⟨hi4, hx4, hn4⟩ := at_two (unhide HA3)
        have KT := hide (take_any wq B s a cap l i2 d pl er (unhide Rq) ((unhide HT).grown (unhide Iq).gr) (unhide HG) hi4)
        have HN4 := hide hn4
        clear hx4 hn4 hi4 Rq HA3
        go_wp2_with fail
        refine (unhide KT).mono ?_
        rintro e w6 ⟨i6, rfl, n6, rd6, g6⟩
        dsimp only
        have I6 := hide ((unhide Iq).on g6)
        have KV := hide (unhide HV w6 i6 pl er r1 rd6 ((unhide HT).grown (unhide I6).gr) (unhide HN4 _ n6))
        clear KT n6 rd6 g6 Iq HN4 HV
        cases hq : q r1 with
        | inl er1 =>
          obtain ⟨c, te⟩ := er1
          have RES : Hid (entP q (x :: m :: r1) = .inl (c, te)) := hide (ent_val_bad (unhide HX) (unhide HM) hq)
          rw [hq] at KV
          clear hq
          go_wp2_with fail
          refine (unhide KV).mono ?_
          rintro e w7 ⟨g7, rfl, ib, db, rb⟩
          dsimp only
          have I7 := (unhide I6).on (grown_alloc g7 (.cells #[.int .i64 0, .int .i64 0, .int .i64 0, .slice none 0 0] 24))
          have rb7 : Rd ((World.alloc w7 (.cells #[.int .i64 0, .int .i64 0, .int .i64 0, .slice none 0 0] 24))) B s (.slice a l.length cap) ib db _ _ := Blk.alloc rb _
          obtain ⟨z0, z1, z2, z3⟩ := Blk.cells4 I7.zb
          obtain ⟨y0, y1, y2, y3⟩ := Blk.froz4 I7.zb
          have FE := hide (pass_bad (d := d) (f := f + 1) (unhide HB) (Nat.le_refl _) (unhide I6).gr (grown_alloc g7 _) I7.zb rb7)
          clear KV g7 rb I7 rb7 I6
          go_wp2
          obtain ⟨FE1, f0, f1, f2, f3⟩ := unhide FE
          refine bodyPost_ret (v := .tuple #[(.agg #[.int .i64 0, .int .i64 0, .int .i64 0, .slice none 0 0]), .bool false]) (by simp [results, Try.results48, go_sem, f0, f1, f2, f3]) rfl ?_
          refine unhide HPost _ _ ?_
          rw [unhide RES]
          exact FE1
        | inr tr =>
          obtain ⟨v, r2⟩ := tr
          have RES : Hid (entP q (x :: m :: r1) = .inr (nd 4 x.2 (endT v) [nd 2 x.2 (x.2 + 1) [], v], r2)) := hide (ent_val_good (unhide HX) (unhide HM) hq)
          rw [hq] at KV
          clear hq
          go_wp2_with fail
          refine (unhide KV).mono ?_
          rintro e w7 ⟨g7, u0, u1, u2, u3, rfl, hL, ib, plb, erb, rb, ab⟩
          dsimp only
          obtain ⟨k0, a0, e0, pk, nk, ck, rfl, rfl, rfl, rfl, he0, f', rfl⟩ := hL.form'
          have I7 := (unhide I6).on (grown_alloc g7 (.cells #[.int .i64 (k0 : Int), .int .i64 (a0 : Int), .int .i64 (e0 : Int), .slice pk nk ck] 24))
          obtain ⟨j0, j1, j2, j3⟩ := Blk.cells4 (blk_alloc w7 #[.int .i64 (k0 : Int), .int .i64 (a0 : Int), .int .i64 (e0 : Int), .slice pk nk ck] 24)
          obtain ⟨l0, l1, l2, l3⟩ := Blk.cells4 I7.kb
          have I9 := I7.on (grown_below ((Below.refl _ (w7.alloc (.cells #[.int .i64 (k0 : Int), .int .i64 (a0 : Int), .int .i64 (e0 : Int), .slice pk nk ck] 24))).alloc (Nat.le_refl _) (.cells #[.int .i64 2, .int .i64 (i : Int), .int .i64 ((i : Int) + 1), .slice none 0 0, .int .i64 (k0 : Int), .int .i64 (a0 : Int), .int .i64 (e0 : Int), .slice pk nk ck] 24)))
          obtain ⟨z0, z1, z2, z3⟩ := Blk.cells4 I9.zb
          obtain ⟨y0, y1, y2, y3⟩ := Blk.froz4 I9.zb
          have bS := blk_alloc (w7.alloc (.cells #[.int .i64 (k0 : Int), .int .i64 (a0 : Int), .int .i64 (e0 : Int), .slice pk nk ck] 24)) #[.int .i64 2, .int .i64 (i : Int), .int .i64 ((i : Int) + 1), .slice none 0 0, .int .i64 (k0 : Int), .int .i64 (a0 : Int), .int .i64 (e0 : Int), .slice pk nk ck] 24
          have eS : (w7.alloc (.cells #[.int .i64 (k0 : Int), .int .i64 (a0 : Int), .int .i64 (e0 : Int), .slice pk nk ck] 24)).heap.size = w7.heap.size + 1 := by simp
          rw [eS] at bS
          have hL9 := (hL.below ((Below.refl _ w7).alloc (Nat.le_refl _) (.cells #[.int .i64 (k0 : Int), .int .i64 (a0 : Int), .int .i64 (e0 : Int), .slice pk nk ck] 24))).below ((Below.refl _ _).alloc (Nat.le_refl _) (.cells #[.int .i64 2, .int .i64 (i : Int), .int .i64 ((i : Int) + 1), .slice none 0 0, .int .i64 (k0 : Int), .int .i64 (a0 : Int), .int .i64 (e0 : Int), .slice pk nk ck] 24))
          have LP := lies_pair (k := 4) (a := i) (e := e0) bS (by have := g7.size; omega) hL9
          have FE := hide (pass_good (d := d) (unhide HB) (Nat.le_refl _) (Blk.lt (unhide I6).zb) (unhide I6).gr (grown_alloc (grown_alloc g7 _) _) I9.zb LP (Blk.alloc (Blk.alloc rb _) _) ab)
          have HE0 := hide he0
          clear KV g7 rb ab hL I7 he0 I9 bS eS hL9 LP I6
          go_wp2
          obtain ⟨FE1, FC⟩ := unhide FE
          refine ret_put (v := .tuple #[.agg #[.int .i64 4, .int .i64 (i : Int), .int .i64 (e0 : Int), .slice (some ⟨w7.heap.size + 1, 0, none⟩) 2 2], .bool true]) FC (fun wF hF => by obtain ⟨f0, f1, f2, f3⟩ := hF; simp [results, Try.results48, go_sem, f0, f1, f2, f3]) rfl ?_
          refine unhide HPost _ _ ?_
          rw [unhide RES, unhide HX2, unhide HE0]
          exact FE1
      | false =>
        have RES : Hid (entP q (x :: r) = .inl (4, r)) := hide (ent_key (unhide HX) (unhide H58) h61)
        rw [h61] at K4
        clear h61
        go_wp2_with fail
        refine (unhide K4).mono ?_
        rintro e w5 ⟨rfl, b5⟩
        dsimp only
        have I5 := hide ((unhide I4).on (grown_below b5))
        have R5 := (unhide R4).below b5
        have KR := hide (refuse_any w5 B s a cap l i2 d pl er r 4 (by decide) R5 ((unhide HT).grown (unhide I5).gr) (unhide HG) (unhide HA3))
        clear K4 b5 I4 R4 R5
        go_wp2_with fail
        refine (unhide KR).mono ?_
        rintro e w6 ⟨rfl, rd6, g6⟩
        dsimp only
        have I6 := (unhide I5).on g6
        obtain ⟨z0, z1, z2, z3⟩ := Blk.cells4 I6.zb
        obtain ⟨y0, y1, y2, y3⟩ := Blk.froz4 I6.zb
        have FE := hide (pass_bad (d := d) (f := f + 1) (unhide HB) (Nat.le_refl _) (unhide I5).gr g6 I6.zb rd6)
        clear KR rd6 g6 I6 I5
        go_wp2
        obtain ⟨FE1, f0, f1, f2, f3⟩ := unhide FE
        refine bodyPost_ret (v := .tuple #[(.agg #[.int .i64 0, .int .i64 0, .int .i64 0, .slice none 0 0]), .bool false]) (by simp [results, Try.results48, go_sem, f0, f1, f2, f3]) rfl ?_
        refine unhide HPost _ _ ?_
        rw [unhide RES]
        exact FE1
end Go.Proofs.Ytoikdjbgeebadaa.trees
/- The walk of package tree's between: what stands between two marks. -/
set_option linter.unusedVariables false
namespace Go.Proofs.Ytoikdjbgeebadaa.trees
open Go.RowKit
open toks

set_option maxHeartbeats 4000000 in
set_option maxRecDepth 100000 in
theorem between_2 (w : World) (B P : Nat) (s : ByteArray) (a : Option Addr) (cap : Nat) (l : List Tk) (i d : Nat) (pl er : Int) (x : Sym) (r : List Sym) (q : List Sym → R) (kind f : Nat) (ec : UInt8) (m1 : ec ≠ 63) (m2 : ec ≠ 120) (m3 : ec ≠ 44) (hkind : kind ≤ 6) (hd : d ≤ 20)
    (hr : Rd w B s (.slice a l.length cap) i d pl er) (ht : TkIn w B a l) (g : Good s l) (hat : At s.data.toList l i (x :: r)) (hP : w.cell? ⟨P, 0, none⟩ = some ((.pointer (some ⟨B, 0, none⟩)))) (hPB : P ≠ B) (hq0 : q [] = .inl (4, [])) (hql : Loc q)
    (KID : ∀ (u : World) (j : Nat) (pl er : Int) (ts : List Sym), Rd u B s (.slice a l.length cap) j (d + 1) pl er → TkIn u B a l → At s.data.toList l j ts → u.cell? ⟨P, 0, none⟩ = some ((.pointer (some ⟨B, 0, none⟩))) → Calls Try.prog 49 #[(.pointer (some ⟨P, 0, none⟩))] u (Res B s a cap l (d + 1) f u (q ts))) :
    Calls Try.prog 46 #[(.pointer (some ⟨B, 0, none⟩)), .int .i64 (kind : Int), .int .u8 (ec.toNat : Int), .func (.func 49) #[] #[(.pointer (some ⟨P, 0, none⟩))]] w (Res B s a cap l d (f + 1) w (loopP q ec kind x.2 (r.length + 1) [] r)) := by
  obtain ⟨hi, hx, hs, h3, hre⟩ := at_cons hat
  have hB := Blk.lt hr
  have hlen := hat.len
  have K1 : Hid _ := hide (take_any ((World.alloc w (.cells #[.int .i64 0, .int .i64 0, .int .i64 0, .slice none 0 0] 24))) B s a cap l i d pl er (Blk.alloc hr _) (ht.below ((Below.refl _ w).alloc (Nat.le_refl _) _)) g hi)
  have HP := hide hP
  have HT := hide ht
  have HG := hide g
  have HK := hide KID
  have HL := hide hql
  have HB := hide hB
  have HRE := hide hre
  have hl := g.len
  rw [hx]
  clear hr ht g hat hP KID hql hB hs h3 hre hx
  suffices FIN : ∀ Post : Ending → World → Prop, Hid (∀ e w', Res B s a cap l d (f + 1) w (loopP q ec kind i (r.length + 1) [] r) e w' → Post e w') → Calls Try.prog 46 #[(.pointer (some ⟨B, 0, none⟩)), .int .i64 (kind : Int), .int .u8 (ec.toNat : Int), .func (.func 49) #[] #[(.pointer (some ⟨P, 0, none⟩))]] w Post from FIN _ (hide fun _ _ h => h)
  intro Post HPost
  go_enter Try.func46, Try.ntmps46
  go_wp2_with fail
  refine (unhide K1).mono ?_
  rintro e w1 ⟨j, rfl, h1, h2, h3⟩
  dsimp only
  have hB := unhide HB
  have hs1 : w.heap.size + 1 ≤ w1.heap.size := by have := h3.size; simpa using this
  have hzb : Blk w1 w.heap.size #[.int .i64 0, .int .i64 0, .int .i64 0, .slice none 0 0] 24 := Blk.grown (blk_alloc w _ _) h3 (fun e => by injection e with e; omega)
  have hg1 : w.grownBy w1 (some B) := grown_trans (grown_alloc (grown_refl w _) _) h3
  have nb := blk_alloc w1 #[.int .i64 (kind : Int), .int .i64 (i : Int), .int .i64 0, .slice none 0 0] 24
  have rb : Rd (w1.alloc (.cells #[.int .i64 (kind : Int), .int .i64 (i : Int), .int .i64 0, .slice none 0 0] 24)) B s (.slice a l.length cap) j d pl er := Blk.alloc h2 _
  have rc := Blk.cell rb 3 (.int .i64 (d : Int)) rfl
  have rf := Blk.froz rb 3
  have NB := hide (Blk.set_other nb ⟨B, 3, none⟩ (.int .i64 ((d : Int) + 1)) (show w1.heap.size ≠ B by omega))
  have RB := hide (rb.lev ((d : Int) + 1) (d + 1) (by omega))
  have ZB := hide (Blk.set_other (Blk.alloc hzb (.cells #[.int .i64 (kind : Int), .int .i64 (i : Int), .int .i64 0, .slice none 0 0] 24)) ⟨B, 3, none⟩ (.int .i64 ((d : Int) + 1)) (show w.heap.size ≠ B by omega))
  have G1 := hide (grown_trans (grown_alloc hg1 (.cells #[.int .i64 (kind : Int), .int .i64 (i : Int), .int .i64 0, .slice none 0 0] 24)) (grown_set _ B 3 (.int .i64 ((d : Int) + 1))))
  have N1 := hide h1
  clear K1 h1 h2 h3 hB hzb hg1 nb rb
  go_wp2_with fail
  clear rc rf
  generalize hW : ((w1.alloc (.cells #[.int .i64 (kind : Int), .int .i64 (i : Int), .int .i64 0, .slice none 0 0] 24)).setCell ⟨B, 3, none⟩ (.int .i64 ((d : Int) + 1))) = w2 at *
  have hlt : B < w.heap.size ∧ w.heap.size < w1.heap.size := ⟨unhide HB, by omega⟩
  have I0 : Hid (BInv w B w1.heap.size s a cap l d f kind i [] [] (.slice none 0 0) j pl er r w2) := hide ⟨unhide RB, by rw [unhide HRE]; exact (unhide N1).at, unhide NB, unhide ZB, World.ownsRow_nil _ _ _ _, kidsIn_nil _ _ _, unhide G1, hlt⟩
  have hrl : r.length + 1 ≤ l.length := hlen
  clear hW NB RB ZB G1 N1 HRE HB hs1 hlen hlt hi
  generalize w1.heap.size = N at *
  clear w1
  go_loopw [11] (fun _ wr => ∃ (acc : List T) (vss : List (List Value)) (v : Value) (iC : Nat) (pl er : Int) (ts : List Sym) (F : Nat), ts.length < F ∧ acc.length + ts.length ≤ l.length ∧ Hid (loopP q ec kind i F acc ts = loopP q ec kind i (r.length + 1) [] r) ∧ Hid (BInv w B N s a cap l d f kind i acc vss v iC pl er ts wr)) (fun _ wr => left s.data.toList l B wr)
  case atStart => exact ⟨[], [], _, j, pl, er, r, r.length + 1, by omega, by simp; omega, hide rfl, I0⟩
  case round =>
    obtain ⟨acc, vss, v, iC, pl1, er1, ts, F, hF, hA, HE, HI⟩ := hrel
    obtain ⟨pv0, nv0, cv0, rfl⟩ := own_slice (unhide HI).own
    have HLW : Hid (left s.data.toList l B wr = ts.length) := hide (left_eq (unhide HI).rd (unhide HI).at')
    have KS : Hid _ := hide (seesMark_any wr B s a cap l iC (d + 1) pl1 er1 ts ec m1 m2 (unhide HI).rd ((unhide HT).grown (unhide HI).gr) (unhide HG) (unhide HI).at')
    cases hse : seesB ts ec with
    | true =>
      obtain ⟨x1, r1, rfl, hx1⟩ := seesB_yes hse
      have RES : Hid (loopP q ec kind i (r.length + 1) [] r = .inr (nd kind i (x1.2 + 1) acc, r1)) := hide (by rw [← unhide HE]; exact loop_end hx1 hF)
      rw [hse] at KS
      clear HE hse hx1 hF HK HL
      go_wp2_with fail
      refine (unhide KS).mono ?_
      rintro e wa ⟨rfl, hba⟩
      dsimp only
      have I1 := (unhide HI).below hba
      have c3 := Blk.cell I1.rd 3 (.int .i64 ((d : Int) + 1)) (by simp)
      have z3 := Blk.froz I1.rd 3
      have hgs := grown_set wa B 3 (.int .i64 (d : Int))
      obtain ⟨hi1, hx1, hre1⟩ := at_two I1.at'
      have K2 := hide (take_any _ B s a cap l iC d pl1 er1 (I1.rd.lev (d : Int) d rfl) (((unhide HT).grown I1.gr).grown hgs) (unhide HG) hi1)
      have HI1 := hide I1
      have HR1 := hide hre1
      have HX1 := hide hx1
      have HGS := hide hgs
      clear KS hba I1 HI hx1 hre1 hgs
      go_wp2_with fail
      refine (unhide K2).mono ?_
      rintro e w4 ⟨i4, rfl, n4, rd4, g4⟩
      dsimp only
      have g5 := grown_trans (unhide HGS) g4
      obtain ⟨k1, k2, k3⟩ := (unhide HI1).nb2 g5 (.int .i64 ((iC : Int) + 1))
      have p2 := Blk.cell k1 2 _ rfl
      have y2 := Blk.froz k1 2
      obtain ⟨q0, q1, q2, q3⟩ := Blk.cells4 k2
      obtain ⟨z0, z1, z2, z3⟩ := Blk.cells4 k3
      obtain ⟨y0, y1, y2', y3⟩ := Blk.froz4 k3
      have a4 : At s.data.toList l i4 r1 := unhide HR1 _ n4
      have FIN := hide ((unhide HI1).fin g5 rd4 a4 (x1.2 + 1) ((iC : Int) + 1) (by rw [unhide HX1]; omega))
      have FB := hide (put4_blk k3 (.int .i64 (kind : Int)) (.int .i64 (i : Int)) (.int .i64 ((iC : Int) + 1)) (.slice pv0 nv0 cv0))
      clear K2 n4 rd4 g4 g5 k1 k2 k3 a4 HI1 HR1 HX1 HGS c3
      go_wp2
      have FN := unhide FIN
      obtain ⟨f0, f1, f2, f3⟩ := Blk.cells4 (unhide FB)
      refine bodyPost_ret (v := .tuple #[.agg #[.int .i64 (kind : Int), .int .i64 (i : Int), .int .i64 ((iC : Int) + 1), .slice pv0 nv0 cv0], .bool true]) (by simp [results, Try.results46, go_sem, f0, f1, f2, f3]) rfl ?_
      refine unhide HPost _ _ ?_
      rw [unhide RES]
      exact FN
    | false =>
      rw [hse] at KS
      go_wp2_with fail
      refine (unhide KS).mono ?_
      rintro e wa ⟨rfl, hba⟩
      dsimp only
      have I1 := (unhide HI).below hba
      have KK := hide (unhide HK wa iC pl1 er1 ts I1.rd ((unhide HT).grown I1.gr) I1.at' (I1.gr.cell (unhide HP) (fun e => by injection e with e; exact hPB e)))
      have HI1 := hide I1
      have HSE := hide hse
      clear KS hba I1 HI HK hse
      cases hq : q ts with
      | inl er =>
        obtain ⟨c, te⟩ := er
        have RES : Hid (loopP q ec kind i (r.length + 1) [] r = .inl (c, te)) := hide (by rw [← unhide HE]; exact loop_kid_bad (unhide HSE) hq0 hq hF)
        rw [hq] at KK
        clear hq HE HSE hF HL hq0
        go_wp2_with fail
        refine (unhide KK).mono ?_
        rintro e wb ⟨hg, rfl, ib, db, rb⟩
        dsimp only
        have zb2 := Blk.alloc (Blk.grown (unhide HI1).zb hg (fun e => by injection e with e; have := (unhide HI1).lt; omega)) (.cells #[.int .i64 0, .int .i64 0, .int .i64 0, .slice none 0 0] 24)
        have rb2 : Rd ((World.alloc wb (.cells #[.int .i64 0, .int .i64 0, .int .i64 0, .slice none 0 0] 24))) B s (.slice a l.length cap) ib db _ _ := Blk.alloc rb _
        have G2 := hide (grown_alloc (grown_trans (unhide HI1).gr hg) (.cells #[.int .i64 0, .int .i64 0, .int .i64 0, .slice none 0 0] 24))
        obtain ⟨z0, z1, z2, z3⟩ := Blk.cells4 zb2
        obtain ⟨y0, y1, y2, y3⟩ := Blk.froz4 zb2
        have FE := hide (fail_end (d := d) (f := f + 1) (unhide HI1).lt.1 (grown_alloc (grown_trans (unhide HI1).gr hg) _) zb2 rb2)
        clear KK hg rb zb2 rb2 HI1 G2
        go_wp2
        obtain ⟨FE1, f0, f1, f2, f3⟩ := unhide FE
        refine bodyPost_ret (v := .tuple #[(.agg #[.int .i64 0, .int .i64 0, .int .i64 0, .slice none 0 0]), .bool false]) (by simp [results, Try.results46, go_sem, f0, f1, f2, f3]) rfl ?_
        refine unhide HPost _ _ ?_
        rw [unhide RES]
        exact FE1
      | inr tr =>
        obtain ⟨t, rest⟩ := tr
        have hless := loc_less (unhide HL) hq
        have EM : Hid (left s.data.toList l B wr = ts.length) := HLW
        have HQ := hide hq
        rw [hq] at KK
        clear hq HL
        go_wp2_with fail
        refine (unhide KK).mono ?_
        rintro e wb ⟨hg, u0, u1, u2, u3, rfl, hL, ib, plb, erb, rb, ab⟩
        dsimp only
        obtain ⟨k0, a0, e0, pk, nk, ck, rfl, rfl, rfl, rfl⟩ := hL.form
        have I2 := (unhide HI1).on hg rb ab
        have bc : Below wb.heap.size wb (wb.alloc (.cells #[.int .i64 (k0 : Int), .int .i64 (a0 : Int), .int .i64 (e0 : Int), .slice pk nk ck] 24)) := (Below.refl _ wb).alloc (Nat.le_refl _) _
        have I3 := I2.below bc
        have n3 := Blk.cell I3.nb 3 (.slice pv0 nv0 cv0) rfl
        obtain ⟨j0, j1, j2, j3⟩ := Blk.cells4 (blk_alloc wb #[.int .i64 (k0 : Int), .int .i64 (a0 : Int), .int .i64 (e0 : Int), .slice pk nk ck] 24)
        have hL2 := hide (hL.weaken (ok' := fun b => N + 1 ≤ b ∧ some b ≠ (Value.slice pv0 nv0 cv0).ownBlock) (fun b hb => ⟨by have := (unhide HI1).sz; omega, fun e => by have := ((unhide HI1).own.lt b e.symm).2; omega⟩))
        have HI2 := hide I2
        have HI3 := hide I3
        have hNs := I3.sz
        have hown3 := I3.own
        clear KK hg rb ab hL I2 I3 bc HI1
        obtain ⟨i0, hinf, hz0, hz1, hz2⟩ := info_parts infoNode
        go_wp2_with (at_builtin; refine wpList_append_lies _ rfl _ _ 22 rfl (N + 1) 24 i0 (.agg #[.int .i64 0, .int .i64 0, .int .i64 0, .slice none 0 0]) 4 48 Try.underlying22 hinf hz0 hz1 hz2 rfl (by decide) _ _ _ rfl (hown3.alloc _) ⟨wb.heap.size + 1, 0, none⟩ 1 1 [.int .i64 (k0 : Int), .int .i64 (a0 : Int), .int .i64 (e0 : Int), .slice pk nk ck] rfl rfl ?c1 ?c2 ?c3 ?c4 ?c5 ?c6 (wb.heap.size + 2) ?c7 ?_)
        case c1 =>
          have := cell_four_new (wb.alloc (.cells #[.int .i64 (k0 : Int), .int .i64 (a0 : Int), .int .i64 (e0 : Int), .slice pk nk ck] 24)) (.int .i64 (k0 : Int)) (.int .i64 (a0 : Int)) (.int .i64 (e0 : Int)) (.slice pk nk ck) 24
          simpa using this
        case c2 => intro u hu; simp at hu; rcases hu with rfl | rfl | rfl | rfl <;> rfl
        case c3 => decide
        case c4 => unfold maxLen; omega
        case c5 => omega
        case c6 => simp at hNs ⊢; omega
        case c7 => simp
        intro g cap' wx hown2 hg2 hat hlt2
        have I4 := (unhide HI3).below ((Below.refl (wb.alloc (.cells #[.int .i64 (k0 : Int), .int .i64 (a0 : Int), .int .i64 (e0 : Int), .slice pk nk ck] 24)).heap.size _).alloc (Nat.le_refl _) (.cells #[.int .i64 (k0 : Int), .int .i64 (a0 : Int), .int .i64 (e0 : Int), .slice pk nk ck] 24))
        have hL4 := (((unhide hL2).below ((Below.refl _ wb).alloc (Nat.le_refl _) (.cells #[.int .i64 (k0 : Int), .int .i64 (a0 : Int), .int .i64 (e0 : Int), .slice pk nk ck] 24))).below ((Below.refl _ _).alloc (Nat.le_refl _) (.cells #[.int .i64 (k0 : Int), .int .i64 (a0 : Int), .int .i64 (e0 : Int), .slice pk nk ck] 24)))
        have nx := Blk.grown I4.nb hg2 (own_not4 I4.own (Nat.lt_succ_self N))
        have nx3 := Blk.cell nx 3 (.slice pv0 nv0 cv0) rfl
        have nf3 := Blk.froz nx 3
        have I5 := hide (I4.more hL4 hown2 hg2 (by
          rcases hat with e | e
          · exact .inl (by rw [e]; rfl)
          · refine .inr (fun g' hg' => ?_)
            have e2 : some g = some g' := hg'
            injection e2 with e2
            simp
            omega))
        clear I4 hL4 nx hown2 hg2 hat hlt2 HI2 HI3 hL2 n3 j0 j1 j2 j3 hNs hown3 hinf hz0 hz1 hz2 i0
        have hA2 : (acc ++ [t]).length + rest.length ≤ l.length := by simp; omega
        go_wp2_with fail
        clear nx3 nf3
        generalize wx.setCell ⟨N, 3, none⟩ (.slice (some ⟨g, 0, none⟩) (acc.length + 1) cap') = w5 at *
        have KS2 := hide (seesMark_any w5 B s a cap l ib (d + 1) plb erb rest 44 (by decide) (by decide) (unhide I5).rd ((unhide HT).grown (unhide I5).gr) (unhide HG) (unhide I5).at')
        cases h44 : seesB rest 44 with
        | true =>
          obtain ⟨y, r2, rfl, hy⟩ := seesB_yes h44
          have HE2 : Hid (loopP q ec kind i (F - 1) (acc ++ [t]) r2 = loopP q ec kind i (r.length + 1) [] r) := hide (by rw [← unhide HE]; exact (loop_comma (unhide HSE) hq0 (unhide HQ) hy hF).symm)
          rw [h44] at KS2
          clear h44 hy HE HSE HQ
          refine (unhide KS2).mono ?_
          rintro e w6 ⟨rfl, hb6⟩
          dsimp only
          have I6 := (unhide I5).below hb6
          obtain ⟨hi6, hx6, hre6⟩ := at_two I6.at'
          have K6 := hide (take_any w6 B s a cap l ib (d + 1) plb erb I6.rd ((unhide HT).grown I6.gr) (unhide HG) hi6)
          have HI6 := hide I6
          have HR6 := hide hre6
          clear KS2 hb6 I6 I5 hre6 hi6 hx6
          go_wp2_with fail
          refine (unhide K6).mono ?_
          rintro e w7 ⟨i7, rfl, n7, rd7, g7⟩
          dsimp only
          have a7 : At s.data.toList l i7 r2 := unhide HR6 _ n7
          have HI7 := hide ((unhide HI6).on g7 rd7 a7)
          have hlen2 : (y :: r2).length = r2.length + 1 := rfl
          have EM7 := hide (left_eq rd7 a7)
          clear K6 n7 rd7 g7 a7 HI6 HR6
          go_wp2
          go_roundw
          case rel => exact ⟨acc ++ [t], vss ++ [_], _, i7, plb, erb, r2, F - 1, by omega, by omega, HE2, HI7⟩
          case measure => rw [unhide EM, unhide EM7]; omega
        | false =>
          rw [h44] at KS2
          refine (unhide KS2).mono ?_
          rintro e w6 ⟨rfl, hb6⟩
          dsimp only
          have I6 := (unhide I5).below hb6
          have K6 := hide (seesMark_any w6 B s a cap l ib (d + 1) plb erb rest ec m1 m2 I6.rd ((unhide HT).grown I6.gr) (unhide HG) I6.at')
          have HI6 := hide I6
          have H44 := hide h44
          clear KS2 hb6 I6 I5 h44
          cases hec : seesB rest ec with
          | true =>
            obtain ⟨y, r2, rfl, hy⟩ := seesB_yes hec
            have HE2 : Hid (loopP q ec kind i ((y :: r2).length + 1) (acc ++ [t]) (y :: r2) = loopP q ec kind i (r.length + 1) [] r) := hide (by rw [← unhide HE, loop_shut (unhide HSE) hq0 (unhide HQ) (seesB_no (unhide H44)) hy hF]; exact loop_end hy (Nat.lt_succ_self _))
            rw [hec] at K6
            clear hec hy HE HSE HQ H44
            go_wp2_with fail
            refine (unhide K6).mono ?_
            rintro e w7 ⟨rfl, hb7⟩
            dsimp only
            have HI7 := hide ((unhide HI6).below hb7)
            have EM7 := hide (left_eq (unhide HI7).rd (unhide HI7).at')
            clear K6 hb7 HI6
            go_wp2
            go_roundw
            case rel => exact ⟨acc ++ [t], vss ++ [_], _, ib, plb, erb, y :: r2, (y :: r2).length + 1, by omega, hA2, HE2, HI7⟩
            case measure => rw [unhide EM, unhide EM7]; omega
          | false =>
            have RES : Hid (loopP q ec kind i (r.length + 1) [] r = .inl (4, rest)) := hide (by rw [← unhide HE]; exact loop_else (unhide HSE) hq0 (unhide HQ) (unhide H44) hec hF)
            rw [hec] at K6
            clear hec HE HSE HQ H44
            go_wp2_with fail
            refine (unhide K6).mono ?_
            rintro e w7 ⟨rfl, hb7⟩
            dsimp only
            have I7 := (unhide HI6).below hb7
            have K7 := hide (refuse_any w7 B s a cap l ib (d + 1) plb erb rest 4 (by decide) I7.rd ((unhide HT).grown I7.gr) (unhide HG) I7.at')
            have HI7 := hide I7
            clear K6 hb7 I7 HI6
            go_wp2_with fail
            refine (unhide K7).mono ?_
            rintro e w8 ⟨rfl, rd8, g8⟩
            dsimp only
            have zb8 := Blk.grown (unhide HI7).zb g8 (fun e => by injection e with e; have := (unhide HI7).lt; omega)
            obtain ⟨z0, z1, z2, z3⟩ := Blk.cells4 zb8
            obtain ⟨y0, y1, y2, y3⟩ := Blk.froz4 zb8
            have FE := hide (fail_end (d := d) (f := f + 1) (unhide HI7).lt.1 (grown_trans (unhide HI7).gr g8) zb8 rd8)
            clear K7 rd8 g8 zb8 HI7
            go_wp2
            obtain ⟨FE1, f0, f1, f2, f3⟩ := unhide FE
            refine bodyPost_ret (v := .tuple #[(.agg #[.int .i64 0, .int .i64 0, .int .i64 0, .slice none 0 0]), .bool false]) (by simp [results, Try.results46, go_sem, f0, f1, f2, f3]) rfl ?_
            refine unhide HPost _ _ ?_
            rw [unhide RES]
            exact FE1
end Go.Proofs.Ytoikdjbgeebadaa.trees
/- The walk of package tree's closures: they read a kid. -/
set_option linter.unusedVariables false
namespace Go.Proofs.Ytoikdjbgeebadaa.trees
open Go.RowKit
open toks

set_option maxHeartbeats 1000000 in
set_option maxRecDepth 100000 in
theorem kid_2 (w : World) (B P : Nat) (s : ByteArray) (a : Option Addr) (cap : Nat) (l : List Tk) (i d : Nat) (pl er : Int) (ts : List Sym) (q : List Sym → R) (f : Nat)
    (hr : Rd w B s (.slice a l.length cap) i d pl er) (ht : TkIn w B a l) (hat : At s.data.toList l i ts) (hP : w.cell? ⟨P, 0, none⟩ = some ((.pointer (some ⟨B, 0, none⟩))))
    (VAL : ∀ (u : World) (j : Nat) (pl er : Int) (ts : List Sym), Rd u B s (.slice a l.length cap) j d pl er → TkIn u B a l → At s.data.toList l j ts → Calls Try.prog 25 #[(.pointer (some ⟨B, 0, none⟩))] u (Res B s a cap l d f u (q ts))) :
    Calls Try.prog 49 #[(.pointer (some ⟨P, 0, none⟩))] w (Res B s a cap l d f w (q ts)) := by
  have hB := Blk.lt hr
  have bz : Below w.heap.size w ((World.alloc w (.cells #[.int .i64 0, .int .i64 0, .int .i64 0, .slice none 0 0] 24))) := (Below.refl _ w).alloc (Nat.le_refl _) _
  have KV := hide (VAL ((World.alloc w (.cells #[.int .i64 0, .int .i64 0, .int .i64 0, .slice none 0 0] 24))) i pl er ts (hr.below bz) (ht.below bz) hat)
  have cP : ((World.alloc w (.cells #[.int .i64 0, .int .i64 0, .int .i64 0, .slice none 0 0] 24))).cell? ⟨P, 0, none⟩ = some ((.pointer (some ⟨B, 0, none⟩))) := by
    rw [← hP]
    exact World.cell?_of_block (Below.heap_alloc _ _ _ (World.block_lt_of_cell? w _ hP))
  have HZ := hide (blk_alloc w #[.int .i64 0, .int .i64 0, .int .i64 0, .slice none 0 0] 24)
  have HGZ := hide (grown_alloc (grown_refl w (some B)) (.cells #[.int .i64 0, .int .i64 0, .int .i64 0, .slice none 0 0] 24))
  have hz0 : ((World.alloc w (.cells #[.int .i64 0, .int .i64 0, .int .i64 0, .slice none 0 0] 24))).heap.size = w.heap.size + 1 := by simp
  have HB := hide hB
  clear hr ht hat VAL hB bz hP
  suffices FIN : ∀ Post : Ending → World → Prop, Hid (∀ e w', Res B s a cap l d f w (q ts) e w' → Post e w') → Calls Try.prog 49 #[(.pointer (some ⟨P, 0, none⟩))] w Post from FIN _ (hide fun _ _ h => h)
  intro Post HPost
  go_enter Try.func49, Try.ntmps49
  go_wp2_with fail
  generalize (World.alloc w (.cells #[.int .i64 0, .int .i64 0, .int .i64 0, .slice none 0 0] 24)) = w0 at *
  clear cP
  generalize q ts = qq at *
  cases qq with
  | inl er1 =>
    obtain ⟨c, te⟩ := er1
    refine (unhide KV).mono ?_
    rintro e w7 ⟨g7, rfl, ib, db, rb⟩
    dsimp only
    have zb := Blk.grown (unhide HZ) g7 (fun e => by injection e with e; have := unhide HB; omega)
    obtain ⟨z0, z1, z2, z3⟩ := Blk.cells4 zb
    obtain ⟨y0, y1, y2, y3⟩ := Blk.froz4 zb
    have FE := hide (pass_bad (d := d) (f := f) (unhide HB) (Nat.le_refl _) (unhide HGZ) g7 zb rb)
    clear KV g7 rb zb
    go_wp2
    obtain ⟨FE1, FC⟩ := unhide FE
    refine ret_put (v := .tuple #[(.agg #[.int .i64 0, .int .i64 0, .int .i64 0, .slice none 0 0]), .bool false]) FC (fun wF hF => by obtain ⟨f0, f1, f2, f3⟩ := hF; simp [results, Try.results49, go_sem, f0, f1, f2, f3]) rfl ?_
    exact unhide HPost _ _ FE1
  | inr tr =>
    obtain ⟨v, r2⟩ := tr
    refine (unhide KV).mono ?_
    rintro e w7 ⟨g7, u0, u1, u2, u3, rfl, hL, ib, plb, erb, rb, ab⟩
    dsimp only
    obtain ⟨k0, a0, e0, pk, nk, ck, rfl, rfl, rfl, rfl, he0, f', rfl⟩ := hL.form'
    have zb := Blk.grown (unhide HZ) g7 (fun e => by injection e with e; have := unhide HB; omega)
    obtain ⟨z0, z1, z2, z3⟩ := Blk.cells4 zb
    obtain ⟨y0, y1, y2, y3⟩ := Blk.froz4 zb
    have FE := hide (pass_good (d := d) (unhide HB) (Nat.le_refl _) (by omega) (unhide HGZ) g7 zb hL rb ab)
    clear KV g7 rb zb hL ab he0
    go_wp2
    obtain ⟨FE1, FC⟩ := unhide FE
    refine ret_put (v := .tuple #[.agg #[.int .i64 (k0 : Int), .int .i64 (a0 : Int), .int .i64 (e0 : Int), .slice pk nk ck], .bool true]) FC (fun wF hF => by obtain ⟨f0, f1, f2, f3⟩ := hF; simp [results, Try.results49, go_sem, f0, f1, f2, f3]) rfl ?_
    exact unhide HPost _ _ FE1
end Go.Proofs.Ytoikdjbgeebadaa.trees
