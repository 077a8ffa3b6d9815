/- The walks of package tree's reader: the next token. -/
import Derived.Test.YtoikdjbgeebadaaTreeAt
import Derived.Test.YtoikdjbgeebadaaTreeMem
import Derived.Test.YtoikdjbgeebadaaTokEqW
import Derived.BigRegion
set_option linter.unusedVariables false
namespace Go.Proofs.Ytoikdjbgeebadaa.trees
open Go.RowKit
open toks

/-- The reader's block. -/
def Rd (w : World) (B : Nat) (s : ByteArray) (tv : Value) (i d : Nat) (pl er : Int) : Prop := Blk w B #[.string s, tv, .int .i64 (i : Int), .int .i64 (d : Int), .int .i64 pl, .int .i64 er] 47
/-- The tokens lie ahead of block B. -/
def TkIn (w : World) (B : Nat) (a : Option Addr) (l : List Tk) : Prop :=
  l ≠ [] → ∃ b o, a = some ⟨b, o, none⟩ ∧ b < B ∧ ∀ j (h : j < l.length), w.cell? ⟨b, o + j * 3, none⟩ = some (.int .i64 (l[j].kind : Int)) ∧ w.cell? ⟨b, o + j * 3 + 1, none⟩ = some (.int .i64 (l[j].fro : Int)) ∧ w.cell? ⟨b, o + j * 3 + 2, none⟩ = some (.int .i64 (l[j].til : Int))
theorem TkIn.grown {w w' : World} {B : Nat} {a : Option Addr} {l : List Tk} (h : TkIn w B a l) (hg : w.grownBy w' (some B)) : TkIn w' B a l := by
  intro h0
  obtain ⟨b, o, e, hb, hc⟩ := h h0
  have hne : ∀ k, some (⟨b, k, none⟩ : Addr).block ≠ some B := fun k e => by injection e with e; exact absurd e (Nat.ne_of_lt hb)
  refine ⟨b, o, e, hb, fun j hj => ?_⟩
  obtain ⟨c1, c2, c3⟩ := hc j hj
  exact ⟨hg.cell c1 (hne _), hg.cell c2 (hne _), hg.cell c3 (hne _)⟩
theorem grown_below {w w' : World} {r : Option Nat} (h : Below w.heap.size w w') : w.grownBy w' r := ⟨h.os, h.tape, h.output, h.size, fun k hk _ => h.block k hk⟩
theorem TkIn.below {w w' : World} {B : Nat} {a : Option Addr} {l : List Tk} (h : TkIn w B a l) (hb : Below w.heap.size w w') : TkIn w' B a l := h.grown (grown_below hb)
theorem Rd.below {w w' : World} {B : Nat} {s : ByteArray} {tv : Value} {i d : Nat} {pl er : Int} (h : Rd w B s tv i d pl er) (hb : Below w.heap.size w w') : Rd w' B s tv i d pl er := Blk.below h hb
theorem Rd.next {w : World} {B : Nat} {s : ByteArray} {tv : Value} {i d : Nat} {pl er : Int} (h : Rd w B s tv i d pl er) (j : Nat) : Rd (w.setCell ⟨B, 2, none⟩ (.int .i64 (j : Int))) B s tv j d pl er := by
  have := Blk.set h 2 (.int .i64 (j : Int))
  exact this
theorem Rd.level {w : World} {B : Nat} {s : ByteArray} {tv : Value} {i d : Nat} {pl er : Int} (h : Rd w B s tv i d pl er) (j : Nat) : Rd (w.setCell ⟨B, 3, none⟩ (.int .i64 (j : Int))) B s tv i j pl er := by
  have := Blk.set h 3 (.int .i64 (j : Int))
  exact this
theorem Rd.place {w : World} {B : Nat} {s : ByteArray} {tv : Value} {i d : Nat} {pl er : Int} (h : Rd w B s tv i d pl er) (j : Int) : Rd (w.setCell ⟨B, 4, none⟩ (.int .i64 j)) B s tv i d j er := by
  have := Blk.set h 4 (.int .i64 j)
  exact this
theorem Rd.err {w : World} {B : Nat} {s : ByteArray} {tv : Value} {i d : Nat} {pl er : Int} (h : Rd w B s tv i d pl er) (j : Int) : Rd (w.setCell ⟨B, 5, none⟩ (.int .i64 j)) B s tv i d pl j := by
  have := Blk.set h 5 (.int .i64 j)
  exact this
/-- A node's four cells, stored. -/
abbrev put4 (w : World) (b : Nat) (u0 u1 u2 u3 : Value) : World := (((w.setCell ⟨b, 0, none⟩ u0).setCell ⟨b, 1, none⟩ u1).setCell ⟨b, 2, none⟩ u2).setCell ⟨b, 3, none⟩ u3
theorem put4_blk {w : World} {b : Nat} {x0 x1 x2 x3 : Value} {t : Nat} (h : Blk w b #[x0, x1, x2, x3] t) (u0 u1 u2 u3 : Value) : Blk (put4 w b u0 u1 u2 u3) b #[u0, u1, u2, u3] t := by
  have := (((h.set 0 u0).set 1 u1).set 2 u2).set 3 u3
  simpa using this
theorem put4_other {w : World} {b c : Nat} {cs : Array Value} {t : Nat} (h : Blk w c cs t) (hne : c ≠ b) (u0 u1 u2 u3 : Value) : Blk (put4 w b u0 u1 u2 u3) c cs t :=
  (((h.set_other _ _ hne).set_other _ _ hne).set_other _ _ hne).set_other _ _ hne
theorem put4_size (w : World) (b : Nat) (u0 u1 u2 u3 : Value) : (put4 w b u0 u1 u2 u3).heap.size = w.heap.size := by simp [put4, World.setCell]
theorem put4_heap {w : World} {b c : Nat} (hne : c ≠ b) (u0 u1 u2 u3 : Value) : (put4 w b u0 u1 u2 u3).heap[c]? = w.heap[c]? := by
  unfold put4
  rw [Below.heap_setCell _ _ _ _ hne, Below.heap_setCell _ _ _ _ hne, Below.heap_setCell _ _ _ _ hne, Below.heap_setCell _ _ _ _ hne]
theorem put4_grown {w w2 : World} {r : Option Nat} {b : Nat} (h : w.grownBy w2 r) (hb : w.heap.size ≤ b) (u0 u1 u2 u3 : Value) : w.grownBy (put4 w2 b u0 u1 u2 u3) r :=
  ⟨h.os, h.tape, h.output, by rw [put4_size]; exact h.size, fun k hk hr => by rw [put4_heap (by omega)]; exact h.block k hk hr⟩
/-- The cells of a node in a block of its own. -/
structure Cells4 (w : World) (b : Nat) (u0 u1 u2 u3 : Value) : Prop where
  c0 : w.cell? ⟨b, 0, none⟩ = some u0
  c1 : w.cell? ⟨b, 1, none⟩ = some u1
  c2 : w.cell? ⟨b, 2, none⟩ = some u2
  c3 : w.cell? ⟨b, 3, none⟩ = some u3
theorem Blk.cells4 {w : World} {b : Nat} {u0 u1 u2 u3 : Value} {t : Nat} (h : Blk w b #[u0, u1, u2, u3] t) : Cells4 w b u0 u1 u2 u3 := ⟨Blk.cell h 0 _ rfl, Blk.cell h 1 _ rfl, Blk.cell h 2 _ rfl, Blk.cell h 3 _ rfl⟩
structure Froz4 (w : World) (b : Nat) : Prop where
  c0 : w.frozen? ⟨b, 0, none⟩ = false
  c1 : w.frozen? ⟨b, 1, none⟩ = false
  c2 : w.frozen? ⟨b, 2, none⟩ = false
  c3 : w.frozen? ⟨b, 3, none⟩ = false
theorem Blk.froz4 {w : World} {b : Nat} {cs : Array Value} {t : Nat} (h : Blk w b cs t) : Froz4 w b := ⟨Blk.froz h 0, Blk.froz h 1, Blk.froz h 2, Blk.froz h 3⟩
theorem grown_alloc {w w' : World} {r : Option Nat} (h : w.grownBy w' r) (o : Obj) : w.grownBy (w'.alloc o) r :=
  ⟨h.os, h.tape, h.output, Nat.le_trans h.size (by simp), fun k hk hr => by rw [Below.heap_alloc _ _ _ (Nat.lt_of_lt_of_le hk h.size)]; exact h.block k hk hr⟩
theorem grown_drewN {w w' : World} {r : Option Nat} (h : w.grownBy w' r) (n : Nat) : w.grownBy (w'.drewN n) r := ⟨h.os, h.tape, h.output, h.size, h.block⟩
set_option maxHeartbeats 1000000 in
set_option maxRecDepth 100000 in
theorem goOn_any (w : World) (B : Nat) (s : ByteArray) (a : Option Addr) (cap : Nat) (l : List Tk) (i d : Nat) (pl er : Int) (n : Nat) (hr : Rd w B s (.slice a l.length cap) i d pl er) (ht : TkIn w B a l) (g : Good s l) (hn : n ≤ l.length) :
    Calls Try.prog 24 #[.pointer (some ⟨B, 0, none⟩), .int .i64 (n : Int)] w fun e w' => ∃ j, e = .returned (.tuple #[]) ∧ Nxt l n j ∧ Rd w' B s (.slice a l.length cap) j d pl er ∧ w.grownBy w' (some B) := by
  have c1 := hr.cell 1 _ rfl
  have c2 := hr.cell 2 _ rfl
  have z2 := hr.froz 2
  have HR := hide hr
  have HT := hide ht
  have HG := hide g
  have hl := g.len
  clear hr ht g
  go_enter Try.func24, Try.ntmps24
  go_wp2_with fail
  go_loopw [1] (fun i wr => wr = w ∧ ∃ k : Nat, n ≤ k ∧ k ≤ l.length ∧ i = .int .i64 k ∧ Hid (∀ m (h : m < l.length), n ≤ m → m < k → ¬ 3 < l[m].kind)) (fun i _ => l.length - (intOf i).toNat)
  case atStart => exact ⟨rfl, n, Nat.le_refl _, hn, rfl, hide (fun m h h1 h2 => by omega)⟩
  case round =>
    obtain ⟨rfl, k, hnk, hk, rfl, HN⟩ := hrel
    by_cases hlt : k < l.length
    · have hne : l ≠ [] := fun e => by rw [e] at hlt; simp at hlt
      obtain ⟨b, o, rfl, hb, q⟩ := (unhide HT) hne
      obtain ⟨x1, _, _⟩ := q k hlt
      have hk7 := (unhide HG).kind k hlt
      have KS : Hid _ := hide (solid_any wr (l[k].kind : Int) (by omega) (by omega))
      have i1 : (k : Int) < (l.length : Int) := by omega
      have d1 : decide ((k : Int) < (l.length : Int)) = true := decide_eq_true i1
      by_cases h3 : 3 < l[k].kind
      · rw [decide_eq_true (show (4 : Int) ≤ (l[k].kind : Int) ∧ (l[k].kind : Int) ≤ 7 by omega)] at KS
        have J : Hid (Nxt l n k) := hide ⟨hnk, hk, unhide HN, fun _ => h3⟩
        clear q h3 hk7
        generalize l[k].kind = z at *
        go_wp2_with fail
        refine (unhide KS).mono ?_
        rintro e w2 ⟨rfl, hw⟩
        rw [hw]
        clear hw KS
        go_wp2
        go_end0
        exact ⟨k, rfl, unhide J, (unhide HR).next k, grown_set _ _ _ _⟩
      · rw [decide_eq_false (show ¬ ((4 : Int) ≤ (l[k].kind : Int) ∧ (l[k].kind : Int) ≤ 7) by omega)] at KS
        have J : Hid (∀ m (h : m < l.length), n ≤ m → m < k + 1 → ¬ 3 < l[m].kind) := hide (fun m h h1 h2 => by
          by_cases e : m = k
          · subst e; exact h3
          · exact unhide HN m h h1 (by omega))
        clear q h3 hk7
        generalize l[k].kind = z at *
        go_wp2_with fail
        refine (unhide KS).mono ?_
        rintro e w2 ⟨rfl, hw⟩
        rw [hw]
        clear hw KS
        go_wp2
        go_roundw
        case rel => exact ⟨by first | rfl | trivial, k + 1, by omega, hlt, by go_num, J⟩
        case measure => simp only [intOf]; omega
    · have hkl : k = l.length := by omega
      have d1 : decide ((k : Int) < (l.length : Int)) = false := decide_eq_false (by omega)
      have J : Hid (Nxt l n k) := hide ⟨hnk, hk, unhide HN, fun h => absurd h hlt⟩
      clear hkl
      go_wp2
      go_end0
      exact ⟨k, rfl, unhide J, (unhide HR).next k, grown_set _ _ _ _⟩
end Go.Proofs.Ytoikdjbgeebadaa.trees
