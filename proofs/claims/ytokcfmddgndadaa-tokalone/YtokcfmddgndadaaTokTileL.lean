/- The walk of the law that tokens lie one behind the other. -/
import Derived.Test.YtokcfmddgndadaaTokEqW
set_option linter.unusedVariables false
namespace Go.Proofs.Ytokcfmddgndadaa.toks
open Go.RowKit

/-- Where the token of number k begins: where the one ahead of it ends. -/
def atT (l : List Tk) : Nat → Nat
  | 0 => 0
  | j + 1 => (l.getD j ⟨0, 0, 0⟩).til
theorem atT_succ (l : List Tk) (j : Nat) : atT l (j + 1) = (l.getD j ⟨0, 0, 0⟩).til := rfl
theorem getD_tk {l : List Tk} {k : Nat} (h : k < l.length) : l.getD k ⟨0, 0, 0⟩ = l[k] := by
  rw [List.getD, List.getElem?_eq_getElem h]; rfl
theorem tile_at {l : List UInt8} {k : Nat} (h : k < (toksL l).length) :
    (toksL l)[k].fro = atT (toksL l) k ∧ (toksL l)[k].fro < (toksL l)[k].til ∧ (toksL l)[k].til ≤ l.length ∧ 1 ≤ (toksL l)[k].kind ∧ (toksL l)[k].kind ≤ 7 ∧ atT (toksL l) (k + 1) = (toksL l)[k].til := by
  have hg : (cutP 0 l)[k]? = some (toksL l)[k] := List.getElem?_eq_getElem h
  obtain ⟨_, h2, h3, _, _, k1, k7, _⟩ := cut_at k 0 l _ hg
  refine ⟨?_, h2, by omega, k1, k7, by rw [atT_succ, getD_tk h]⟩
  cases k with
  | zero => exact cut_first hg
  | succ j =>
    have hj : j < (toksL l).length := by omega
    have hg2 : (cutP 0 l)[j]? = some (toksL l)[j] := List.getElem?_eq_getElem hj
    rw [atT_succ, getD_tk hj]
    exact (cut_next j 0 l _ _ hg2 hg).1
theorem tile_apart {l : List UInt8} {k : Nat} (h : k + 1 < (toksL l).length) (e : (toksL l)[k + 1].kind = (toksL l)[k].kind) : (toksL l)[k + 1].kind ≠ 1 ∧ (toksL l)[k + 1].kind ≠ 4 := by
  have hk : k < (toksL l).length := by omega
  have hg : (cutP 0 l)[k + 1]? = some (toksL l)[k + 1] := List.getElem?_eq_getElem h
  have hg2 : (cutP 0 l)[k]? = some (toksL l)[k] := List.getElem?_eq_getElem hk
  have := (cut_next k 0 l _ _ hg2 hg).2 e
  rw [e]
  exact this
theorem tile_end (l : List UInt8) : atT (toksL l) (toksL l).length = l.length := by
  generalize hn : (toksL l).length = n
  cases n with
  | zero =>
    have h0 : (cutP 0 l)[0]? = none := by rw [List.getElem?_eq_none_iff]; exact Nat.le_of_eq hn
    rw [cut_none h0]
    rfl
  | succ j =>
    have hj : j < (toksL l).length := by omega
    have hg : (cutP 0 l)[j]? = some (toksL l)[j] := List.getElem?_eq_getElem hj
    have h0 : (cutP 0 l)[j + 1]? = none := by rw [List.getElem?_eq_none_iff]; exact Nat.le_of_eq hn
    have := cut_last j 0 l _ hg h0
    rw [atT_succ, getD_tk hj, this]
    omega
/-- What the law asks of a list of tokens. -/
structure Tiled (l : List Tk) (n : Nat) : Prop where
  here : ∀ (k : Nat) (h : k < l.length), l[k].fro = atT l k ∧ l[k].fro < l[k].til ∧ l[k].til ≤ n ∧ 1 ≤ l[k].kind ∧ l[k].kind ≤ 7 ∧ atT l (k + 1) = l[k].til
  apart : ∀ (k : Nat) (h : k + 1 < l.length), l[k + 1].kind = l[k].kind → l[k + 1].kind ≠ 1 ∧ l[k + 1].kind ≠ 4
  fin : atT l l.length = n
theorem tiled (s : ByteArray) : Tiled (toksL s.data.toList) s.size :=
  ⟨fun k h => by have := tile_at (l := s.data.toList) h; rw [len_list] at this; exact this, fun k h => tile_apart h, by rw [tile_end, len_list]⟩
theorem toks_len (s : ByteArray) : (toksL s.data.toList).length ≤ s.size := by
  have := cutP_len 0 s.data.toList
  rw [len_list] at this
  exact this
theorem new_drew (w : World) (x y z : Value) (t : TypeId) (n : Nat) : ((w.alloc (.cells #[x, y, z] t)).drewN n).cell? ⟨w.heap.size, 2, none⟩ = some z := by
  rw [(below_drewN (Below.refl (w.alloc (.cells #[x, y, z] t)).heap.size _) n).cell (p := ⟨w.heap.size, 2, none⟩) (by simp)]
  exact (blk_alloc w #[x, y, z] t).cell 2 _ rfl
set_option maxHeartbeats 400000 in
set_option maxRecDepth 100000 in
theorem tile_large (w : World) (s : ByteArray) (hs : 20000 < s.size) (hM : MaxOk w) :
    Calls Try.prog 4 #[.string s] w fun e w' => e = .returned (.bool true) ∧ Below w.heap.size w w' := by
  have K0 := hide (toks_any w hM)
  have K1 : ∀ u, Hid _ := fun u => hide (cut_large s u hs)
  have i1 : (s.size : Int) > 20000 := by omega
  clear hM
  go_enter Try.func4, Try.ntmps4
  go_wp2_with fail
  refine (unhide K0).mono ?_
  rintro e w1 ⟨rfl, b1⟩
  go_wp2_with fail
  refine (unhide (K1 w1)).mono ?_
  rintro e w2 ⟨rfl, hw⟩
  rw [hw]
  clear hw K0 K1
  go_wp2
  go_ret
  exact ⟨rfl, b1⟩
set_option maxHeartbeats 4000000 in
set_option maxRecDepth 100000 in
theorem lawTile (w : World) (s : ByteArray) (hM : MaxOk w) :
    Calls Try.prog 4 #[.string s] w fun e w' => e = .returned (.bool true) ∧ Below w.heap.size w w' := by
  by_cases hs : 20000 < s.size
  · exact tile_large w s hs hM
  have hs : s.size ≤ 20000 := by omega
  have K0 := hide (toks_any w hM)
  have K1 : ∀ u, Below w.heap.size w u → Hid _ := fun u hu => hide (cut_any s u hs (hM.below (Nat.le_refl _) hu))
  have TT := hide (tiled s)
  have hn := toks_len s
  clear hM
  generalize toksL s.data.toList = l at *
  have hn2 : l.length ≤ 20000 := by omega
  go_enter Try.func4, Try.ntmps4
  go_wp2_with fail
  refine (unhide K0).mono ?_
  rintro e w1 ⟨rfl, b1⟩
  have K2 := K1 w1 b1
  have B1 := hide b1
  clear K0 K1 b1
  go_wp2_with fail
  refine (unhide K2).mono ?_
  rintro e w2 ⟨v, rfl, ⟨a, cap, rfl, hcap, r⟩, b2⟩
  have R := hide r
  have B2 := hide ((unhide B1).trans (b2.mono (unhide B1).size))
  clear K2 r b2 B1
  go_wp2_with fail
  go_loopw [5, 27] (fun p i wr => ∃ k : Nat, k ≤ l.length ∧ i = .int .i64 k ∧ p = .int .i64 (atT l k : Int) ∧ Below w2.heap.size w2 wr) (fun _ i _ => l.length - (intOf i).toNat)
  case atStart => exact ⟨0, Nat.zero_le _, rfl, rfl, Below.refl _ _⟩
  case round =>
    obtain ⟨k, hk, rfl, rfl, hbw⟩ := hrel
    by_cases hlt : k < l.length
    · have hne : l ≠ [] := fun e => by rw [e] at hlt; simp at hlt
      obtain ⟨b, o, rfl, hb, q⟩ := (unhide R).below hbw hne
      obtain ⟨x1, x2, x3⟩ := q k hlt
      obtain ⟨t1, t2, t3, t4, t5, t6⟩ := (unhide TT).here k hlt
      rw [t1] at x2 t2
      have T6 := hide t6
      have i1 : (k : Int) < (l.length : Int) := by omega
      have AP : Hid (∀ j, k = j + 1 → ∃ y : Nat, wr.cell? ⟨b, o + j * 3, none⟩ = some (.int .i64 (y : Int)) ∧ (l[k].kind = y → l[k].kind ≠ 1 ∧ l[k].kind ≠ 4)) := hide (fun j e => by
        subst e
        exact ⟨l[j].kind, (q j (by omega)).1, (unhide TT).apart j hlt⟩)
      clear t6 t1 q
      generalize l[k].kind = z1 at *
      generalize l[k].til = z3 at *
      generalize atT l k = z2 at *
      have hbw3 : ∀ o nq, Hid (Below w2.heap.size w2 ((wr.alloc o).drewN nq)) := fun o nq => hide (below_drewN (hbw.alloc hbw.size o) nq)
      clear hbw
      by_cases hk0 : k = 0
      · have i2 : ¬ (k : Int) > 0 := by omega
        have d2 : decide ((k : Int) > 0) = false := decide_eq_false i2
        have d3 : decide (0 < k) = false := decide_eq_false (by omega)
        clear hk0 AP
        go_wp2_with fail
        go_quiet (fail)
        generalize hw3 : (wr.alloc _).drewN nq = w3 at *
        have hb3 : Hid (Below w2.heap.size w2 w3) := by rw [← hw3]; exact hbw3 _ _
        have c3 : w3.cell? ⟨wr.heap.size, 2, none⟩ = some (.int .i64 (z3 : Int)) := by rw [← hw3]; exact new_drew wr _ _ _ _ nq
        clear hw3 hbw3 x1 x2 x3
        go_wp2
        go_roundw
        case rel => exact ⟨k + 1, hlt, by go_num, by rw [unhide T6], unhide hb3⟩
        case measure => simp only [intOf]; omega
      · obtain ⟨j, hj⟩ : ∃ j, k = j + 1 := ⟨k - 1, by omega⟩
        obtain ⟨y, hy, hap⟩ := unhide AP j hj
        have i2 : (k : Int) > 0 := by omega
        have d2 : decide ((k : Int) > 0) = true := decide_eq_true i2
        have d3 : decide (0 < k) = true := decide_eq_true (by omega)
        have i3 : (0 : Int) ≤ (k : Int) - 1 := by omega
        have i4 : (k : Int) - 1 < (l.length : Int) := by omega
        have hj1 : j = k - 1 := by omega
        rw [hj1] at hy
        clear hk0 AP hj hj1
        by_cases he : z1 = y
        · have H1 := hide (hap he)
          have j1 : ((z1 : Int) == (y : Int)) = true := by rw [he]; exact beq_self_eq_true _
          have j2 : ((z1 : Int) == 1) = false := beq_false_of_ne (by have := (unhide H1).1; omega)
          have j3 : ((z1 : Int) == 4) = false := beq_false_of_ne (by have := (unhide H1).2; omega)
          clear hap he H1
          go_wp2_with fail
          go_quiet (fail)
          generalize hw3 : (wr.alloc _).drewN nq = w3 at *
          have hb3 : Hid (Below w2.heap.size w2 w3) := by rw [← hw3]; exact hbw3 _ _
          have c3 : w3.cell? ⟨wr.heap.size, 2, none⟩ = some (.int .i64 (z3 : Int)) := by rw [← hw3]; exact new_drew wr _ _ _ _ nq
          clear hw3 hbw3 x1 x2 x3
          go_wp2
          go_roundw
          case rel => exact ⟨k + 1, hlt, by go_num, by rw [unhide T6], unhide hb3⟩
          case measure => simp only [intOf]; omega
        · have j1 : ((z1 : Int) == (y : Int)) = false := beq_false_of_ne (by omega)
          clear hap he
          go_wp2_with fail
          go_quiet (fail)
          generalize hw3 : (wr.alloc _).drewN nq = w3 at *
          have hb3 : Hid (Below w2.heap.size w2 w3) := by rw [← hw3]; exact hbw3 _ _
          have c3 : w3.cell? ⟨wr.heap.size, 2, none⟩ = some (.int .i64 (z3 : Int)) := by rw [← hw3]; exact new_drew wr _ _ _ _ nq
          clear hw3 hbw3 x1 x2 x3
          go_wp2
          go_roundw
          case rel => exact ⟨k + 1, hlt, by go_num, by rw [unhide T6], unhide hb3⟩
          case measure => simp only [intOf]; omega
    · have hkl : k = l.length := by omega
      rw [hkl, (unhide TT).fin]
      go_wp2
      go_ret
      exact ⟨rfl, (unhide B2).trans (hbw.mono (unhide B2).size)⟩
end Go.Proofs.Ytokcfmddgndadaa.toks
