/- The walks of package utf: Runes. -/
import Derived.Test.YtealhdpieoiikaaDoorBad
import Derived.WalkSmall
import Derived.OwnWalk
set_option linter.unusedVariables false
namespace Go.Proofs.YtealhdpieoiikaaDoor.walks
open Go.RowKit
open plain

theorem info21 : (Tryd.prog.info? 21).map (fun i => (i.zero, i.size, i.bytes)) = some (some (.int .i32 0), 1, 4) := by kernel_rfl

/-- The elements of a slice lie in memory. -/
def Elems (w : World) (a : Option Addr) (l : List Int) : Prop :=
  0 < l.length → ∃ b o, a = some ⟨b, o, none⟩ ∧ b < w.heap.size ∧ ∀ j, j < l.length → w.cell? ⟨b, o + j, none⟩ = some (.int .i32 (l.getD j 0))
def Fit (l : List Int) : Prop := ∀ j, j < l.length → -2147483648 ≤ l.getD j 0 ∧ l.getD j 0 ≤ 2147483647

theorem Elems.below {w w' : World} {a : Option Addr} {l : List Int} (h : Elems w a l) (hb : Below w.heap.size w w') : Elems w' a l := by
  intro h0
  obtain ⟨b, o, e, hlt, hc⟩ := h h0
  refine ⟨b, o, e, Nat.lt_of_lt_of_le hlt hb.size, fun j hj => ?_⟩
  rw [hb.cell (p := ⟨b, o + j, none⟩) hlt]
  exact hc j hj
theorem fit_sc {l : List Int} (h : ∀ r ∈ l, sc r = true) : Fit l := by
  intro j hj
  have hm : l.getD j 0 ∈ l := by simp [List.getD, List.getElem?_eq_getElem hj]
  have := sc_true (h _ hm)
  omega
theorem elems_own {w : World} {base : Nat} {v : Value} {l : List Int} (h : w.ownsRow base 21 1 v l.length (l.map (Value.int .i32))) :
    ∃ a cap, v = .slice a l.length cap ∧ Elems w a l ∧ l.length ≤ cap := by
  have h' := h
  rcases h.2 with ⟨rfl, h0⟩ | ⟨g, cap, cur, rfl, _, hg, hcap, _⟩
  · have : l = [] := List.eq_nil_of_length_eq_zero h0
    subst this
    exact ⟨none, 0, rfl, fun h => absurd h (by simp), by simp⟩
  · refine ⟨_, cap, rfl, fun _ => ⟨g, 0, rfl, (Array.getElem?_eq_some_iff.1 hg).1, fun j hj => ?_⟩, hcap⟩
    rw [Nat.zero_add, h'.cellAt j (by omega)]
    simp [List.getD, List.getElem?_eq_getElem hj]

theorem own_ge {w : World} {base e n : Nat} {v : Value} {xs : List Value} (h : w.ownsRow base e 1 v n xs) : ∀ g, v.ownBlock = some g → base ≤ g := by
  intro g hg
  rcases h.2 with ⟨rfl, _⟩ | ⟨g', cap, cur, rfl, hb, _⟩
  · simp [Value.ownBlock] at hg
  · simp only [Value.ownBlock, Option.some.injEq] at hg
    omega

set_option maxHeartbeats 1000000 in
theorem runes_bad (s : ByteArray) (w : World) (hs : s.size ≤ 1073741824) (hT : Lib.Utf8Tabs 0 1 w) (hb : 0 ≤ bad s.data.toList) :
    Calls Tryd.prog 13 #[.string s] w fun e w' => e = .returned (.tuple #[.slice none 0 0, .int .i64 3]) ∧ Below w.heap.size w w' := by
  have hc := bad_any s w (by omega) hT
  have HC := hide hc
  clear hc hT
  generalize bad s.data.toList = b at *
  go_enter Tryd.func13, Tryd.ntmps13
  go_wp2_with (go_at_call 16; refine (unhide HC).mono ?_; rintro e w' ⟨rfl, hb⟩)
  go_ret2
  exact ⟨rfl, hb⟩

set_option maxHeartbeats 2000000 in
set_option maxRecDepth 100000 in
theorem runes_good_cap (s : ByteArray) (w : World) (hs : s.size ≤ 1073741824) (hT : Lib.Utf8Tabs 0 1 w) (hb : bad s.data.toList < 0) :
    Calls Tryd.prog 13 #[.string s] w fun e w' => ∃ a cap, e = .returned (.tuple #[.slice a (runes s.data.toList).length cap, .int .i64 0]) ∧ Elems w' a (runes s.data.toList) ∧ (runes s.data.toList).length ≤ cap ∧ Below w.heap.size w w' := by
  have hc := bad_any s w (by omega) hT
  have HC := hide hc
  clear hc hT
  generalize bad s.data.toList = b at *
  obtain ⟨i0, hi, hz0, hz1, hz2⟩ := info_parts info21
  go_enter Tryd.func13, Tryd.ntmps13
  go_wp2_with (go_at_call 16; refine (unhide HC).mono ?_; rintro e w1 ⟨rfl, hb1⟩)
  go_loopw [4] (fun v wr => ∃ (pos fuel : Nat) (acc : List Int), wr.heap[w1.heap.size]? = some (.stringIter s pos) ∧ Below w1.heap.size w1 wr ∧ wr.ownsRow (w1.heap.size + 1) 21 1 v acc.length (acc.map (Value.int .i32)) ∧ acc ++ decF fuel (s.data.toList.drop pos) = runes s.data.toList ∧ s.size ≤ pos + fuel ∧ acc.length ≤ pos) (fun _ wr => s.size - wr.iterPos w1.heap.size)
  case atStart =>
    refine ⟨0, s.size, [], ?_, (Below.refl _ w1).alloc (Nat.le_refl _) _, World.ownsRow_nil _ _ _ _, rfl, by omega, by simp⟩
    have := World.iter_heap w1 s 0
    simpa using this
  case round =>
    obtain ⟨pos, fuel, acc, hit, hbw, hown, hacc, hfu, hal⟩ := hrel
    have hsz : w1.heap.size < wr.heap.size := (Array.getElem?_eq_some_iff.1 hit).1
    by_cases hp : pos < s.size
    · have hnx : ∀ ty, (Instr.next (.pointer (some ⟨w1.heap.size, 0, none⟩)) true ty).run Tryd.prog wr = _ := fun ty => Lib.run_next_any_at wr w1.heap.size s pos ty hit hp
      have hl : s.data.toList.drop pos ≠ [] := by
        intro e
        have := congrArg List.length e
        rw [List.length_drop, len_list] at this
        simp only [List.length_nil] at this
        omega
      have hd := Lib.decodeL_drop s pos
      have hwd := width_ge (s.data.toList.drop pos)
      rw [hd] at hwd
      obtain ⟨f, rfl⟩ : ∃ f, fuel = f + 1 := ⟨fuel - 1, by omega⟩
      have hstep : decF (f + 1) (s.data.toList.drop pos) = ((Utf8.decode s pos).1 : Int) :: decF f (s.data.toList.drop (pos + (Utf8.decode s pos).2)) := by
        simp only [decF]
        rw [if_neg hl, hd, List.drop_drop]
      rw [hstep] at hacc
      have hit2 := Lib.iterAt_heap wr w1.heap.size s pos (pos + (Utf8.decode s pos).2) hit
      have hbw2 := Lib.below_iterAt hbw (k := w1.heap.size) (by omega) s (pos + (Utf8.decode s pos).2)
      have hown2 := ownsRow_iterAt hown (k := w1.heap.size) (by omega) s (pos + (Utf8.decode s pos).2)
      have HA := hide hacc
      clear hacc hstep
      go_wp2_with (at_builtin; refine wpList_append_own _ rfl _ _ 26 rfl (w1.heap.size + 1) 21 i0 (.int .i32 0) 1 4 Tryd.underlying26 hi hz0 hz1 hz2 rfl (by decide) _ _ _ rfl (hown2.alloc _) ⟨(wr.iterAt w1.heap.size s (pos + (Utf8.decode s pos).2)).heap.size, 0, none⟩ 1 1 [.int .i32 ((Utf8.decode s pos).1 : Int)] rfl rfl ?c1 ?c2 ?c3 ?c4 ?c5 ?_)
      case c1 =>
        intro j u hj
        match j, hj with
        | 0, hj => simp at hj; subst hj; simp [Addr.add]
      case c2 => intro u hu; simp at hu; subst hu; rfl
      case c3 => unfold maxLen; omega
      case c4 => omega
      case c5 => have := hbw2.size; simp; omega
      intro v' w2 hown' hgrow _
      have hge := own_ge hown
      have hit3 : w2.heap[w1.heap.size]? = some (.stringIter s (pos + (Utf8.decode s pos).2)) := by
        rw [hgrow.block _ (by simp [Lib.iterAt_size]; omega) (fun e => by have := hge _ e.symm; omega)]
        rw [Lib.alloc_old _ _ _ (by rw [Lib.iterAt_size]; omega)]
        exact hit2
      have hbw3 : Below w1.heap.size w1 w2 := (hbw2.alloc (by rw [Lib.iterAt_size]; omega) _).grown hgrow (by simp [Lib.iterAt_size]; omega) (fun k hk => by have := hge k hk; omega)
      clear hgrow hge hown hown2 hit2 hbw2
      go_wp2
      go_roundw
      case rel =>
        refine ⟨_, f, acc ++ [((Utf8.decode s pos).1 : Int)], hit3, hbw3, ?_, ?_, by omega, by simp; omega⟩
        · simpa using hown'
        · rw [← unhide HA]; simp
      case measure =>
        simp only [World.iterPos, hit3, hit]
        omega
    · have hnx : ∀ ty, (Instr.next (.pointer (some ⟨w1.heap.size, 0, none⟩)) true ty).run Tryd.prog wr = _ := fun ty => Lib.run_next_end_at wr w1.heap.size s pos ty hit hp
      have hl : s.data.toList.drop pos = [] := List.drop_of_length_le (by rw [len_list]; omega)
      rw [hl, decF_nil, List.append_nil] at hacc
      rw [hacc] at hown
      obtain ⟨a, cap, rfl, hE, hcap⟩ := elems_own hown
      clear hacc hl hown
      go_wp2
      go_ret2
      exact ⟨a, cap, rfl, hE, hcap, hb1.trans (hbw.mono hb1.size)⟩
theorem runes_good (s : ByteArray) (w : World) (hs : s.size ≤ 1073741824) (hT : Lib.Utf8Tabs 0 1 w) (hb : bad s.data.toList < 0) :
    Calls Tryd.prog 13 #[.string s] w fun e w' => ∃ a cap, e = .returned (.tuple #[.slice a (runes s.data.toList).length cap, .int .i64 0]) ∧ Elems w' a (runes s.data.toList) ∧ Below w.heap.size w w' :=
  (runes_good_cap s w hs hT hb).mono fun e w' ⟨a, cap, h1, h2, _, h3⟩ => ⟨a, cap, h1, h2, h3⟩
end Go.Proofs.YtealhdpieoiikaaDoor.walks
