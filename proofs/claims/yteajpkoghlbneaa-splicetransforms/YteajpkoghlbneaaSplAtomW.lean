/- The document's Whole and AtomsOf. -/
import Derived.Test.YteajpkoghlbneaaSplNormW
import Derived.Test.YteajpkoghlbneaaSplDocP
set_option linter.unusedVariables false
namespace Go.Proofs.Yteajpkoghlbneaa.spls
open Go.RowKit

def atC (a : At) : List Value := [.int .i64 a.1, .int .u8 (a.2.toNat : Int)]
abbrev OwnA (w : World) (base : Nat) (v : Value) (l : List At) : Prop := w.ownsRow base 41 2 v l.length (l.flatMap atC)
/-- A row of atoms. -/
def LiesA (w : World) (p : Option Addr) (l : List At) : Prop :=
  l.length ≠ 0 → ∃ B o, p = some ⟨B, o, none⟩ ∧ B < w.heap.size ∧ ∀ (j : Nat) (a : At), l[j]? = some a → w.cell? ⟨B, o + j * 2, none⟩ = some (.int .i64 a.1) ∧ w.cell? ⟨B, o + j * 2 + 1, none⟩ = some (.int .u8 (a.2.toNat : Int))
theorem LiesA.keep {w w' : World} {p : Option Addr} {l : List At} (h : LiesA w p l) (hb : Below w.heap.size w w') : LiesA w' p l := by
  intro hP
  obtain ⟨B, o, e, hB, hc⟩ := h hP
  exact ⟨B, o, e, Nat.lt_of_lt_of_le hB hb.size, fun j x hx => ⟨(hb.cell (p := ⟨B, o + j * 2, none⟩) hB).trans (hc j x hx).1, (hb.cell (p := ⟨B, o + j * 2 + 1, none⟩) hB).trans (hc j x hx).2⟩⟩
theorem at_get : ∀ (l : List At) (j : Nat) (h : j < l.length), (l.flatMap atC)[j * 2]? = some (.int .i64 l[j].1) ∧ (l.flatMap atC)[j * 2 + 1]? = some (.int .u8 (l[j].2.toNat : Int))
  | [], j, h => absurd h (Nat.not_lt_zero _)
  | t :: l, 0, h => by simp [atC]
  | t :: l, j + 1, h => by
    have ih := at_get l j (by simpa using h)
    have e : ∀ r, ((t :: l).flatMap atC)[(j + 1) * 2 + r]? = (l.flatMap atC)[j * 2 + r]? := fun r => by
      rw [List.flatMap_cons, List.getElem?_append_right (by simp [atC]; omega)]
      congr 1
      simp [atC]
      omega
    have e0 := e 0
    rw [Nat.add_zero, Nat.add_zero] at e0
    rw [e0, e 1]
    exact ih
theorem at_len : ∀ l : List At, (l.flatMap atC).length = l.length * 2
  | [] => rfl
  | x :: l => by
    rw [List.flatMap_cons, List.length_append, at_len l, List.length_cons]
    show 2 + _ = _
    omega
theorem at_one (L : List At) : ∀ u ∈ L.flatMap atC, u.oneCell' = true := fun u hu => by
  obtain ⟨x, _, hu⟩ := List.mem_flatMap.1 hu
  simp only [atC, List.mem_cons, List.not_mem_nil, or_false] at hu
  rcases hu with rfl | rfl <;> rfl
theorem OwnA.lies {w : World} {base : Nat} {v : Value} {l : List At} (h : OwnA w base v l) : ∃ p c, v = .slice p l.length c ∧ l.length ≤ c ∧ c ≤ maxLen ∧ LiesA w p l ∧ (p = none → c = 0) := by
  have h' := h
  rcases h.2 with ⟨rfl, h0⟩ | ⟨g, cap, cur, rfl, hb, hg, hcap, hm, _⟩
  · have : l = [] := List.eq_nil_of_length_eq_zero h0
    subst this
    exact ⟨none, 0, rfl, by simp, Nat.zero_le _, fun h => absurd rfl h, fun _ => rfl⟩
  · refine ⟨_, cap, rfl, hcap, hm, fun _ => ⟨g, 0, rfl, (Array.getElem?_eq_some_iff.1 hg).1, fun j x hx => ?_⟩, fun e => by cases e⟩
    obtain ⟨hj, hx⟩ := List.getElem?_eq_some_iff.1 hx
    subst hx
    obtain ⟨g0, g1⟩ := at_get l j hj
    refine ⟨?_, ?_⟩
    · rw [Nat.zero_add, h'.cellAt (j * 2) (by omega)]
      exact g0
    · rw [Nat.zero_add, h'.cellAt (j * 2 + 1) (by omega)]
      exact g1
theorem infoAtom : (Try.prog.info? 41).map (fun i => (i.zero, i.size, i.bytes)) = some (some (.agg #[.int .i64 0, .int .u8 0]), 2, 16) := by kernel_rfl
/-- Atoms appended, as a run. -/
theorem push_atoms (w : World) (base : Nat) (hbs : base ≤ w.heap.size) (v : Value) (l m : List At) (h : OwnA w base v l) (ad : Addr) (c : Nat) (hm : ∀ j u, (m.flatMap atC)[j]? = some u → w.cell? (ad.add j) = some u) (hl : l.length + m.length ≤ 10000000) (ty : TypeId) :
    ∃ v' W', (Builtin.append_ #[39, 39] ty #[v, .slice (some ad) m.length c]).run Try.prog w = .ok v' W' ∧ OwnA W' base v' (l ++ m) ∧ (∃ q n k, v' = .slice q n k) ∧ Below base w W' ∧ Chg (fun b => v.ownBlock = some b) w W' := by
  obtain ⟨i0, hi, hz0, hz1, hz2⟩ := info_parts infoAtom
  obtain ⟨v', W', hrun, hown', hgrow, _, hat⟩ := run_append_own_at (P := Try.prog) w base 39 ty 41 i0 _ 2 16 Try.underlying39 hi hz0 hz1 hz2 rfl (by decide) v _ _ h ad m.length c (m.flatMap atC) (at_len m) hm (at_one m) (by unfold maxLen; omega) (by omega) hbs
  have ho : OwnA W' base v' (l ++ m) := by
    show W'.ownsRow base _ 2 v' (l ++ m).length ((l ++ m).flatMap atC)
    rw [List.length_append, List.flatMap_append]
    exact hown'
  refine ⟨v', W', hrun, ho, by rcases ho.2 with ⟨e, _⟩ | ⟨g, cap, cur, e, _⟩ <;> exact ⟨_, _, _, e⟩, ⟨hgrow.os, hgrow.tape, hgrow.output, hgrow.size, fun b hb => hgrow.block b (by omega) (fun e => by have := (World.ownsRow.lt h b e.symm).1; omega)⟩, ⟨hgrow.os, hgrow.tape, hgrow.output, hgrow.size, fun b hb hn => hgrow.block b hb (fun e => hn e.symm)⟩⟩
theorem two_newA (w : World) (x y : Value) (t : TypeId) : ∀ j u, [x, y][j]? = some u → (w.alloc (.cells #[x, y] t)).cell? ((⟨w.heap.size, 0, none⟩ : Addr).add j) = some u :=
  fun j u hu => World.news_of_block (blk_alloc w #[x, y] t) j u hu
/-- One atom more, as a run. -/
theorem push_atom (w : World) (base : Nat) (hbs : base ≤ w.heap.size) (v : Value) (l : List At) (a : At) (h : OwnA w base v l) (hl : l.length + 1 ≤ 10000000) (ty : TypeId) :
    ∃ v' W', (Builtin.append_ #[39, 39] ty #[v, .slice (some ⟨w.heap.size, 0, none⟩) 1 1]).run Try.prog (w.alloc (.cells #[.int .i64 a.1, .int .u8 (a.2.toNat : Int)] 41)) = .ok v' W' ∧ OwnA W' base v' (l ++ [a]) ∧ (∃ q n k, v' = .slice q n k) ∧ Below base w W' ∧ Chg (fun b => v.ownBlock = some b) w W' := by
  have hb : Below w.heap.size w (w.alloc (.cells #[.int .i64 a.1, .int .u8 (a.2.toNat : Int)] 41)) := (Below.refl _ w).alloc (Nat.le_refl _) _
  have h1 : OwnA (w.alloc (.cells #[.int .i64 a.1, .int .u8 (a.2.toNat : Int)] 41)) base v l := own_chg h (Chg.of_below hb (fun _ => False)) (fun _ _ h => h)
  obtain ⟨v', W', hr, ho, hf, hbl, hch⟩ := push_atoms _ base (by simp; omega) v l [a] h1 ⟨w.heap.size, 0, none⟩ 1 (two_newA w _ _ _) hl ty
  exact ⟨v', W', hr, ho, hf, ⟨hbl.os.trans hb.os, hbl.tape.trans hb.tape, hbl.output.trans hb.output, Nat.le_trans hb.size hbl.size, fun b hb' => (hbl.block b hb').trans (hb.block b (by omega))⟩, ⟨hch.os.trans hb.os, hch.tape.trans hb.tape, hch.output.trans hb.output, Nat.le_trans hb.size hch.size, fun b hb' hn => (hch.block b (Nat.lt_of_lt_of_le hb' hb.size) hn).trans (hb.block b hb')⟩⟩
theorem whole_succ (i n : Nat) : whole i (n + 1) = whole i n ++ [(((i + n : Nat) : Int), 0)] := by
  rw [whole_add i n 1]
  rfl
set_option maxHeartbeats 4000000 in
set_option maxRecDepth 100000 in
theorem whole_any (w : World) (n : Nat) (hn : n ≤ 1000000) :
    Calls Try.prog 33 #[.int .i64 (n : Int)] w fun e w' => ∃ v, e = .returned v ∧ OwnA w' w.heap.size v (whole 0 n) ∧ Below w.heap.size w w' := by
  go_enter Try.func33, Try.ntmps33
  go_wp2_with fail
  go_loopw [3, 6] (fun v i wr => ∃ j : Nat, i = .int .i64 j ∧ j ≤ n ∧ (∃ q m k, v = .slice q m k) ∧ Hid (OwnA wr w.heap.size v (whole 0 j)) ∧ Below w.heap.size w wr) (fun _ i _ => n - (intOf i).toNat)
  case atStart => exact ⟨0, rfl, Nat.zero_le _, ⟨_, _, _, rfl⟩, hide (World.ownsRow_nil _ _ _ _), Below.refl _ _⟩
  case round =>
    obtain ⟨j, rfl, hj, ⟨q, m, k, rfl⟩, HO, hbw⟩ := hrel
    by_cases hlt : j < n
    · obtain ⟨v', W', hrun, ho, ⟨q', m', k', rfl⟩, hb', _⟩ := push_atom wr w.heap.size hbw.size _ _ (((j : Nat) : Int), 0) HO.out (by rw [whole_len]; omega) 39
      have hrun2 : (Builtin.append_ #[39, 39] 39 #[.slice q m k, .slice (some ⟨wr.heap.size, 0, none⟩) 1 1]).run Try.prog (wr.alloc (.cells #[.int .i64 (j : Int), .int .u8 0] 41)) = .ok (.slice q' m' k') W' := hrun
      have HO2 : Hid (OwnA W' w.heap.size (.slice q' m' k') (whole 0 (j + 1))) := hide (by rw [whole_succ, Nat.zero_add]; exact ho)
      have hb2 := hbw.trans hb'
      clear hrun ho hb' HO hbw
      go_wp2_with (at_builtin; refine Lib.wpList_append_run _ rfl _ _ _ _ rfl _ _ rfl rfl _ _ hrun2 ?_)
      go_roundw
      case rel => exact ⟨j + 1, by go_num, hlt, ⟨_, _, _, rfl⟩, HO2, hb2⟩
      case measure => simp only [intOf]; omega
    · have hjn : j = n := by omega
      have HF : Hid (OwnA wr w.heap.size (.slice q m k) (whole 0 n)) := hide (by rw [← hjn]; exact HO.out)
      have i1 : ¬ (j : Int) < (n : Int) := by omega
      clear HO hjn
      go_wp2
      go_ret
      exact ⟨_, rfl, HF.out, hbw⟩
end Go.Proofs.Yteajpkoghlbneaa.spls
