/- The two closures of the document's Over. -/
import Derived.Test.YteajpkoghlbneaaSplBackR
import Derived.Test.YteajpkoghlbneaaSplOverP
set_option linter.unusedVariables false
namespace Go.Proofs.Yteajpkoghlbneaa.spls
open Go.RowKit

/-- A row of atoms that has grown: what else was there stands, and no other row is met. -/
structure GrA (base : Nat) (w w' : World) (v v' : Value) : Prop where
  bel : Below base w w'
  chg : Chg (fun b => v.ownBlock = some b) w w'
  away : ∀ b, b < w.heap.size → v.ownBlock ≠ some b → v'.ownBlock ≠ some b
theorem GrA.refl (base : Nat) (w : World) (v : Value) : GrA base w w v v := ⟨Below.refl _ _, Chg.refl _ _, fun _ _ h => h⟩
theorem GrA.trans {base : Nat} {a b c : World} {v v' v'' : Value} (h : GrA base a b v v') (k : GrA base b c v' v'') (hl : ∀ g, v'.ownBlock = some g → g < b.heap.size) : GrA base a c v v'' :=
  ⟨h.bel.trans k.bel, h.chg.trans (k.chg.mono fun q hq hv => by
    by_cases hx : v.ownBlock = some q
    · exact .inl hx
    · exact .inr ⟨Nat.le_of_not_lt fun hlt => h.away q hlt hx hv, hl q hv⟩), fun q hq hn => k.away q (Nat.lt_of_lt_of_le hq h.chg.size) (h.away q hq hn)⟩
theorem push_gr (w : World) (base : Nat) (hbs : base ≤ w.heap.size) (v : Value) (l : List At) (a : At) (h : OwnA w base v l) (hl : l.length + 1 ≤ 10000000) :
    ∃ q n k W', (Builtin.append_ #[39, 39] 39 #[v, .slice (some ⟨w.heap.size, 0, none⟩) 1 1]).run Try.prog (w.alloc (.cells #[.int .i64 a.1, .int .u8 (a.2.toNat : Int)] 41)) = .ok (.slice q n k) W' ∧ OwnA W' base (.slice q n k) (l ++ [a]) ∧ GrA base w W' v (.slice q n k) := by
  obtain ⟨v', W', hrun, ho, ⟨q, n, k, rfl⟩, hb, hch⟩ := push_atom w base hbs v l a h hl 39
  exact ⟨q, n, k, W', hrun, ho, hb, hch, fun b hb' hn => push_away w base hbs v l a h hl 39 _ _ hrun b hb' hn⟩
set_option maxHeartbeats 4000000 in
set_option maxRecDepth 100000 in
theorem text_r (w : World) (base : Nat) (hbs : base ≤ w.heap.size) (v0 : Value) (l : List At) (s : ByteArray) (h : OwnA w base v0 l) (hl : l.length + s.size ≤ 1000000) :
    Calls Try.prog 14 #[v0, .string s] w fun e w' => ∃ q n k, e = .returned (.slice q n k) ∧ OwnA w' base (.slice q n k) (l ++ s.data.toList.map ptA) ∧ GrA base w w' v0 (.slice q n k) := by
  have H0 := hide h
  have hf : ∃ q m k, v0 = .slice q m k := by obtain ⟨q, c, e, _⟩ := own_form h; exact ⟨_, _, _, e⟩
  have HSL := hide (len_list s)
  clear h
  go_enter Try.func14, Try.ntmps14
  go_wp2_with fail
  go_loopw [0, 5] (fun v c wr => ∃ j : Nat, c = .int .i64 j ∧ j ≤ s.size ∧ (∃ q m k, v = .slice q m k) ∧ Hid (OwnA wr base v (l ++ (s.data.toList.take j).map ptA)) ∧ Hid (GrA base w wr v0 v)) (fun _ c _ => s.size - (intOf c).toNat)
  case atStart => exact ⟨0, rfl, Nat.zero_le _, hf, hide (by have := H0.out; rw [List.take_zero, List.map_nil, List.append_nil]; exact this), hide (GrA.refl _ _ _)⟩
  case round =>
    obtain ⟨j, rfl, hj, ⟨q, m, k, rfl⟩, HO, HG⟩ := hrel
    by_cases hlt : j < s.size
    · have hit : j < s.data.toList.length := by rw [HSL.out]; exact hlt
      have hbyte : s[j] = s.data.toList[j] := rfl
      obtain ⟨q2, m2, k2, W', hrun, ho, hg⟩ := push_gr wr base (Nat.le_trans hbs HG.out.chg.size) _ _ ((-1 : Int), s.data.toList[j]) HO.out (by rw [List.length_append, List.length_map, List.length_take]; omega)
      rw [← hbyte] at hrun
      have hrun2 : (Builtin.append_ #[39, 39] 39 #[.slice q m k, .slice (some ⟨wr.heap.size, 0, none⟩) 1 1]).run Try.prog (wr.alloc (.cells #[.int .i64 (-1), .int .u8 (s[j].toNat : Int)] 41)) = .ok (.slice q2 m2 k2) W' := hrun
      have HO2 : Hid (OwnA W' base (.slice q2 m2 k2) (l ++ (s.data.toList.take (j + 1)).map ptA)) := hide (by rw [put_step s.data.toList j hit, ← List.append_assoc]; exact ho)
      have HG2 : Hid (GrA base w W' v0 (.slice q2 m2 k2)) := hide (HG.out.trans hg (fun g hg' => (World.ownsRow.lt HO.out g hg').2))
      have i1 : (j : Int) < (s.size : Int) := by omega
      have i2 : (0 : Int) ≤ (j : Int) := by omega
      clear hrun ho hg HO HG hbyte
      go_wp2_with (at_builtin; refine Lib.wpList_append_run _ rfl _ _ _ _ rfl _ _ rfl rfl _ _ hrun2 ?_)
      go_roundw
      case rel => exact ⟨j + 1, by go_num, hlt, ⟨_, _, _, rfl⟩, HO2, HG2⟩
      case measure => simp only [intOf]; omega
    · have hjs : j = s.size := by omega
      have HF : Hid (OwnA wr base (.slice q m k) (l ++ s.data.toList.map ptA)) := hide (by have := HO.out; rw [hjs, List.take_of_length_le (by rw [HSL.out]; omega)] at this; exact this)
      have i1 : ¬ (j : Int) < (s.size : Int) := by omega
      clear HO hjs
      go_wp2
      go_ret
      exact ⟨_, _, _, rfl, HF.out, HG.out⟩
set_option maxHeartbeats 4000000 in
set_option maxRecDepth 100000 in
theorem keep_r (w : World) (base : Nat) (hbs : base ≤ w.heap.size) (v0 : Value) (l : List At) (i n : Nat) (h : OwnA w base v0 l) (hl : l.length + n ≤ 1000000) (hi : i ≤ 1000000) :
    Calls Try.prog 15 #[v0, .int .i64 (i : Int), .int .i64 (n : Int)] w fun e w' => ∃ q m k, e = .returned (.slice q m k) ∧ OwnA w' base (.slice q m k) (l ++ whole i n) ∧ GrA base w w' v0 (.slice q m k) := by
  have H0 := hide h
  have hf : ∃ q m k, v0 = .slice q m k := by obtain ⟨q, c, e, _⟩ := own_form h; exact ⟨_, _, _, e⟩
  clear h
  go_enter Try.func15, Try.ntmps15
  go_wp2_with fail
  go_loopw [0, 9] (fun v c wr => ∃ j : Nat, c = .int .i64 j ∧ j ≤ n ∧ (∃ q m k, v = .slice q m k) ∧ Hid (OwnA wr base v (l ++ whole i j)) ∧ Hid (GrA base w wr v0 v)) (fun _ c _ => n - (intOf c).toNat)
  case atStart => exact ⟨0, rfl, Nat.zero_le _, hf, hide (by have := H0.out; rw [show whole i 0 = [] from rfl, List.append_nil]; exact this), hide (GrA.refl _ _ _)⟩
  case round =>
    obtain ⟨j, rfl, hj, ⟨q, m, k, rfl⟩, HO, HG⟩ := hrel
    by_cases hlt : j < n
    · obtain ⟨q2, m2, k2, W', hrun, ho, hg⟩ := push_gr wr base (Nat.le_trans hbs HG.out.chg.size) _ _ (((i + j : Nat) : Int), 0) HO.out (by rw [List.length_append, whole_len]; omega)
      have hrun2 : (Builtin.append_ #[39, 39] 39 #[.slice q m k, .slice (some ⟨wr.heap.size, 0, none⟩) 1 1]).run Try.prog (wr.alloc (.cells #[.int .i64 ((i : Int) + (j : Int)), .int .u8 0] 41)) = .ok (.slice q2 m2 k2) W' := hrun
      have HO2 : Hid (OwnA W' base (.slice q2 m2 k2) (l ++ whole i (j + 1))) := hide (by rw [whole_succ, ← List.append_assoc]; exact ho)
      have HG2 : Hid (GrA base w W' v0 (.slice q2 m2 k2)) := hide (HG.out.trans hg (fun g hg' => (World.ownsRow.lt HO.out g hg').2))
      have i1 : (j : Int) < (n : Int) := by omega
      clear hrun ho hg HO HG
      go_wp2_with (at_builtin; refine Lib.wpList_append_run _ rfl _ _ _ _ rfl _ _ rfl rfl _ _ hrun2 ?_)
      go_roundw
      case rel => exact ⟨j + 1, by go_num, hlt, ⟨_, _, _, rfl⟩, HO2, HG2⟩
      case measure => simp only [intOf]; omega
    · have hjs : j = n := by omega
      have HF : Hid (OwnA wr base (.slice q m k) (l ++ whole i n)) := hide (by have := HO.out; rw [hjs] at this; exact this)
      have i1 : ¬ (j : Int) < (n : Int) := by omega
      clear HO hjs
      go_wp2
      go_ret
      exact ⟨_, _, _, rfl, HF.out, HG.out⟩
end Go.Proofs.Yteajpkoghlbneaa.spls
