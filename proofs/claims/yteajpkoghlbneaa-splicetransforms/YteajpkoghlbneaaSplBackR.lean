/- The document's Backwards. -/
import Derived.Test.YteajpkoghlbneaaSplChangedR
import Derived.Test.YteajpkoghlbneaaSplBackP
set_option linter.unusedVariables false
namespace Go.Proofs.Yteajpkoghlbneaa.spls
open Go.RowKit

theorem back_step (s : List UInt8) (t n : Nat) (h : n < t) (hn : n < s.length) : (s.take t).drop n = s[n] :: (s.take t).drop (n + 1) := by
  rw [List.drop_eq_getElem_cons (show n < (s.take t).length by rw [List.length_take]; omega), List.getElem_take]
theorem push_away (w : World) (base : Nat) (hbs : base ≤ w.heap.size) (v : Value) (l : List At) (a : At) (h : OwnA w base v l) (hl : l.length + 1 ≤ 10000000) (ty : TypeId) (v' : Value) (W' : World)
    (hrun : (Builtin.append_ #[39, 39] ty #[v, .slice (some ⟨w.heap.size, 0, none⟩) 1 1]).run Try.prog (w.alloc (.cells #[.int .i64 a.1, .int .u8 (a.2.toNat : Int)] 41)) = .ok v' W') (b : Nat) (hb : b < w.heap.size) (hn : v.ownBlock ≠ some b) : v'.ownBlock ≠ some b := by
  obtain ⟨i0, hi, hz0, hz1, hz2⟩ := info_parts infoAtom
  have hbw : Below w.heap.size w (w.alloc (.cells #[.int .i64 a.1, .int .u8 (a.2.toNat : Int)] 41)) := (Below.refl _ w).alloc (Nat.le_refl _) _
  have h1 : OwnA (w.alloc (.cells #[.int .i64 a.1, .int .u8 (a.2.toNat : Int)] 41)) base v l := own_chg h (Chg.of_below hbw (fun _ => False)) (fun _ _ h => h)
  obtain ⟨v2, W2, hrun2, _, _, _, hat⟩ := run_append_own_at (P := Try.prog) _ base 39 ty 41 i0 _ 2 16 Try.underlying39 hi hz0 hz1 hz2 rfl (by decide) v _ _ h1 ⟨w.heap.size, 0, none⟩ 1 1 ([a].flatMap atC) (at_len [a]) (two_newA w _ _ _) (at_one [a]) (by unfold maxLen; omega) (by omega) (Nat.le_trans hbs hbw.size)
  rw [hrun] at hrun2
  injection hrun2 with e1 e2
  rw [e1]
  rcases hat with h | h
  · rw [h]; exact hn
  · rw [h]
    intro e
    injection e with e
    have := hbw.size
    omega
end Go.Proofs.Yteajpkoghlbneaa.spls
