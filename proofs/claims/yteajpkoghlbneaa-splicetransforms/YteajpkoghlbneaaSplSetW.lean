/- The walks of package splice: settle. -/
import Derived.Test.YteajpkoghlbneaaSplWrW
set_option linter.unusedVariables false
namespace Go.Proofs.Yteajpkoghlbneaa.spls
open Go.RowKit

theorem three_new (w : World) (x y z : Value) (t : TypeId) : ∀ j u, [x, y, z][j]? = some u → (w.alloc (.cells #[x, y, z] t)).cell? ((⟨w.heap.size, 0, none⟩ : Addr).add j) = some u :=
  fun j u hu => World.news_of_block (blk_alloc w #[x, y, z] t) j u hu
/-- One part more, as a run; where the row lies then. -/
theorem push_part (w : World) (v : Value) (L : List Pt) (h : OwnP w 0 v L) (x : Pt) (hl : L.length ≤ 1000000) (ty : TypeId) :
    ∃ v' W', (Builtin.append_ #[22, 22] ty #[v, .slice (some ⟨w.heap.size, 0, none⟩) 1 1]).run Try.prog (w.alloc (.cells #[.int .i64 x.1, .int .i64 x.2.1, .string ⟨x.2.2.toArray⟩] 46)) = .ok v' W' ∧ OwnP W' 0 v' (L ++ [x]) ∧ Chg (fun b => v.ownBlock = some b) w W' ∧ (v'.ownBlock = v.ownBlock ∨ ∃ g, v'.ownBlock = some g ∧ w.heap.size ≤ g) := by
  obtain ⟨i0, hi, hz0, hz1, hz2⟩ := info_parts infoPart
  have hb : Below w.heap.size w (w.alloc (.cells #[.int .i64 x.1, .int .i64 x.2.1, .string ⟨x.2.2.toArray⟩] 46)) := (Below.refl _ w).alloc (Nat.le_refl _) _
  have h1 : OwnP (w.alloc (.cells #[.int .i64 x.1, .int .i64 x.2.1, .string ⟨x.2.2.toArray⟩] 46)) 0 v L := own_chg h (Chg.of_below hb (fun _ => False)) (fun _ _ h => h)
  obtain ⟨v', W', hrun, hown', hgrow, _, hat⟩ := run_append_own_at (P := Try.prog) _ 0 22 ty 46 i0 _ 3 32 Try.underlying22 hi hz0 hz1 hz2 rfl (by decide) v _ _ h1 ⟨w.heap.size, 0, none⟩ 1 1 [.int .i64 x.1, .int .i64 x.2.1, .string ⟨x.2.2.toArray⟩] rfl (three_new w _ _ _ _) (fun u hu => by simp only [List.mem_cons, List.not_mem_nil, or_false] at hu; rcases hu with rfl | rfl | rfl <;> rfl) (by unfold maxLen; omega) (by omega) (Nat.zero_le _)
  refine ⟨v', W', hrun, ?_, ?_, ?_⟩
  · show W'.ownsRow 0 _ 3 v' (L ++ [x]).length ((L ++ [x]).flatMap ptC)
    rw [List.length_append, List.flatMap_append]
    exact hown'
  · refine ⟨hgrow.os.trans hb.os, hgrow.tape.trans hb.tape, hgrow.output.trans hb.output, Nat.le_trans hb.size hgrow.size, fun b hlt hn => (hgrow.block b (Nat.lt_of_lt_of_le hlt hb.size) (fun e => hn e.symm)).trans (hb.block b hlt)⟩
  · exact hat.imp id (fun e => ⟨_, e, by simp⟩)
theorem fold_bytes : ∀ (l : List UInt8) (r : ByteArray), (l.map (fun c : UInt8 => (c.toNat : Int))).foldl (fun r n => r.push (UInt8.ofNat n.toNat)) r = r ++ ⟨l.toArray⟩
  | [], r => by
    apply ByteArray.ext
    simp
  | c :: l, r => by
    rw [List.map_cons, List.foldl_cons, fold_bytes l]
    apply ByteArray.ext
    simp [ByteArray.push]
/-- The text of bytes of one's own. -/
theorem conv_own (w : World) (u : Value) (l : List UInt8) (h : OwnB w u l) : (convert 51 9 u).run Try.prog w = .ok (.string ⟨l.toArray⟩) w := by
  rcases h.2 with ⟨rfl, h0⟩ | ⟨g, cap, cur, rfl, _, _, _⟩
  · have : l = [] := List.eq_nil_of_length_eq_zero h0
    subst this
    rw [run_convert_bytes_string _ 51 9 5 _ _ _ Try.underlying51 Try.underlying5 Try.underlying9]
    rfl
  · rw [run_convert_bytes_string _ 51 9 5 _ _ _ Try.underlying51 Try.underlying5 Try.underlying9]
    have hc := run_loadCells_list (P := Try.prog) (w := w) ⟨g, 0, none⟩ (l.map cellB) (World.ownsRow.cells (g := g) h rfl)
    rw [List.length_map] at hc
    rw [run_bytesToString w _ l.length cap (l.map (fun c : UInt8 => (c.toNat : Int))) (by rw [List.map_map]; exact hc), fold_bytes]
    congr 2
/-- The row of parts of a writer is another one. -/
theorem Wr.parts {X : Nat → Prop} {R : Nat} {S : WS} {w : World} {v u v' : Value} {W' : World} {L : List Pt} (hR : X R) (hb : Blk w R #[v, u, .int .i64 (S.2.2 : Int)] 53) (hu : OwnB w u S.2.1) (hv : OwnP w 0 v S.1) (h1 : ∀ g, v.ownBlock = some g → X g ∧ g ≠ R) (h2 : ∀ g, u.ownBlock = some g → X g ∧ g ≠ R)
    (ho : OwnP W' 0 v' L) (hc : Chg (fun b => v.ownBlock = some b) w W') (hat : v'.ownBlock = v.ownBlock ∨ ∃ g, v'.ownBlock = some g ∧ w.heap.size ≤ g) :
    Blk W' R #[v, u, .int .i64 (S.2.2 : Int)] 53 ∧ WrTo X R (L, S.2) w (W'.setCell ⟨R, 0, none⟩ v') := by
  have hb2 : Blk W' R #[v, u, .int .i64 (S.2.2 : Int)] 53 := hb.chg hc (fun e => (h1 R e).2 rfl)
  have ap := own_apart hv hu (by decide)
  have hu2 : OwnB W' u S.2.1 := own_chg hu hc (fun g hg e => ap g e hg)
  have hne : ∀ g, v'.ownBlock = some g → wid X w W' g ∧ g ≠ R := fun g hg => by
    refine ⟨?_, own_type ho hb2 (by decide) g hg⟩
    rcases hat with e | ⟨g2, e, hge⟩
    · rw [e] at hg; exact .inl (h1 g hg).1
    · rw [e] at hg
      injection hg with hg
      subst hg
      exact .inr ⟨hge, own_lt ho _ e⟩
  have hcX : Chg X w W' := hc.mono (fun q _ e => (h1 q e).1)
  have hc' : Chg (fun b => b = R) W' (W'.setCell ⟨R, 0, none⟩ v') := (Chg.refl (fun b => b = R) W').set (B := R) (.inl rfl) 0 _
  have es : (W'.setCell ⟨R, 0, none⟩ v').heap.size = W'.heap.size := by simp [World.setCell]
  refine ⟨hb2, ⟨.inl hR, v', u, hb2.set 0 v', own_chg ho hc' (fun g hg => (hne g hg).2), own_chg hu2 hc' (fun g hg => (h2 g hg).2), fun g hg => ⟨?_, (hne g hg).2⟩, fun g hg => ⟨.inl (h2 g hg).1, (h2 g hg).2⟩⟩, hcX.set (.inl hR) 0 _⟩
  have := (hne g hg).1
  unfold wid at *
  rw [es]
  exact this
end Go.Proofs.Yteajpkoghlbneaa.spls
