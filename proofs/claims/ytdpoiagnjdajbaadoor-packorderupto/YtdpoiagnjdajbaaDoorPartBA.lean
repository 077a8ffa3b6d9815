/- Rows of bytes side by side. -/
import Derived.Test.YtdpoiagnjdajbaaDoorPartAY
import Derived.Test.YtdpoiagnjdajbaaDoorPartAZ
import Derived.Laws.Externs
import Derived.Lib.Bytealg
set_option linter.unusedVariables false
namespace Go.Proofs.YtdpoiagnjdajbaaDoor.valus
open Go.RowKit Go.Shelf

theorem run_loadBytes {P : Program} {w : World} {g : Nat} : ∀ (l : List UInt8) (o : Nat) (acc : ByteArray), (∀ j u, (l.map cellB)[j]? = some u → w.cell? ⟨g, o + j, none⟩ = some u) → (Extern.Bytes.loadBytes ⟨g, o, none⟩ l.length acc).run P w = .ok ⟨acc.data ++ l.toArray⟩ w
  | [], o, acc, _ => by
    show Result.ok acc w = _
    simp
  | c :: r, o, acc, h => by
    have h0 : w.cell? ⟨g, o, none⟩ = some (cellB c) := by have := h 0 (cellB c) rfl; rwa [Nat.add_zero] at this
    have ih := run_loadBytes (P := P) r (o + 1) (acc.push c) (fun j u hj => by
      have := h (j + 1) u (by simpa using hj)
      rwa [show o + 1 + j = o + (j + 1) by omega])
    have e : (acc.push c).data ++ r.toArray = acc.data ++ (c :: r).toArray := by
      show acc.data.push c ++ r.toArray = _
      simp
    rw [e] at ih
    have hu : ((c.toNat : Int).toNat).toUInt8 = c := by simp
    show (Extern.Bytes.loadBytes ⟨g, o, none⟩ (r.length + 1) acc).run P w = _
    have hL : (load ⟨g, o, none⟩).run P w = .ok (cellB c) w := by simp [go_sem, h0]
    rw [Extern.Bytes.loadBytes, Sem.run_bind, hL]
    simp only [Result.andThen, cellB, hu, Addr.add_lit]
    exact ih
theorem OwnB.cells {n0 : Nat} {W : World} {v : Value} {l : List UInt8} (h : OwnB n0 W v l) (hl : l ≠ []) : ∃ g cap, v = .slice (some ⟨g, 0, none⟩) l.length cap ∧ l.length ≤ cap ∧ ∀ j u, (l.map cellB)[j]? = some u → W.cell? ⟨g, 0 + j, none⟩ = some u := by
  rcases h.2 with ⟨_, h2⟩ | ⟨g, cap, cur, h1, h2, h3, h4, _⟩
  · exact absurd (List.eq_nil_of_length_eq_zero h2) hl
  · subst h1
    exact ⟨g, cap, rfl, h4, fun j u hj => by have := World.ownsRow.cells (g := g) h rfl j u hj; rwa [Addr.add_lit] at this⟩
theorem run_cmpB (w : World) (n0 n1 : Nat) (v v' : Value) (l l' : List UInt8) (h : OwnB n0 w v l) (h' : OwnB n1 w v' l') (hl : l ≠ []) (hl' : l' ≠ []) :
    (callFunc 30 #[v, v']).run Tryd.prog w = .ok (.value (.int .i64 (ordI (cmpB l l')))) w := by
  obtain ⟨g, cap, rfl, _, hc⟩ := h.cells hl
  obtain ⟨g', cap', rfl, _, hc'⟩ := h'.cells hl'
  rw [run_callFunc_extern Tryd.func30 (by kernel_rfl) (by kernel_rfl) (by kernel_rfl) (e := Extern.BytealgCompare.compare) (by kernel_rfl)]
  have e1 := run_loadBytes (P := Tryd.prog) (w := w) (g := g) l 0 .empty hc
  have e2 := run_loadBytes (P := Tryd.prog) (w := w) (g := g') l' 0 .empty hc'
  have ee : (Extern.BytealgCompare.compare #[.slice (some ⟨g, 0, none⟩) l.length cap, .slice (some ⟨g', 0, none⟩) l'.length cap']).run Tryd.prog w = .ok (.int .i64 (ordI (cmpB l l'))) w := by
    change Sem.run Tryd.prog (do pure (goInt (Extern.BytealgCompare.cmp (← Extern.Bytes.bytesOf (.slice (some ⟨g, 0, none⟩) l.length cap)) (← Extern.Bytes.bytesOf (.slice (some ⟨g', 0, none⟩) l'.length cap'))))) w = _
    simp only [Extern.Bytes.bytesOf, Sem.run_bind, e1, e2, Result.andThen, Sem.run_pure]
    rw [Lib.cmp_eq, strs_cmp]
    have z1 : (ByteArray.empty.data ++ l.toArray).toList = l := by rw [Array.toList_append]; rfl
    have z2 : (ByteArray.empty.data ++ l'.toArray).toList = l' := by rw [Array.toList_append]; rfl
    rw [z1, z2]
    rfl
  rw [ee]
  rfl
set_option maxHeartbeats 2000000 in
theorem bytesCmp_any (w : World) (n0 n1 : Nat) (v v' : Value) (l l' : List UInt8) (h : OwnB n0 w v l) (h' : OwnB n1 w v' l') (hl : l ≠ []) (hl' : l' ≠ []) :
    Calls Tryd.prog 16 #[v, v'] w fun e w' => e = .returned (.int .i64 (ordI (cmpB l l'))) ∧ w' = w := by
  have hX := run_cmpB w n0 n1 v v' l l' h h' hl hl'
  obtain ⟨g, cap, rfl, _, _⟩ := h.cells hl
  obtain ⟨g', cap', rfl, _, _⟩ := h'.cells hl'
  clear h h'
  generalize ordI (cmpB l l') = z at *
  go_enter Tryd.func16, Tryd.ntmps16
  go_wp2_with (simp only [hX])
  go_ret
  exact ⟨rfl, rfl⟩
theorem bytes_back (l : List UInt8) : Lib.bytesOf (l.map fun c => (c.toNat : Int)) = l := by
  unfold Lib.bytesOf
  rw [List.map_map]
  conv => rhs; rw [← List.map_id l]
  apply List.map_congr_left
  intro c _
  simp
theorem front_any (w : World) (n0 n1 : Nat) (v v' : Value) (l l' : List UInt8) (h : OwnB n0 w v l) (h' : OwnB n1 w v' l') (hl : l ≠ []) (hl' : l' ≠ []) :
    Calls Tryd.prog 19 #[v, v'] w fun e w' => e = .returned (.bool (Lib.hasPrefix l l')) ∧ w' = w := by
  obtain ⟨g, cap, rfl, hle, hc⟩ := h.cells hl
  obtain ⟨g', cap', rfl, _, hc'⟩ := h'.cells hl'
  have nat : ∀ (l : List UInt8) (i : Nat), i < l.length → (l.map cellB)[i]? = some (.int .u8 ((l.map fun c => (c.toNat : Int)).getD i 0)) := fun l i hi => by
    simp [hi, cellB]
  have := Tryd.bytes_HasPrefix g 0 l.length cap g' 0 l'.length cap' (l.map fun c => (c.toNat : Int)) (l'.map fun c => (c.toNat : Int)) w (by simp) (by simp) hle (fun i hi => hc i _ (nat l i hi)) (fun i hi => hc' i _ (nat l' i hi))
  rw [bytes_back, bytes_back] at this
  exact this
end Go.Proofs.YtdpoiagnjdajbaaDoor.valus
