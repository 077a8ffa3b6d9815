/- The walk of the law that a token's text alone is cut into that token. -/
import Derived.Test.YtokcfmddgndadaaTokTileL
set_option linter.unusedVariables false
namespace Go.Proofs.Ytokcfmddgndadaa.toks
open Go.RowKit

theorem alone_at (s : ByteArray) (k : Nat) (h : k < (toksL s.data.toList).length) :
    (toksL s.data.toList)[k].fro < (toksL s.data.toList)[k].til ∧ (toksL s.data.toList)[k].til ≤ s.size ∧
    toksL (s.extract (toksL s.data.toList)[k].fro (toksL s.data.toList)[k].til).data.toList = [⟨(toksL s.data.toList)[k].kind, 0, (toksL s.data.toList)[k].til - (toksL s.data.toList)[k].fro⟩] := by
  have hg : (cutP 0 s.data.toList)[k]? = some (toksL s.data.toList)[k] := List.getElem?_eq_getElem h
  obtain ⟨_, h2, h3, _⟩ := cut_at k 0 s.data.toList _ hg
  rw [len_list] at h3
  refine ⟨h2, by omega, ?_⟩
  rw [ext_list, List.drop_take]
  exact cut_alone hg
set_option maxHeartbeats 400000 in
set_option maxRecDepth 100000 in
theorem alone_large (w : World) (s : ByteArray) (x : Int) (hs : 20000 < s.size) (hM : MaxOk w) :
    Calls Try.prog 5 #[.string s, .int .i64 x] w fun e w' => e = .returned (.bool true) ∧ Below w.heap.size w w' := by
  have K0 := hide (toks_any w hM)
  have K1 : ∀ u, Hid _ := fun u => hide (cut_large s u hs)
  clear hM hs
  go_enter Try.func5, Try.ntmps5
  go_wp2_with fail
  refine (unhide K0).mono ?_
  rintro e w1 ⟨rfl, b1⟩
  go_wp2_with fail
  refine (unhide (K1 w1)).mono ?_
  rintro e w2 ⟨rfl, hw⟩
  rw [hw]
  clear hw K0 K1
  go_wp2
  go_ret
  exact ⟨rfl, b1⟩
set_option maxHeartbeats 400000 in
set_option maxRecDepth 100000 in
theorem alone_out (w : World) (s : ByteArray) (x : Int) (hs : s.size ≤ 20000) (hx : x < 0 ∨ ((toksL s.data.toList).length : Int) ≤ x) (hM : MaxOk w) :
    Calls Try.prog 5 #[.string s, .int .i64 x] w fun e w' => e = .returned (.bool true) ∧ Below w.heap.size w w' := by
  have K0 := hide (toks_any w hM)
  have K1 : ∀ u, Below w.heap.size w u → Hid _ := fun u hu => hide (cut_any s u hs (hM.below (Nat.le_refl _) hu))
  have hn := toks_len s
  generalize toksL s.data.toList = l at *
  clear hM
  by_cases hx0 : x < 0
  · have d1 : decide (x < 0) = true := decide_eq_true hx0
    clear hx
    go_enter Try.func5, Try.ntmps5
    go_wp2_with fail
    refine (unhide K0).mono ?_
    rintro e w1 ⟨rfl, b1⟩
    have K2 := K1 w1 b1
    clear K0 K1
    go_wp2_with fail
    refine (unhide K2).mono ?_
    rintro e w2 ⟨v, rfl, ⟨a, cap, rfl, hcap, r⟩, b2⟩
    clear r K2
    go_wp2
    go_ret
    exact ⟨rfl, b1.trans (b2.mono b1.size)⟩
  · have hx1 : (l.length : Int) ≤ x := by omega
    have d1 : decide (x < 0) = false := decide_eq_false hx0
    clear hx
    go_enter Try.func5, Try.ntmps5
    go_wp2_with fail
    refine (unhide K0).mono ?_
    rintro e w1 ⟨rfl, b1⟩
    have K2 := K1 w1 b1
    clear K0 K1
    go_wp2_with fail
    refine (unhide K2).mono ?_
    rintro e w2 ⟨v, rfl, ⟨a, cap, rfl, hcap, r⟩, b2⟩
    clear r K2
    go_wp2
    go_ret
    exact ⟨rfl, b1.trans (b2.mono b1.size)⟩
set_option maxHeartbeats 4000000 in
set_option maxRecDepth 100000 in
theorem alone_in (w : World) (s : ByteArray) (k : Nat) (hs : s.size ≤ 20000) (hk : k < (toksL s.data.toList).length) (hM : MaxOk w) :
    Calls Try.prog 5 #[.string s, .int .i64 (k : Int)] w fun e w' => e = .returned (.bool true) ∧ Below w.heap.size w w' := by
  have K0 := hide (toks_any w hM)
  have K1 : ∀ u, Below w.heap.size w u → Hid _ := fun u hu => hide (cut_any s u hs (hM.below (Nat.le_refl _) hu))
  obtain ⟨h1, h2, h3⟩ := alone_at s k hk
  have K3 : ∀ u, Below w.heap.size w u → Hid _ := fun u hu => hide (cut_any (s.extract (toksL s.data.toList)[k].fro (toksL s.data.toList)[k].til) u (by rw [ByteArray.size_extract]; omega) (hM.below (Nat.le_refl _) hu))
  rw [h3] at K3
  have CF : Hid (∀ u a, RowT u a (toksL s.data.toList) → ∃ b o, a = some ⟨b, o, none⟩ ∧ b < u.heap.size ∧ u.cell? ⟨b, o + k * 3, none⟩ = some (.int .i64 ((toksL s.data.toList)[k].kind : Int)) ∧ u.cell? ⟨b, o + k * 3 + 1, none⟩ = some (.int .i64 ((toksL s.data.toList)[k].fro : Int)) ∧ u.cell? ⟨b, o + k * 3 + 2, none⟩ = some (.int .i64 ((toksL s.data.toList)[k].til : Int))) := hide (fun u a r => by
    obtain ⟨b, o, e, hb, q⟩ := r (fun e => by rw [e] at hk; simp at hk)
    exact ⟨b, o, e, hb, q k hk⟩)
  have hn := toks_len s
  clear h3 hM
  generalize (toksL s.data.toList)[k].fro = z2 at *
  generalize (toksL s.data.toList)[k].til = z3 at *
  generalize (toksL s.data.toList)[k].kind = z1 at *
  generalize toksL s.data.toList = l at *
  have i1 : (k : Int) < (l.length : Int) := by omega
  have i2 : (z2 : Int) ≤ (z3 : Int) := by omega
  have i3 : (z3 : Int) ≤ (s.size : Int) := by omega
  have eq := eqTok (z1 : Int) 0 ((z3 : Int) - (z2 : Int))
  go_enter Try.func5, Try.ntmps5
  go_wp2_with fail
  refine (unhide K0).mono ?_
  rintro e w1 ⟨rfl, b1⟩
  have K2 := K1 w1 b1
  have B1 := hide b1
  clear K0 K1 b1
  go_wp2_with fail
  refine (unhide K2).mono ?_
  rintro e w2 ⟨v, rfl, ⟨a, cap, rfl, hcap, r⟩, b2⟩
  obtain ⟨b, o, rfl, hb, x1, x2, x3⟩ := unhide CF w2 a r
  have B2 := hide ((unhide B1).trans (b2.mono (unhide B1).size))
  clear K2 r b2 B1 CF
  go_wp2_with fail
  have bk := blk_alloc w2 #[.int .i64 (z1 : Int), .int .i64 (z2 : Int), .int .i64 (z3 : Int)] 28
  have B3 := hide ((unhide B2).alloc (unhide B2).size (.cells #[.int .i64 (z1 : Int), .int .i64 (z2 : Int), .int .i64 (z3 : Int)] 28))
  generalize w2.alloc (.cells #[.int .i64 (z1 : Int), .int .i64 (z2 : Int), .int .i64 (z3 : Int)] 28) = w3 at *
  have K4 := K3 w3 (unhide B3)
  clear K3 x1 x2 x3 B2
  refine (unhide K4).mono ?_
  rintro e w4 ⟨v, rfl, ⟨a, cap2, rfl, hcap2, r⟩, b4⟩
  obtain ⟨b', o', rfl, hb', q⟩ := r (by simp)
  obtain ⟨y1, y2, y3⟩ := q 0 (by simp)
  have e3 : ((z3 - z2 : Nat) : Int) = (z3 : Int) - (z2 : Int) := by omega
  simp only [List.getElem_cons_zero, Nat.zero_mul, Nat.add_zero, e3] at y1 y2 y3
  have bk4 := bk.below b4
  have g0 := bk4.cell 0 _ rfl
  have g1 := bk4.cell 1 _ rfl
  have g2 := bk4.cell 2 _ rfl
  have B4 := hide ((unhide B3).trans (b4.mono (unhide B3).size))
  have h01 : ((([⟨z1, 0, z3 - z2⟩] : List Tk).length : Int) == 1) = true := rfl
  clear K4 bk bk4 b4 B3 r q e3
  go_wp2_with fail
  go_quiet (fail)
  go_wp2
  go_ret
  exact ⟨rfl, below_drewN (unhide B4) nq⟩
theorem lawAlone (w : World) (s : ByteArray) (x : Int) (hM : MaxOk w) :
    Calls Try.prog 5 #[.string s, .int .i64 x] w fun e w' => e = .returned (.bool true) ∧ Below w.heap.size w w' := by
  by_cases hs : 20000 < s.size
  · exact alone_large w s x hs hM
  · by_cases hx : x < 0 ∨ ((toksL s.data.toList).length : Int) ≤ x
    · exact alone_out w s x (by omega) hx hM
    · obtain ⟨k, rfl⟩ : ∃ k : Nat, x = k := ⟨x.toNat, by omega⟩
      exact alone_in w s k (by omega) (by omega) hM
end Go.Proofs.Ytokcfmddgndadaa.toks
