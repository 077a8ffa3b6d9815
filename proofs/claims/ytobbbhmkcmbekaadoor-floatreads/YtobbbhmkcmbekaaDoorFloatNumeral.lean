/- The walk of package float: numeralOf. -/
import Derived.Test.YtobbbhmkcmbekaaDoorFloatNumW
set_option linter.unusedVariables false
namespace Go.Proofs.YtobbbhmkcmbekaaDoor.bigs
open Go.RowKit

theorem Blk.set2 {w : World} {b : Nat} {x y : Value} {t : Nat} (h : Blk w b #[x, y] t) (u1 u2 : Value) : Blk ((w.setCell ⟨b, 0, none⟩ u1).setCell ⟨b, 1, none⟩ u2) b #[u1, u2] t := by
  have := (h.set 0 u1).set 1 u2
  simpa using this
theorem below_set2 {B : Nat} {a w : World} {b : Nat} (h : Below B a w) (hb : B ≤ b) (u1 u2 : Value) : Below B a ((w.setCell ⟨b, 0, none⟩ u1).setCell ⟨b, 1, none⟩ u2) :=
  (h.setCell (p := ⟨b, 0, none⟩) hb u1).setCell (p := ⟨b, 1, none⟩) hb u2
theorem app_list (a b : ByteArray) : (a ++ b).data.toList = a.data.toList ++ b.data.toList := by
  rw [ByteArray.data_append, Array.toList_append]
def NumRes (t : List UInt8) (D : List UInt8) (y : Int) (f : Bool) : Prop := (f = true ∧ ∃ W P x z, Num t W P x ∧ D = W ++ P ∧ Cap x z ∧ y = z - (P.length : Int)) ∨ (f = false ∧ ¬ ∃ W P x, Num t W P x)
set_option maxHeartbeats 8000000 in
set_option maxRecDepth 100000 in
theorem numeralW_any0 (w : World) (t : ByteArray) (ht : t.size ≤ 80)
    (K1 : Hid (∀ w, Calls Tryd.prog 65 #[.string t, .string ⟨#[101]⟩] w fun e w' => ∃ (A B : ByteArray) (f : Bool), e = .returned (.tuple #[.string A, .string B, .bool f]) ∧ CutOf t.data.toList 101 A.data.toList B.data.toList f ∧ A.size ≤ t.size ∧ B.size ≤ t.size ∧ Below w.heap.size w w')) :
    Calls Tryd.prog 35 #[.string t] w fun e w' => ∃ (D : ByteArray) (y : Int) (f : Bool), e = .returned (.tuple #[.agg #[.string D, .int .i64 y], .bool f]) ∧ NumRes t.data.toList D.data.toList y f ∧ Below w.heap.size w w' := by
  have b0 : Below w.heap.size w (w.alloc (.cells #[.string ⟨#[]⟩, .int .i64 0] 63)) := (Below.refl _ _).alloc (Nat.le_refl _) _
  have bk0 := blk_alloc w #[.string ⟨#[]⟩, .int .i64 0] 63
  go_enter Tryd.func35, Tryd.ntmps35
  go_wp2_with fail
  generalize w.alloc (.cells #[.string ⟨#[]⟩, .int .i64 0] 63) = w0 at *
  refine (unhide K1 w0).mono ?_
  rintro e w1 ⟨M, T, fe, rfl, c1, m1, m2, b1⟩
  have C1 := hide c1
  have bw1 := b0.trans (b1.mono b0.size)
  have bk1 := bk0.below b1
  have K2 := hide (cutS_any w1 M 46 (by omega))
  clear K1 b0 bk0 b1 c1
  go_wp2_with fail
  refine (unhide K2).mono ?_
  rintro e w2 ⟨W, P, fp, rfl, c2, m3, m4, b2⟩
  have bw2 := bw1.trans (b2.mono bw1.size)
  have bk2 := bk1.below b2
  have NC : ∀ W' P' x, Hid _ := fun W' P' x => hide (num_cut (W' := W') (P' := P') (x := x) (unhide C1) c2)
  have C2 := hide c2
  clear K2 bk1 b2 bw1 c2 C1
  classical
  have K3 := hide (isDigitsW_any w2 W (decide (AllD W.data.toList)) (by omega) (hide (by simp)))
  have q0 := bk2.cell 0 _ rfl
  have q1 := bk2.cell 1 _ rfl
  have z0 := bk2.froz 0
  have z1 := bk2.froz 1
  by_cases h1 : AllD W.data.toList
  · rw [decide_eq_true h1] at K3
    have lw : 0 < W.size := by
      rcases Nat.eq_zero_or_pos W.size with e | e
      · exact absurd (List.eq_nil_of_length_eq_zero (by rw [blen_list]; exact e)) h1.1
      · exact e
    have li : (0 : Int) < (W.size : Int) := by omega
    have g0 : W.data.toList.getD 0 0 = (W[0]'lw) := by
      have := byte_get W 0 lw
      rw [List.getD, this]
      rfl
    have gl : W.data.toList.length = W.size := blen_list W
    by_cases lead : (W[0]'lw).toNat = 48 ∧ 1 < W.size
    · have FR : Hid (NumRes t.data.toList (⟨#[]⟩ : ByteArray).data.toList 0 false) := hide (.inr ⟨rfl, fun ⟨W', P', x, h⟩ => by
        have k := ((unhide (NC W' P' x)).1 h).2.2.2.1
        rw [g0, gl] at k
        rcases k with k | k
        · omega
        · exact k (UInt8.toNat_inj.1 lead.1)⟩)
      have l1 : ((W[0]'lw).toNat : Int) = 48 := by omega
      have l2 : (1 : Int) < (W.size : Int) := by omega
      have F := bk2.set2 (.string ⟨#[]⟩) (.int .i64 0)
      have FC := hide (And.intro (F.cell 0 _ rfl) (F.cell 1 _ rfl))
      have BB := hide (below_set2 bw2 (Nat.le_refl _) (.string ⟨#[]⟩) (.int .i64 0))
      clear F
      clear NC bk2 h1 g0 gl lead
      go_wp2_with fail
      refine (unhide K3).mono ?_
      rintro e w3 ⟨rfl, rfl⟩
      go_wp2
      obtain ⟨f0, f1⟩ := unhide FC
      have BBu := unhide BB
      clear q0 q1 z0 z1 FC BB
      generalize ((w3.setCell ⟨w.heap.size, 0, none⟩ (.string ⟨#[]⟩)).setCell ⟨w.heap.size, 1, none⟩ (.int .i64 0)) = wF at *
      refine bodyPost_ret (v := .tuple #[.agg #[.string ⟨#[]⟩, .int .i64 0], .bool false]) (by simp [results, Tryd.results35, go_sem, f0, f1]) rfl ?_
      exact ⟨_, _, _, rfl, unhide FR, BBu⟩
    · have hlead : W.data.toList.length = 1 ∨ W.data.toList.getD 0 0 ≠ 48 := by
        rw [g0, gl]
        by_cases k : (W[0]'lw).toNat = 48
        · left; omega
        · right; intro e; exact k (by rw [e]; rfl)
      have HL := hide hlead
      have H1 := hide h1
      have ld : ((W[0]'lw).toNat : Int) ≠ 48 ∨ ¬ (1 : Int) < (W.size : Int) := by omega
      clear hlead h1 g0 gl lead
      go_wp2_with fail
      refine (unhide K3).mono ?_
      rintro e w3 ⟨rfl, rfl⟩
      clear K3
      go_upto_region 5 with fail
      all_goals
        cases hfp : fp with
        | false =>
          subst hfp
          cases hfe : fe with
          | false =>
            subst hfe
            have FR : Hid (NumRes t.data.toList (W ++ P).data.toList (-(P.size : Int)) false) := hide (.inr ⟨rfl, fun ⟨W', P', x, h⟩ => by
              rcases ((unhide (NC W' P' x)).1 h).2.2.2.2.2 with ⟨_, k, _⟩ | ⟨k, _⟩
              · cases k
              · cases k⟩)
            have F := bk2.set2 (.string (W ++ P)) (.int .i64 (-(P.size : Int)))
            have FC := hide (And.intro (F.cell 0 _ rfl) (F.cell 1 _ rfl))
            have BB := hide (below_set2 bw2 (Nat.le_refl _) (.string (W ++ P)) (.int .i64 (-(P.size : Int))))
            clear F
            clear NC bk2
            go_wp2
            obtain ⟨f0, f1⟩ := unhide FC
            have BBu := unhide BB
            clear q0 q1 z0 z1 FC BB
            generalize ((w3.setCell ⟨w.heap.size, 0, none⟩ (.string (W ++ P))).setCell ⟨w.heap.size, 1, none⟩ (.int .i64 (-(P.size : Int)))) = wF at *
            refine bodyPost_ret (v := .tuple #[.agg #[.string (W ++ P), .int .i64 (-(P.size : Int))], .bool false]) (by simp [results, Tryd.results35, go_sem, f0, f1]) rfl ?_
            exact ⟨_, _, _, rfl, unhide FR, BBu⟩
          | true =>
            subst hfe
            have K5 := hide (exponentW_any w3 T (by omega))
            go_wp2_with fail
            refine (unhide K5).mono ?_
            rintro e w4 ⟨rfl, hh⟩
            rcases hh with ⟨x, y, hx, hcap, y1, y2, rfl⟩ | ⟨hno, rfl⟩
            · have FR : Hid (NumRes t.data.toList (W ++ P).data.toList (y - (P.size : Int)) true) := hide (.inl ⟨rfl, W.data.toList, P.data.toList, x, y, (unhide (NC _ _ x)).2 ⟨rfl, rfl, unhide H1, unhide HL, (fun h => by cases h), .inr ⟨by first | rfl | trivial, hx⟩⟩, app_list W P, hcap, by rw [blen_list]⟩)
              have F := bk2.set2 (.string (W ++ P)) (.int .i64 (y - (P.size : Int)))
              have FC := hide (And.intro (F.cell 0 _ rfl) (F.cell 1 _ rfl))
              have BB := hide (below_set2 bw2 (Nat.le_refl _) (.string (W ++ P)) (.int .i64 (y - (P.size : Int))))
              clear F
              clear NC bk2 K5 hx hcap
              go_wp2
              obtain ⟨f0, f1⟩ := unhide FC
              have BBu := unhide BB
              clear q0 q1 z0 z1 FC BB
              generalize ((w4.setCell ⟨w.heap.size, 0, none⟩ (.string (W ++ P))).setCell ⟨w.heap.size, 1, none⟩ (.int .i64 (y - (P.size : Int)))) = wF at *
              refine bodyPost_ret (v := .tuple #[.agg #[.string (W ++ P), .int .i64 (y - (P.size : Int))], .bool true]) (by simp [results, Tryd.results35, go_sem, f0, f1]) rfl ?_
              exact ⟨_, _, _, rfl, unhide FR, BBu⟩
            · have FR : Hid (NumRes t.data.toList (W ++ P).data.toList (-(P.size : Int)) false) := hide (.inr ⟨rfl, fun ⟨W', P', x, h⟩ => by
                rcases ((unhide (NC W' P' x)).1 h).2.2.2.2.2 with ⟨k, _⟩ | ⟨_, k⟩
                · cases k
                · exact hno ⟨x, k⟩⟩)
              have F := bk2.set2 (.string (W ++ P)) (.int .i64 (-(P.size : Int)))
              have FC := hide (And.intro (F.cell 0 _ rfl) (F.cell 1 _ rfl))
              have BB := hide (below_set2 bw2 (Nat.le_refl _) (.string (W ++ P)) (.int .i64 (-(P.size : Int))))
              clear F
              clear NC bk2 K5 hno
              go_wp2
              obtain ⟨f0, f1⟩ := unhide FC
              have BBu := unhide BB
              clear q0 q1 z0 z1 FC BB
              generalize ((w4.setCell ⟨w.heap.size, 0, none⟩ (.string (W ++ P))).setCell ⟨w.heap.size, 1, none⟩ (.int .i64 (-(P.size : Int)))) = wF at *
              refine bodyPost_ret (v := .tuple #[.agg #[.string (W ++ P), .int .i64 (-(P.size : Int))], .bool false]) (by simp [results, Tryd.results35, go_sem, f0, f1]) rfl ?_
              exact ⟨_, _, _, rfl, unhide FR, BBu⟩
        | true =>
          subst hfp
          have K4 := hide (isDigitsW_any w3 P (decide (AllD P.data.toList)) (by omega) (hide (by simp)))
          by_cases h2 : AllD P.data.toList
          · rw [decide_eq_true h2] at K4
            have H2 := hide h2
            clear h2
            cases hfe : fe with
            | false =>
              subst hfe
              have FR : Hid (NumRes t.data.toList (W ++ P).data.toList (-(P.size : Int)) true) := hide (.inl ⟨rfl, W.data.toList, P.data.toList, 0, 0, (unhide (NC _ _ 0)).2 ⟨rfl, rfl, unhide H1, unhide HL, (fun _ => unhide H2), .inl ⟨rfl, rfl, rfl⟩⟩, app_list W P, .inl rfl, by rw [blen_list]; omega⟩)
              have F := bk2.set2 (.string (W ++ P)) (.int .i64 (-(P.size : Int)))
              have FC := hide (And.intro (F.cell 0 _ rfl) (F.cell 1 _ rfl))
              have BB := hide (below_set2 bw2 (Nat.le_refl _) (.string (W ++ P)) (.int .i64 (-(P.size : Int))))
              clear F
              clear NC bk2
              go_wp2_with fail
              refine (unhide K4).mono ?_
              rintro e w5 ⟨rfl, rfl⟩
              go_wp2
              obtain ⟨f0, f1⟩ := unhide FC
              have BBu := unhide BB
              clear q0 q1 z0 z1 FC BB
              generalize ((w5.setCell ⟨w.heap.size, 0, none⟩ (.string (W ++ P))).setCell ⟨w.heap.size, 1, none⟩ (.int .i64 (-(P.size : Int)))) = wF at *
              refine bodyPost_ret (v := .tuple #[.agg #[.string (W ++ P), .int .i64 (-(P.size : Int))], .bool true]) (by simp [results, Tryd.results35, go_sem, f0, f1]) rfl ?_
              exact ⟨_, _, _, rfl, unhide FR, BBu⟩
            | true =>
              subst hfe
              go_wp2_with fail
              refine (unhide K4).mono ?_
              rintro e w5 ⟨rfl, rfl⟩
              clear K4
              have K5 := hide (exponentW_any w5 T (by omega))
              go_wp2_with fail
              refine (unhide K5).mono ?_
              rintro e w4 ⟨rfl, hh⟩
              rcases hh with ⟨x, y, hx, hcap, y1, y2, rfl⟩ | ⟨hno, rfl⟩
              · have FR : Hid (NumRes t.data.toList (W ++ P).data.toList (y - (P.size : Int)) true) := hide (.inl ⟨rfl, W.data.toList, P.data.toList, x, y, (unhide (NC _ _ x)).2 ⟨rfl, rfl, unhide H1, unhide HL, (fun _ => unhide H2), .inr ⟨by first | rfl | trivial, hx⟩⟩, app_list W P, hcap, by rw [blen_list]⟩)
                have F := bk2.set2 (.string (W ++ P)) (.int .i64 (y - (P.size : Int)))
                have FC := hide (And.intro (F.cell 0 _ rfl) (F.cell 1 _ rfl))
                have BB := hide (below_set2 bw2 (Nat.le_refl _) (.string (W ++ P)) (.int .i64 (y - (P.size : Int))))
                clear F
                clear NC bk2 K5 hx hcap
                go_wp2
                obtain ⟨f0, f1⟩ := unhide FC
                have BBu := unhide BB
                clear q0 q1 z0 z1 FC BB
                generalize ((w4.setCell ⟨w.heap.size, 0, none⟩ (.string (W ++ P))).setCell ⟨w.heap.size, 1, none⟩ (.int .i64 (y - (P.size : Int)))) = wF at *
                refine bodyPost_ret (v := .tuple #[.agg #[.string (W ++ P), .int .i64 (y - (P.size : Int))], .bool true]) (by simp [results, Tryd.results35, go_sem, f0, f1]) rfl ?_
                exact ⟨_, _, _, rfl, unhide FR, BBu⟩
              · have FR : Hid (NumRes t.data.toList (W ++ P).data.toList (-(P.size : Int)) false) := hide (.inr ⟨rfl, fun ⟨W', P', x, h⟩ => by
                  rcases ((unhide (NC W' P' x)).1 h).2.2.2.2.2 with ⟨k, _⟩ | ⟨_, k⟩
                  · cases k
                  · exact hno ⟨x, k⟩⟩)
                have F := bk2.set2 (.string (W ++ P)) (.int .i64 (-(P.size : Int)))
                have FC := hide (And.intro (F.cell 0 _ rfl) (F.cell 1 _ rfl))
                have BB := hide (below_set2 bw2 (Nat.le_refl _) (.string (W ++ P)) (.int .i64 (-(P.size : Int))))
                clear F
                clear NC bk2 K5 hno
                go_wp2
                obtain ⟨f0, f1⟩ := unhide FC
                have BBu := unhide BB
                clear q0 q1 z0 z1 FC BB
                generalize ((w4.setCell ⟨w.heap.size, 0, none⟩ (.string (W ++ P))).setCell ⟨w.heap.size, 1, none⟩ (.int .i64 (-(P.size : Int)))) = wF at *
                refine bodyPost_ret (v := .tuple #[.agg #[.string (W ++ P), .int .i64 (-(P.size : Int))], .bool false]) (by simp [results, Tryd.results35, go_sem, f0, f1]) rfl ?_
                exact ⟨_, _, _, rfl, unhide FR, BBu⟩
          · rw [decide_eq_false h2] at K4
            have FR : Hid (NumRes t.data.toList (⟨#[]⟩ : ByteArray).data.toList 0 false) := hide (.inr ⟨rfl, fun ⟨W', P', x, h⟩ => h2 (((unhide (NC W' P' x)).1 h).2.2.2.2.1 rfl)⟩)
            have F := bk2.set2 (.string ⟨#[]⟩) (.int .i64 0)
            have FC := hide (And.intro (F.cell 0 _ rfl) (F.cell 1 _ rfl))
            have BB := hide (below_set2 bw2 (Nat.le_refl _) (.string ⟨#[]⟩) (.int .i64 0))
            clear F
            clear NC bk2 h2
            go_wp2_with fail
            refine (unhide K4).mono ?_
            rintro e w5 ⟨rfl, rfl⟩
            go_wp2
            obtain ⟨f0, f1⟩ := unhide FC
            have BBu := unhide BB
            clear q0 q1 z0 z1 FC BB
            generalize ((w5.setCell ⟨w.heap.size, 0, none⟩ (.string ⟨#[]⟩)).setCell ⟨w.heap.size, 1, none⟩ (.int .i64 0)) = wF at *
            refine bodyPost_ret (v := .tuple #[.agg #[.string ⟨#[]⟩, .int .i64 0], .bool false]) (by simp [results, Tryd.results35, go_sem, f0, f1]) rfl ?_
            exact ⟨_, _, _, rfl, unhide FR, BBu⟩
  · rw [decide_eq_false h1] at K3
    have FR : Hid (NumRes t.data.toList (⟨#[]⟩ : ByteArray).data.toList 0 false) := hide (.inr ⟨rfl, fun ⟨W', P', x, h⟩ => h1 ((unhide (NC W' P' x)).1 h).2.2.1⟩)
    have F := bk2.set2 (.string ⟨#[]⟩) (.int .i64 0)
    have FC := hide (And.intro (F.cell 0 _ rfl) (F.cell 1 _ rfl))
    have BB := hide (below_set2 bw2 (Nat.le_refl _) (.string ⟨#[]⟩) (.int .i64 0))
    clear F
    clear NC bk2 h1
    go_wp2_with fail
    refine (unhide K3).mono ?_
    rintro e w3 ⟨rfl, rfl⟩
    go_wp2
    obtain ⟨f0, f1⟩ := unhide FC
    have BBu := unhide BB
    clear q0 q1 z0 z1 FC BB
    generalize ((w3.setCell ⟨w.heap.size, 0, none⟩ (.string ⟨#[]⟩)).setCell ⟨w.heap.size, 1, none⟩ (.int .i64 0)) = wF at *
    refine bodyPost_ret (v := .tuple #[.agg #[.string ⟨#[]⟩, .int .i64 0], .bool false]) (by simp [results, Tryd.results35, go_sem, f0, f1]) rfl ?_
    exact ⟨_, _, _, rfl, unhide FR, BBu⟩
end Go.Proofs.YtobbbhmkcmbekaaDoor.bigs
