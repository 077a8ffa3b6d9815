/- The walk of the law that what is ahead of a token is cut as it was, and so is what stands behind it. -/
import Derived.Test.YtokcfmddgndadaaTokAloneL
set_option linter.unusedVariables false
namespace Go.Proofs.Ytokcfmddgndadaa.toks
open Go.RowKit

/-- What stands ahead of the token of number k, and from it on. -/
structure Parts (s : ByteArray) (l : List Tk) (k f : Nat) (r : List Tk) : Prop where
  fro : f ≤ s.size
  ahead : toksL (s.extract 0 f).data.toList = l.take k
  rest : toksL (s.extract f s.size).data.toList = r
  len : r.length = l.length - k
  each : ∀ (j : Nat) (h : j < r.length), ∃ h' : k + j < l.length, l[k + j].kind = r[j].kind ∧ l[k + j].fro = r[j].fro + f ∧ l[k + j].til = r[j].til + f ∧ l[k + j].fro < l[k + j].til ∧ l[k + j].til ≤ s.size
theorem parts (s : ByteArray) (k : Nat) (h : k < (toksL s.data.toList).length) : ∃ r, Parts s (toksL s.data.toList) k (toksL s.data.toList)[k].fro r := by
  have hg : (cutP 0 s.data.toList)[k]? = some (toksL s.data.toList)[k] := List.getElem?_eq_getElem h
  obtain ⟨_, h2, h3, _, _, _, _, h6, h7⟩ := cut_at k 0 s.data.toList _ hg
  rw [len_list] at h3
  rw [Nat.sub_zero] at h6 h7
  generalize hf : (toksL s.data.toList)[k].fro = f at *
  have hm : (toksL (s.data.toList.drop f)).map (shiftT f) = (toksL s.data.toList).drop k := by
    have e := cutP_shift f 0 (s.data.toList.drop f)
    rw [Nat.zero_add, h7] at e
    exact e.symm
  refine ⟨toksL (s.data.toList.drop f), by omega, by rw [ext_take]; exact h6, by rw [ext_drop], ?_, fun j hj => ?_⟩
  · have := congrArg List.length hm
    rwa [List.length_map, List.length_drop] at this
  · have hl := congrArg List.length hm
    rw [List.length_map, List.length_drop] at hl
    have hj' : k + j < (toksL s.data.toList).length := by omega
    refine ⟨hj', ?_⟩
    have e : ((toksL (s.data.toList.drop f)).map (shiftT f))[j]? = ((toksL s.data.toList).drop k)[j]? := by rw [hm]
    rw [List.getElem?_map, List.getElem?_eq_getElem hj, List.getElem?_drop, List.getElem?_eq_getElem hj'] at e
    simp only [Option.map_some, Option.some.injEq] at e
    have hb := (tiled s).here (k + j) hj'
    refine ⟨?_, ?_, ?_, hb.2.1, hb.2.2.1⟩
    · rw [← e]; rfl
    · rw [← e]; rfl
    · rw [← e]; rfl
/-- One token of a list that lies in memory. -/
theorem RowT.one {w : World} {a : Option Addr} {l : List Tk} (r : RowT w a l) (k : Nat) (hk : k < l.length) : ∃ b o, a = some ⟨b, o, none⟩ ∧ b < w.heap.size ∧ w.cell? ⟨b, o + k * 3, none⟩ = some (.int .i64 (l[k].kind : Int)) ∧ w.cell? ⟨b, o + k * 3 + 1, none⟩ = some (.int .i64 (l[k].fro : Int)) ∧ w.cell? ⟨b, o + k * 3 + 2, none⟩ = some (.int .i64 (l[k].til : Int)) := by
  obtain ⟨b, o, e, hb, q⟩ := r (fun e => by rw [e] at hk; simp at hk)
  exact ⟨b, o, e, hb, q k hk⟩
theorem RowT.at {w : World} {b o : Nat} {l : List Tk} (r : RowT w (some ⟨b, o, none⟩) l) (k : Nat) (hk : k < l.length) : w.cell? ⟨b, o + k * 3, none⟩ = some (.int .i64 (l[k].kind : Int)) ∧ w.cell? ⟨b, o + k * 3 + 1, none⟩ = some (.int .i64 (l[k].fro : Int)) ∧ w.cell? ⟨b, o + k * 3 + 2, none⟩ = some (.int .i64 (l[k].til : Int)) := by
  obtain ⟨b', o', e, _, q⟩ := r.one k hk
  injection e with e
  injection e with e1 e2
  subst e1 e2
  exact q
theorem toks_take {w : World} {b o cap : Nat} {l : List Tk} (r : RowT w (some ⟨b, o, none⟩) l) (k : Nat) (hk : k ≤ l.length) (hc : l.length ≤ cap) : Toks w (.slice (some ⟨b, o, none⟩) k cap) (l.take k) := by
  have e : (l.take k).length = k := by rw [List.length_take]; omega
  exact ⟨_, cap, by rw [e], by rw [e]; omega, r.take k⟩
set_option maxHeartbeats 400000 in
set_option maxRecDepth 100000 in
theorem front_large (w : World) (s : ByteArray) (x : Int) (hs : 20000 < s.size) (hM : MaxOk w) :
    Calls Try.prog 6 #[.string s, .int .i64 x] w fun e w' => e = .returned (.bool true) ∧ Below w.heap.size w w' := by
  have K0 := hide (toks_any w hM)
  have K1 : ∀ u, Hid _ := fun u => hide (cut_large s u hs)
  clear hM hs
  go_enter Try.func6, Try.ntmps6
  go_wp2_with fail
  refine (unhide K0).mono ?_
  rintro e w1 ⟨rfl, b1⟩
  go_wp2_with fail
  refine (unhide (K1 w1)).mono ?_
  rintro e w2 ⟨rfl, hw⟩
  rw [hw]
  clear hw K0 K1
  go_wp2
  go_ret
  exact ⟨rfl, b1⟩
set_option maxHeartbeats 400000 in
set_option maxRecDepth 100000 in
theorem front_out (w : World) (s : ByteArray) (x : Int) (hs : s.size ≤ 20000) (hx : x < 0 ∨ ((toksL s.data.toList).length : Int) ≤ x) (hM : MaxOk w) :
    Calls Try.prog 6 #[.string s, .int .i64 x] w fun e w' => e = .returned (.bool true) ∧ Below w.heap.size w w' := by
  have K0 := hide (toks_any w hM)
  have K1 : ∀ u, Below w.heap.size w u → Hid _ := fun u hu => hide (cut_any s u hs (hM.below (Nat.le_refl _) hu))
  have hn := toks_len s
  generalize toksL s.data.toList = l at *
  clear hM
  by_cases hx0 : x < 0
  · have d1 : decide (x < 0) = true := decide_eq_true hx0
    clear hx
    go_enter Try.func6, Try.ntmps6
    go_wp2_with fail
    refine (unhide K0).mono ?_
    rintro e w1 ⟨rfl, b1⟩
    have K2 := K1 w1 b1
    clear K0 K1
    go_wp2_with fail
    refine (unhide K2).mono ?_
    rintro e w2 ⟨v, rfl, ⟨a, cap, rfl, hcap, r⟩, b2⟩
    clear r K2
    go_wp2
    go_ret
    exact ⟨rfl, b1.trans (b2.mono b1.size)⟩
  · have hx1 : (l.length : Int) ≤ x := by omega
    have d1 : decide (x < 0) = false := decide_eq_false hx0
    have d2 : decide (x ≥ (l.length : Int)) = true := decide_eq_true hx1
    clear hx
    go_enter Try.func6, Try.ntmps6
    go_wp2_with fail
    refine (unhide K0).mono ?_
    rintro e w1 ⟨rfl, b1⟩
    have K2 := K1 w1 b1
    clear K0 K1
    go_wp2_with fail
    refine (unhide K2).mono ?_
    rintro e w2 ⟨v, rfl, ⟨a, cap, rfl, hcap, r⟩, b2⟩
    clear r K2
    go_wp2
    go_ret
    exact ⟨rfl, b1.trans (b2.mono b1.size)⟩
set_option maxHeartbeats 400000 in
set_option maxRecDepth 100000 in
theorem front_bad (w : World) (s : ByteArray) (k : Nat) (hs : s.size ≤ 20000) (hk : k < (toksL s.data.toList).length) (h7 : (toksL s.data.toList)[k].kind = 7) (hM : MaxOk w) :
    Calls Try.prog 6 #[.string s, .int .i64 (k : Int)] w fun e w' => e = .returned (.bool true) ∧ Below w.heap.size w w' := by
  have K0 := hide (toks_any w hM)
  have K1 : ∀ u, Below w.heap.size w u → Hid _ := fun u hu => hide (cut_any s u hs (hM.below (Nat.le_refl _) hu))
  have hn := toks_len s
  have H7 := hide h7
  have CF : Hid (∀ u a, RowT u a (toksL s.data.toList) → ∃ b o, a = some ⟨b, o, none⟩ ∧ u.cell? ⟨b, o + k * 3, none⟩ = some (.int .i64 7)) := hide (fun u a r => by
    obtain ⟨b, o, e, hb, q, _⟩ := r.one k hk
    rw [h7] at q
    exact ⟨b, o, e, q⟩)
  clear hM h7 H7
  generalize toksL s.data.toList = l at *
  have i1 : (k : Int) < (l.length : Int) := by omega
  have d1 : decide ((k : Int) < 0) = false := decide_eq_false (by omega)
  have d2 : decide ((k : Int) ≥ (l.length : Int)) = false := decide_eq_false (by omega)
  have d3 : decide (l.length ≤ k) = false := decide_eq_false (by omega)
  go_enter Try.func6, Try.ntmps6
  go_wp2_with fail
  refine (unhide K0).mono ?_
  rintro e w1 ⟨rfl, b1⟩
  have K2 := K1 w1 b1
  clear K0 K1
  go_wp2_with fail
  refine (unhide K2).mono ?_
  rintro e w2 ⟨v, rfl, ⟨a, cap, rfl, hcap, r⟩, b2⟩
  obtain ⟨b, o, rfl, x1⟩ := unhide CF w2 a r
  clear r K2 CF
  go_wp2
  go_ret
  exact ⟨rfl, b1.trans (b2.mono b1.size)⟩
set_option maxHeartbeats 8000000 in
set_option maxRecDepth 100000 in
theorem front_in (w : World) (s : ByteArray) (k : Nat) (hs : s.size ≤ 20000) (hk : k < (toksL s.data.toList).length) (h7 : (toksL s.data.toList)[k].kind ≠ 7) (hM : MaxOk w) :
    Calls Try.prog 6 #[.string s, .int .i64 (k : Int)] w fun e w' => e = .returned (.bool true) ∧ Below w.heap.size w w' := by
  have K0 := hide (toks_any w hM)
  have K1 : ∀ u, Below w.heap.size w u → Hid _ := fun u hu => hide (cut_any s u hs (hM.below (Nat.le_refl _) hu))
  have hn := toks_len s
  obtain ⟨rr, hP⟩ := parts s k hk
  have K3 : ∀ u, Below w.heap.size w u → Hid _ := fun u hu => hide (cut_any (s.extract 0 (toksL s.data.toList)[k].fro) u (by rw [ByteArray.size_extract]; omega) (hM.below (Nat.le_refl _) hu))
  have K4 : ∀ u, Below w.heap.size w u → Hid _ := fun u hu => hide (cut_any (s.extract (toksL s.data.toList)[k].fro s.size) u (by rw [ByteArray.size_extract]; omega) (hM.below (Nat.le_refl _) hu))
  rw [hP.ahead] at K3
  rw [hP.rest] at K4
  have CF : Hid (∀ u b o, RowT u (some ⟨b, o, none⟩) (toksL s.data.toList) → u.cell? ⟨b, o + k * 3 + 1, none⟩ = some (.int .i64 ((toksL s.data.toList)[k].fro : Int))) := hide (fun u b o r => (r.at k hk).2.1)
  have CK : Hid (∀ u a, RowT u a (toksL s.data.toList) → ∃ b o, a = some ⟨b, o, none⟩ ∧ u.cell? ⟨b, o + k * 3, none⟩ = some (.int .i64 ((toksL s.data.toList)[k].kind : Int))) := hide (fun u a r => by
    obtain ⟨b, o, e, hb, q1, _⟩ := r.one k hk
    exact ⟨b, o, e, q1⟩)
  have PF := hP.fro
  have PL := hP.len
  have PE := hide hP.each
  clear hM hP
  generalize (toksL s.data.toList)[k].fro = f at *
  generalize (toksL s.data.toList)[k].kind = z1 at *
  generalize toksL s.data.toList = l at *
  have PL2 : rr.length ≤ 20000 := by omega
  have PLI : (rr.length : Int) = (l.length : Int) - (k : Int) := by omega
  have HPL := hide PLI
  clear PL PLI
  have j7 : ((z1 : Int) == 7) = false := beq_false_of_ne (by omega)
  have i1 : (k : Int) < (l.length : Int) := by omega
  have d1 : decide ((k : Int) < 0) = false := decide_eq_false (by omega)
  have d2 : decide ((k : Int) ≥ (l.length : Int)) = false := decide_eq_false (by omega)
  have d3 : decide (l.length ≤ k) = false := decide_eq_false (by omega)
  clear h7
  go_enter Try.func6, Try.ntmps6
  go_wp2_with fail
  refine (unhide K0).mono ?_
  rintro e w1 ⟨rfl, b1⟩
  have K2 := K1 w1 b1
  have B1 := hide b1
  clear K0 K1 b1
  go_wp2_with fail
  refine (unhide K2).mono ?_
  rintro e w2 ⟨v, rfl, ⟨a, cap, rfl, hcap, r⟩, b2⟩
  have R := hide r
  obtain ⟨b, o, rfl, x1⟩ := unhide CK w2 a r
  have B2 := hide ((unhide B1).trans (b2.mono (unhide B1).size))
  clear r K2 b2 B1 CK
  go_wp2_with fail
  clear x1
  go_loopw [45] (fun i wr => ∃ q : Nat, q ≤ l.length ∧ i = .int .i64 q ∧ Below w2.heap.size w2 wr) (fun i _ => l.length - (intOf i).toNat)
  case atStart => exact ⟨0, Nat.zero_le _, rfl, Below.refl _ _⟩
  case round =>
    obtain ⟨q, hq, rfl, hbw⟩ := hrel
    by_cases hlt : q < l.length
    · obtain ⟨y1, y2, y3⟩ := ((unhide R).below hbw).at q hlt
      generalize l[q].kind = q1 at *
      generalize l[q].fro = q2 at *
      generalize l[q].til = q3 at *
      have hb2 : ∀ o, Hid (Below w2.heap.size w2 (wr.alloc o)) := fun o => hide (hbw.alloc hbw.size o)
      by_cases h7 : q1 = 7
      · have j8 : ((q1 : Int) == 7) = true := by rw [h7]; rfl
        clear hbw h7
        go_wp2
        go_ret
        exact ⟨rfl, (unhide B2).trans ((unhide (hb2 _)).mono (unhide B2).size)⟩
      · have j8 : ((q1 : Int) == 7) = false := beq_false_of_ne (by omega)
        clear hbw h7
        go_wp2
        go_roundw
        case rel => exact ⟨q + 1, hlt, by go_num, unhide (hb2 _)⟩
        case measure => simp only [intOf]; omega
    · have R2 := hide ((unhide R).below hbw)
      have x2 := unhide CF wr _ _ (unhide R2)
      have B3 := hide ((unhide B2).trans (hbw.mono (unhide B2).size))
      have K5 := K3 wr (unhide B3)
      clear R B2 K3
      have i2 : (f : Int) ≤ (s.size : Int) := by omega
      have d4 : decide ((f : Int) < 0) = false := decide_eq_false (by omega)
      go_wp2_with fail
      refine (unhide K5).mono ?_
      rintro e w3 ⟨va, rfl, hva, b3⟩
      have B4 := hide ((unhide B3).trans (b3.mono (unhide B3).size))
      have R3 := hide ((unhide R2).below b3)
      have x3 := unhide CF w3 _ _ (unhide R3)
      have K6 := K4 w3 (unhide B4)
      have VA := hide hva
      clear K5 K4 hva b3 B3 R2 x2 hbw
      go_wp2_with fail
      refine (unhide K6).mono ?_
      rintro e w4 ⟨vb, rfl, ⟨a4, cap4, rfl, hcap4, r4⟩, b4⟩
      have B5 := hide ((unhide B4).trans (b4.mono (unhide B4).size))
      have R4 := hide ((unhide R3).below b4)
      have VB := hide r4
      have KE := hide (equal_same w4 va (.slice (some ⟨b, o, none⟩) k cap) (l.take k) (by rw [List.length_take]; omega) ((unhide VA).below b4) (toks_take (unhide R4) k (by omega) hcap))
      clear K6 r4 b4 B4 R3 VA x3
      have i3 : (k : Int) ≤ (cap : Int) := by omega
      go_wp2_with fail
      refine (unhide KE).mono ?_
      rintro e w5 ⟨rfl, b5⟩
      have B6 := hide ((unhide B5).trans (b5.mono (unhide B5).size))
      have R5 := hide ((unhide R4).below b5)
      have V5 := hide ((unhide VB).below b5)
      clear KE b5 B5 R4 VB
      have j8 : ((rr.length : Int) == (l.length : Int) - (k : Int)) = true := by rw [unhide HPL]; exact beq_self_eq_true _
      have j9 : ((rr.length : Int) != (l.length : Int) - (k : Int)) = false := by unfold bne; rw [j8]; rfl
      go_wp2_with fail
      go_loopw [116] (fun i wr => ∃ q : Nat, q ≤ rr.length ∧ i = .int .i64 q ∧ Below w5.heap.size w5 wr) (fun i _ => rr.length - (intOf i).toNat)
      case atStart => exact ⟨0, Nat.zero_le _, rfl, Below.refl _ _⟩
      case round =>
        obtain ⟨p, hp, rfl, hbx⟩ := hrel
        by_cases hlp : p < rr.length
        · obtain ⟨bb, ob, rfl, _, y1, y2, y3⟩ := ((unhide V5).below hbx).one p hlp
          obtain ⟨hkp, e1, e2, e3, e4, e5⟩ := unhide PE p hlp
          have hA := fun o => hbx.alloc hbx.size o
          have hAB := fun o o' => (hbx.alloc hbx.size o).alloc (by have := hbx.size; simp; omega) o'
          have V := fun o => ((unhide R5).below (hA o)).at (k + p) hkp
          have V0 := fun o o' => unhide CF _ _ _ ((unhide R5).below (hAB o o'))
          rw [e1] at V
          generalize rr[p].kind = q1 at *
          generalize rr[p].fro = q2 at *
          generalize rr[p].til = q3 at *
          generalize l[k + p].fro = q4 at *
          generalize l[k + p].til = q5 at *
          have g1 : ((q1 : Int) == (q1 : Int)) = true := beq_self_eq_true _
          have g2 : ((q2 : Int) == (q4 : Int) - (f : Int)) = true := beq_iff_eq.2 (by omega)
          have g3 : ((q3 : Int) == (q5 : Int) - (f : Int)) = true := beq_iff_eq.2 (by omega)
          have g4 : ((q1 : Int) != (q1 : Int)) = false := by unfold bne; rw [g1]; rfl
          have g5 : ((q2 : Int) != (q4 : Int) - (f : Int)) = false := by unfold bne; rw [g2]; rfl
          have g6 : ((q3 : Int) != (q5 : Int) - (f : Int)) = false := by unfold bne; rw [g3]; rfl
          have i4 : (k : Int) + (p : Int) < (l.length : Int) := by omega
          have i5 : (p : Int) < (rr.length : Int) := by omega
          have hb2 : ∀ o o' n, Hid (Below w5.heap.size w5 (((wr.alloc o).alloc o').drewN n)) := fun o o' n => hide (below_drewN ((hbx.alloc hbx.size o).alloc (by have := hbx.size; simp; omega) o') n)
          obtain ⟨v1, v2, v3⟩ := V (.cells #[.int .i64 (q1 : Int), .int .i64 (q2 : Int), .int .i64 (q3 : Int)] 28)
          have v0 := V0 (.cells #[.int .i64 (q1 : Int), .int .i64 (q2 : Int), .int .i64 (q3 : Int)] 28) (.cells #[.int .i64 (q1 : Int), .int .i64 (q4 : Int), .int .i64 (q5 : Int)] 28)
          clear e1 e2 e3 hbx j8 j9 V V0 hA hAB
          go_wp2_with fail
          go_quiet (fail)
          have hb3 := hb2 (.cells #[.int .i64 (q1 : Int), .int .i64 (q2 : Int), .int .i64 (q3 : Int)] 28) (.cells #[.int .i64 (q1 : Int), .int .i64 (q4 : Int), .int .i64 (q5 : Int)] 28) nq
          clear hb2 y1 y2 y3 v1 v2 v3 v0 g1 g2 g3 g4 g5 g6
          generalize ((wr.alloc _).alloc _).drewN nq = w6 at *
          go_wp2
          go_roundw
          case rel => exact ⟨p + 1, hlp, by go_num, unhide hb3⟩
          case measure => simp only [intOf]; omega
        · go_wp2
          go_ret
          exact ⟨rfl, (unhide B6).trans (hbx.mono (unhide B6).size)⟩
theorem lawFront (w : World) (s : ByteArray) (x : Int) (hM : MaxOk w) :
    Calls Try.prog 6 #[.string s, .int .i64 x] w fun e w' => e = .returned (.bool true) ∧ Below w.heap.size w w' := by
  by_cases hs : 20000 < s.size
  · exact front_large w s x hs hM
  · by_cases hx : x < 0 ∨ ((toksL s.data.toList).length : Int) ≤ x
    · exact front_out w s x (by omega) hx hM
    · obtain ⟨k, rfl⟩ : ∃ k : Nat, x = k := ⟨x.toNat, by omega⟩
      have hk : k < (toksL s.data.toList).length := by omega
      by_cases h7 : (toksL s.data.toList)[k].kind = 7
      · exact front_bad w s k (by omega) hk h7 hM
      · exact front_in w s k (by omega) hk h7 hM
end Go.Proofs.Ytokcfmddgndadaa.toks
