/- The document's puts: what is put ahead of each byte, and which bytes stay. -/
import Derived.Test.YteajpkoghlbneaaSplOverC
set_option linter.unusedVariables false
namespace Go.Proofs.Yteajpkoghlbneaa.spls
open Go.RowKit

def strV (s : List UInt8) : Value := .string ⟨s.toArray⟩
def PB (w : World) (g : Nat) (l : List (List UInt8)) : Prop := Blk w g (l.map strV).toArray 9
def SB (w : World) (g : Nat) (l : List Bool) : Prop := Blk w g (l.map Value.bool).toArray 4
theorem PB.at {w : World} {g : Nat} {l : List (List UInt8)} (h : PB w g l) {j : Nat} {s : List UInt8} (hj : l[j]? = some s) : w.cell? ⟨g, j, none⟩ = some (.string ⟨s.toArray⟩) :=
  h.cell j _ (by rw [List.getElem?_toArray, List.getElem?_map, hj]; rfl)
theorem SB.at {w : World} {g : Nat} {l : List Bool} (h : SB w g l) {j : Nat} {b : Bool} (hj : l[j]? = some b) : w.cell? ⟨g, j, none⟩ = some (.bool b) :=
  h.cell j _ (by rw [List.getElem?_toArray, List.getElem?_map, hj]; rfl)
theorem PB.put {w : World} {g : Nat} {l : List (List UInt8)} (h : PB w g l) (j : Nat) (s : List UInt8) : PB (w.setCell ⟨g, j, none⟩ (.string ⟨s.toArray⟩)) g (l.set j s) := by
  have := Blk.set h j (.string ⟨s.toArray⟩)
  unfold PB
  rw [List.map_set]
  rwa [List.setIfInBounds_toArray] at this
theorem SB.put {w : World} {g : Nat} {l : List Bool} (h : SB w g l) (j : Nat) (b : Bool) : SB (w.setCell ⟨g, j, none⟩ (.bool b)) g (l.set j b) := by
  have := Blk.set h j (.bool b)
  unfold SB
  rw [List.map_set]
  rwa [List.setIfInBounds_toArray] at this
theorem made_one (z : Value) (n : Nat) : madeCells #[z] n = (List.replicate n z).toArray := by
  rw [← toList_madeCells_one z n]
theorem infoS : (Try.prog.info? 9).map (fun i => (i.zero, i.size, i.bytes)) = some (some (.string ⟨#[]⟩), 1, 16) := by kernel_rfl
theorem infoO : (Try.prog.info? 4).map (fun i => (i.zero, i.size, i.bytes)) = some (some (.bool false), 1, 1) := by kernel_rfl
theorem make_strs (w : World) (n : Nat) (hn : n ≤ 1000000) : (Instr.makeSlice 35 (.int .i64 (n : Int)) (.int .i64 (n : Int))).run Try.prog w = .ok (.slice (some ⟨w.heap.size, 0, none⟩) n n) (w.alloc (.cells ((List.replicate n ([] : List UInt8)).map strV).toArray 9)) := by
  obtain ⟨i, hi, hz, h1, h2⟩ := info_parts infoS
  have := run_make (P := Try.prog) w 35 9 i _ Try.underlying35 hi hz .i64 .i64 n n (by omega) (by omega) (by rw [h2]; omega) (by omega)
  rw [Int.toNat_natCast, h1, Nat.mul_one] at this
  rw [this]
  show Result.ok _ (w.alloc (.cells (madeCells #[.string ⟨#[]⟩] n) 9)) = _
  rw [made_one, List.map_replicate]
  rfl
theorem make_bools (w : World) (n : Nat) (hn : n ≤ 1000000) : (Instr.makeSlice 36 (.int .i64 (n : Int)) (.int .i64 (n : Int))).run Try.prog w = .ok (.slice (some ⟨w.heap.size, 0, none⟩) n n) (w.alloc (.cells ((List.replicate n false).map Value.bool).toArray 4)) := by
  obtain ⟨i, hi, hz, h1, h2⟩ := info_parts infoO
  have := run_make (P := Try.prog) w 36 4 i _ Try.underlying36 hi hz .i64 .i64 n n (by omega) (by omega) (by rw [h2]; omega) (by omega)
  rw [Int.toNat_natCast, h1, Nat.mul_one] at this
  rw [this]
  show Result.ok _ (w.alloc (.cells (madeCells #[.bool false] n) 4)) = _
  rw [made_one, List.map_replicate]
theorem ov_take_le (L : List Pt) (j : Nat) : ov (exL (L.take j)) ≤ ov (exL L) ∧ mk (exL (L.take j)) ≤ mk (exL L) := by
  have e : exL L = exL (L.take j) ++ exL (L.drop j) := by rw [← exL_app, List.take_append_drop]
  rw [e, ov_app, mk_app]
  exact ⟨Nat.le_add_right _ _, Nat.le_add_right _ _⟩
theorem add_run (a b : List UInt8) (h : a.length + b.length ≤ 1000000) (u : World) : (Op.stringOp .add ⟨a.toArray⟩ ⟨b.toArray⟩).run Try.prog u = .ok (.string ⟨(a ++ b).toArray⟩) u := by
  have e : (⟨a.toArray⟩ : ByteArray) ++ ⟨b.toArray⟩ = ⟨(a ++ b).toArray⟩ := by
    apply ByteArray.ext
    simp [ByteArray.data_append]
  rw [← e]
  exact run_string_add_sum _ _ _ (by rw [size_mk, size_mk]; omega)
theorem chg_drew {X : Nat → Prop} {a b : World} (h : Chg X a b) : Chg X a b.drew := ⟨h.os, h.tape, h.output, h.size, h.block⟩
/-- What is put at a place is no longer than all that is put. -/
theorem dec_mk : ∀ (x : List M) (S : DC), (x.foldl dcs S).2.length ≤ S.2.length + mk x
  | [], S => Nat.le_refl _
  | none :: x, S => by have := dec_mk x (S.1 ++ [(S.2, true)], []); show (x.foldl dcs _).2.length ≤ _ + (mk x + 1); rw [List.length_nil] at this; exact Nat.le_trans this (by omega)
  | some none :: x, S => by have := dec_mk x (S.1 ++ [(S.2, false)], []); show (x.foldl dcs _).2.length ≤ _ + mk x; rw [List.length_nil] at this; exact Nat.le_trans this (by omega)
  | some (some b) :: x, S => by have := dec_mk x (S.1, S.2 ++ [b]); show (x.foldl dcs _).2.length ≤ _ + (mk x + 1); rw [List.length_append] at this; exact Nat.le_trans this (by simp only [List.length_cons, List.length_nil]; omega)
set_option maxHeartbeats 8000000 in
set_option maxRecDepth 100000 in
theorem puts_any (w : World) (p : Option Addr) (c : Nat) (A : List Pt) (hA : LiesQ w p A) (za : chk A = 0) (n : Nat) (hn : ov (exL A) = n) :
    Calls Try.prog 13 #[.slice p A.length c, .int .i64 (n : Int)] w fun e w' => ∃ g h, e = .returned (.tuple #[.slice (some ⟨g, 0, none⟩) (n + 1) (n + 1), .slice (some ⟨h, 0, none⟩) n n]) ∧ PB w' g (pRow n (nrm (exL A))) ∧ SB w' h (sRow n (nrm (exL A))) ∧ w.heap.size ≤ g ∧ w.heap.size ≤ h ∧ Below w.heap.size w w' := by
  obtain ⟨a1, a2, a3, a4⟩ := chk_ok za
  have hn2 : n ≤ 20000 := by omega
  have m1 : ∀ u : World, (Instr.makeSlice 35 (.int .i64 ((n : Int) + 1)) (.int .i64 ((n : Int) + 1))).run Try.prog u = .ok (.slice (some ⟨u.heap.size, 0, none⟩) (n + 1) (n + 1)) (u.alloc (.cells ((List.replicate (n + 1) ([] : List UInt8)).map strV).toArray 9)) := fun u => make_strs u (n + 1) (by omega)
  have m2 : ∀ u : World, (Instr.makeSlice 36 (.int .i64 (n : Int)) (.int .i64 (n : Int))).run Try.prog u = .ok (.slice (some ⟨u.heap.size, 0, none⟩) n n) (u.alloc (.cells ((List.replicate n false).map Value.bool).toArray 4)) := fun u => make_bools u n (by omega)
  generalize hc1 : ((List.replicate (n + 1) ([] : List UInt8)).map strV).toArray = C1 at *
  generalize hc2 : ((List.replicate n false).map Value.bool).toArray = C2 at *
  have HC := hide (And.intro hc1 hc2)
  have HA := hide hA
  have HZ := hide za
  have HN := hide hn
  clear hc1 hc2 hA za a1 a2 a3 a4 hn
  go_enter Try.func13, Try.ntmps13
  go_upto_region 1 with fail
  go_region
  · obtain ⟨g, h, w1, eg, eh, ew, HP0⟩ : ∃ g h w1, g = w.heap.size ∧ h = w.heap.size + 1 ∧ w1 = ((w.alloc (.cells C1 9)).alloc (.cells C2 4)).drew ∧ Hid (PB w1 g (List.replicate (n + 1) []) ∧ SB w1 h (List.replicate n false) ∧ w.heap.size ≤ g ∧ w.heap.size ≤ h ∧ g ≠ h ∧ g < w1.heap.size ∧ h < w1.heap.size ∧ Below w.heap.size w w1) := ⟨_, _, _, rfl, rfl, rfl, hide (by
      obtain ⟨c1, c2⟩ := HC.out
      rw [← c1, ← c2]
      refine ⟨(blk_alloc w _ _).alloc _, ?_, Nat.le_refl _, Nat.le_succ _, by omega, by simp; omega, by simp, (((Below.refl _ w).alloc (Nat.le_refl _) _).alloc (by simp) _).drew⟩
      have := blk_alloc (w.alloc (.cells ((List.replicate (n + 1) ([] : List UInt8)).map strV).toArray 9)) ((List.replicate n false).map Value.bool).toArray 4
      rw [show (w.alloc (.cells ((List.replicate (n + 1) ([] : List UInt8)).map strV).toArray 9)).heap.size = w.heap.size + 1 from by simp] at this
      exact this)⟩
    rw [← ew, ← eh, ← eg]
    clear eg eh ew m1 m2 HC
    have KN := hide (normalD_any w1 p c A (HA.out.keep HP0.out.2.2.2.2.2.2.2) HZ.out)
    go_wp2_with fail
    refine (unhide KN).mono ?_
    rintro _ w2 ⟨v2, rfl, hv2, b2⟩
    obtain ⟨f1, f2, f3, f4⟩ := chk_ok (nf_good HZ.out)
    obtain ⟨p2, c2, rfl, _, _, L2, hn2'⟩ := hv2.lies (fun x hx => chkP_rng (f2 x hx))
    have HE : Hid (exL (nf (exL A)) = nrm (exL A)) := hide (ex_nf _)
    have HNn : Hid (ov (exL (nf (exL A))) = n) := hide (by rw [ex_nf, ov_nrm]; exact HN.out)
    have HF := hide f2
    have HLL := hide L2
    have HBB := hide hn2'
    have hmk : Hid (mk (exL (nf (exL A))) ≤ 20000) := hide f4
    have HP1 : Hid ((PB w2 g (pRow n []) ∧ SB w2 h (sRow n []) ∧ Below w.heap.size w w2) ∧ g < w1.heap.size ∧ h < w1.heap.size ∧ g ≠ h ∧ w.heap.size ≤ g ∧ w.heap.size ≤ h ∧ w1.heap.size ≤ w2.heap.size) := hide (by
      obtain ⟨x1, x2, x3, x4, x5, x6, x7, x8⟩ := HP0.out
      rw [pRow_nil, sRow_nil]
      exact ⟨⟨Blk.below x1 b2 x6, Blk.below x2 b2 x7, x8.trans (b2.mono x8.size)⟩, x6, x7, x5, x3, x4, b2.size⟩)
    generalize hLe : nf (exL A) = L at *
    clear KN hv2 b2 f2 f3 f4 L2 hn2' HP0 hLe
    go_wp2_with fail
    go_loopw [8, 19] (fun a i wr => ∃ j : Nat, i = .int .i64 j ∧ j ≤ L.length ∧ a = .int .i64 (ov (exL (L.take j)) : Int) ∧ Hid (PB wr g (pRow n (exL (L.take j))) ∧ SB wr h (sRow n (exL (L.take j)))) ∧ Hid (Chg (fun b => b = g ∨ b = h) w2 wr ∧ Below w.heap.size w wr)) (fun _ i _ => L.length - (intOf i).toNat)
    case atStart => exact ⟨0, rfl, Nat.zero_le _, rfl, hide ⟨HP1.out.1.1, HP1.out.1.2.1⟩, hide ⟨Chg.refl _ _, HP1.out.1.2.2⟩⟩
    case round =>
      obtain ⟨j, rfl, hj, rfl, HR, HX⟩ := hrel
      by_cases hlt : j < L.length
      · obtain ⟨B, o, rfl, hB, hr, h3⟩ := HLL.out.at hlt
        have hBg : w1.heap.size ≤ B := HBB.out _ _ rfl
        have hblk : wr.heap[B]? = w2.heap[B]? := HX.out.1.block B hB (by have := HP1.out; omega)
        have c0 : wr.cell? ⟨B, o + j * 3, none⟩ = some (.int .i64 (L[j]).1) := (World.cell?_of_block hblk).trans h3.1
        have c1 : wr.cell? ⟨B, o + j * 3 + 1, none⟩ = some (.int .i64 (L[j]).2.1) := (World.cell?_of_block hblk).trans h3.2.1
        have c2' : wr.cell? ⟨B, o + j * 3 + 2, none⟩ = some (.string ⟨(L[j]).2.2.toArray⟩) := (World.cell?_of_block hblk).trans h3.2.2
        have hx := chkP_ok (HF.out _ (List.getElem_mem hlt))
        have hnx := exL_take hlt
        obtain ⟨ov1, mk1⟩ := ov_take_le L (j + 1)
        rw [HNn.out] at ov1
        have mk2 := Nat.le_trans mk1 hmk.out
        have hc : wr.heap.size ≠ g ∧ wr.heap.size ≠ h := by have := HP1.out; have := HX.out.1.size; omega
        have HR2 : Hid (PB (wr.alloc (.cells #[.int .i64 (L[j]).1, .int .i64 (L[j]).2.1, .string ⟨(L[j]).2.2.toArray⟩] 46)) g (pRow n (exL (L.take j))) ∧ SB (wr.alloc (.cells #[.int .i64 (L[j]).1, .int .i64 (L[j]).2.1, .string ⟨(L[j]).2.2.toArray⟩] 46)) h (sRow n (exL (L.take j)))) := hide ⟨Blk.alloc HR.out.1 _, Blk.alloc HR.out.2 _⟩
        have HX2 : Hid (Chg (fun b => b = g ∨ b = h) w2 (wr.alloc (.cells #[.int .i64 (L[j]).1, .int .i64 (L[j]).2.1, .string ⟨(L[j]).2.2.toArray⟩] 46)) ∧ Below w.heap.size w (wr.alloc (.cells #[.int .i64 (L[j]).1, .int .i64 (L[j]).2.1, .string ⟨(L[j]).2.2.toArray⟩] 46))) := hide ⟨HX.out.1.alloc _, HX.out.2.alloc HX.out.2.size _⟩
        have hbl := blk_alloc wr #[.int .i64 (L[j]).1, .int .i64 (L[j]).2.1, .string ⟨(L[j]).2.2.toArray⟩] 46
        have HTK : Hid (L.take (j + 1) = L.take j ++ [L[j]]) := hide (take_one hlt)
        clear h3 hr hblk HR HX mk1
        generalize hLj : L[j] = x at *
        obtain ⟨k, m0, t⟩ := x
        dsimp only at hx c0 c1 c2' hbl HR2 HX2 hnx
        generalize hEj : exL (L.take j) = E at *
        rcases hx with ⟨rfl, n0, n1, s0⟩ | ⟨rfl, n0, n1, s0⟩ | ⟨rfl, rfl, s1⟩
        · obtain ⟨m, rfl⟩ : ∃ m : Nat, m0 = (m : Int) := ⟨m0.toNat, by omega⟩
          rw [ex_keep, Int.toNat_natCast] at hnx
          rw [hnx, ov_app, ov_keeps] at ov1
          have HNX := hide hnx
          clear hnx hLj hEj s0 mk2 HTK
          replace ov1 : ov E + m ≤ n := ov1
          generalize ht : (⟨t.toArray⟩ : ByteArray) = T at *
          clear ht
          go_wp2_with fail
          generalize wr.alloc (.cells #[.int .i64 1, .int .i64 (m : Int), .string T] 46) = u0 at *
          generalize hD : wr.heap.size = D at *
          clear c0 c1 c2'
          go_loopw [8, 29] (fun a i wq => ∃ k : Nat, i = .int .i64 k ∧ k ≤ m ∧ a = .int .i64 (ov E + k : Nat) ∧ Hid (PB wq g (pRow n (E ++ keepsM k)) ∧ SB wq h (sRow n (E ++ keepsM k))) ∧ Hid (Chg (fun b => b = g ∨ b = h) w2 wq ∧ Below w.heap.size w wq)) (fun _ i _ => m - (intOf i).toNat)
          case atStart => exact ⟨0, rfl, Nat.zero_le _, by rw [Nat.add_zero], hide (by rw [show keepsM 0 = [] from rfl, List.append_nil]; exact HR2.out), HX2⟩
          case round =>
            obtain ⟨k, rfl, hk, rfl, HR, HX⟩ := hrel
            by_cases hkm : k < m
            · have hok : ov (E ++ keepsM k) = ov E + k := by rw [ov_app, ov_keeps]
              have hfr : wr.frozen? ⟨h, ov E + k, none⟩ = false := HR.out.2.froz _
              have hce : wr.cell? ⟨h, ov E + k, none⟩ = some (.bool false) := HR.out.2.at (by have := sRow_get (n := n) (x := E ++ keepsM k) (by rw [hok]; omega); rwa [hok] at this)
              have HR3 : Hid (PB (wr.setCell ⟨h, ov E + k, none⟩ (.bool true)) g (pRow n (E ++ keepsM (k + 1))) ∧ SB (wr.setCell ⟨h, ov E + k, none⟩ (.bool true)) h (sRow n (E ++ keepsM (k + 1)))) := hide (by
                rw [keepsM_one, pRow_over true (by rw [hok]; omega), sRow_over true (by rw [hok]; omega), hok]
                exact ⟨Blk.set_other HR.out.1 _ _ HP1.out.2.2.2.1, HR.out.2.put _ _⟩)
              have HX3 : Hid (Chg (fun b => b = g ∨ b = h) w2 (wr.setCell ⟨h, ov E + k, none⟩ (.bool true)) ∧ Below w.heap.size w (wr.setCell ⟨h, ov E + k, none⟩ (.bool true))) := hide ⟨HX.out.1.set (.inl (.inr rfl)) _ _, HX.out.2.setCell HP1.out.2.2.2.2.2.1 _⟩
              have i1 : (k : Int) < (m : Int) := by omega
              have i2 : ((ov E + k : Nat) : Int) < (n : Int) := by omega
              have i3 : (0 : Int) ≤ ((ov E + k : Nat) : Int) := by omega
              have i4 : ov E + k < n := by omega
              have HA1 : Hid (ov E + k + 1 = ov E + (k + 1)) := hide (by omega)
              clear HR HX hok
              generalize hav : ov E + k = av at *
              go_wp2
              go_roundw
              case rel => exact ⟨k + 1, by go_num, hkm, by rw [← HA1.out]; go_num, HR3, HX3⟩
              case measure => simp only [intOf]; omega
            · have hkm2 : k = m := by omega
              have HF2 : Hid (PB wr g (pRow n (exL (L.take (j + 1)))) ∧ SB wr h (sRow n (exL (L.take (j + 1))))) := hide (by rw [HNX.out, ← hkm2]; exact HR.out)
              have HOV : Hid (ov E + k = ov (exL (L.take (j + 1)))) := hide (by rw [HNX.out, hkm2, ov_app, ov_keeps])
              have i1 : ¬ (k : Int) < (m : Int) := by omega
              have i5 : (j : Int) < (L.length : Int) := by omega
              clear HR HNX hkm2
              go_wp2
              go_roundw
              case rel => exact ⟨j + 1, by go_num, hlt, by rw [← HOV.out], HF2, HX⟩
              case measure => simp only [intOf]; omega
        · obtain ⟨m, rfl⟩ : ∃ m : Nat, m0 = (m : Int) := ⟨m0.toNat, by omega⟩
          rw [ex_cut, Int.toNat_natCast] at hnx
          rw [hnx, ov_app, ov_cuts] at ov1
          obtain ⟨r1, r2⟩ := row_cuts (n := n) m E ov1
          have HR3 : Hid (PB (wr.alloc (.cells #[.int .i64 2, .int .i64 (m : Int), .string ⟨t.toArray⟩] 46)) g (pRow n (exL (L.take (j + 1)))) ∧ SB (wr.alloc (.cells #[.int .i64 2, .int .i64 (m : Int), .string ⟨t.toArray⟩] 46)) h (sRow n (exL (L.take (j + 1))))) := hide (by rw [hnx, r1, r2]; exact HR2.out)
          have HOV : Hid (ov E + m = ov (exL (L.take (j + 1)))) := hide (by rw [hnx, ov_app, ov_cuts])
          replace ov1 : ov E + m ≤ n := ov1
          clear hnx hLj hEj s0 mk2 HTK r1 r2 HR2
          generalize ht : (⟨t.toArray⟩ : ByteArray) = T at *
          clear ht
          generalize hav : ov E = av at *
          go_wp2
          go_roundw
          case rel => exact ⟨j + 1, by go_num, hlt, by rw [← HOV.out]; go_num, HR3, HX2⟩
          case measure => simp only [intOf]; omega
        · rw [ex_put] at hnx
          rw [hnx, ov_app, ov_puts, Nat.add_zero] at ov1
          rw [hnx, mk_app, mk_puts] at mk2
          obtain ⟨r1, r2⟩ := row_puts n E t
          have hdm := dec_mk E ([], [])
          replace hdm : (dec E).2.length ≤ 0 + mk E := hdm
          have hlen := pRow_len ov1
          have hg := pRow_get (n := n) E
          have u1 := HR2.out.1.at hg
          have u2 : (wr.alloc (.cells #[.int .i64 3, .int .i64 0, .string ⟨t.toArray⟩] 46)).frozen? ⟨g, ov E, none⟩ = false := HR2.out.1.froz _
          have ar := add_run (dec E).2 t (by omega)
          have HR3 : Hid (PB ((wr.alloc (.cells #[.int .i64 3, .int .i64 0, .string ⟨t.toArray⟩] 46)).setCell ⟨g, ov E, none⟩ (.string ⟨((dec E).2 ++ t).toArray⟩)) g (pRow n (exL (L.take (j + 1)))) ∧ SB ((wr.alloc (.cells #[.int .i64 3, .int .i64 0, .string ⟨t.toArray⟩] 46)).setCell ⟨g, ov E, none⟩ (.string ⟨((dec E).2 ++ t).toArray⟩)) h (sRow n (exL (L.take (j + 1))))) := hide (by
            rw [hnx, r1, r2]
            exact ⟨HR2.out.1.put _ _, Blk.set_other HR2.out.2 _ _ (fun e => HP1.out.2.2.2.1 e.symm)⟩)
          have HX3 : Hid (Chg (fun b => b = g ∨ b = h) w2 ((wr.alloc (.cells #[.int .i64 3, .int .i64 0, .string ⟨t.toArray⟩] 46)).setCell ⟨g, ov E, none⟩ (.string ⟨((dec E).2 ++ t).toArray⟩)) ∧ Below w.heap.size w ((wr.alloc (.cells #[.int .i64 3, .int .i64 0, .string ⟨t.toArray⟩] 46)).setCell ⟨g, ov E, none⟩ (.string ⟨((dec E).2 ++ t).toArray⟩))) := hide ⟨HX2.out.1.set (.inl (.inl rfl)) _ _, HX2.out.2.setCell HP1.out.2.2.2.2.1 _⟩
          have HOV : Hid (ov E = ov (exL (L.take (j + 1)))) := hide (by rw [hnx, ov_app, ov_puts, Nat.add_zero])
          have q2 := hbl.cell 2 _ rfl
          replace q2 : (wr.alloc (.cells #[.int .i64 3, .int .i64 0, .string ⟨t.toArray⟩] 46)).cell? ⟨wr.heap.size, 2, none⟩ = some (.string ⟨t.toArray⟩) := q2
          have q0 : (wr.alloc (.cells #[.int .i64 3, .int .i64 0, .string ⟨t.toArray⟩] 46)).cell? ⟨wr.heap.size, 0, none⟩ = some (.int .i64 3) := hbl.cell 0 _ rfl
          clear hnx hLj hEj mk2 HTK r1 r2 HR2 hdm hg HX2 hlen hbl s1
          generalize (⟨((dec E).2 ++ t).toArray⟩ : ByteArray) = TS at *
          generalize (⟨(dec E).2.toArray⟩ : ByteArray) = T0 at *
          generalize ht : (⟨t.toArray⟩ : ByteArray) = T at *
          clear ht
          generalize hav : ov E = av at *
          have i1 : (av : Int) < ((n + 1 : Nat) : Int) := by omega
          have i2 : (0 : Int) ≤ (av : Int) := by omega
          have i3 : av < n + 1 := by omega
          have i4 : (av : Int) < (n : Int) + 1 := by omega
          go_upto_region 16 with fail
          go_region
          have HR4 : Hid (PB ((wr.alloc (.cells #[.int .i64 3, .int .i64 0, .string T] 46)).setCell ⟨g, av, none⟩ (.string TS)).drew g (pRow n (exL (L.take (j + 1)))) ∧ SB ((wr.alloc (.cells #[.int .i64 3, .int .i64 0, .string T] 46)).setCell ⟨g, av, none⟩ (.string TS)).drew h (sRow n (exL (L.take (j + 1))))) := HR3
          have HX4 : Hid (Chg (fun b => b = g ∨ b = h) w2 ((wr.alloc (.cells #[.int .i64 3, .int .i64 0, .string T] 46)).setCell ⟨g, av, none⟩ (.string TS)).drew ∧ Below w.heap.size w ((wr.alloc (.cells #[.int .i64 3, .int .i64 0, .string T] 46)).setCell ⟨g, av, none⟩ (.string TS)).drew) := hide ⟨chg_drew HX3.out.1, HX3.out.2.drew⟩
          generalize ((wr.alloc (.cells #[.int .i64 3, .int .i64 0, .string T] 46)).setCell ⟨g, av, none⟩ (.string TS)).drew = w3 at *
          clear HR3 HX3 u1 u2 q2 q0 c0 c1 c2'
          go_wp2
          go_roundw
          case rel => exact ⟨j + 1, by go_num, hlt, by rw [← HOV.out], HR4, HX4⟩
          case measure => simp only [intOf]; omega
      · have hjl : j = L.length := by omega
        have HF2 : Hid (PB wr g (pRow n (nrm (exL A))) ∧ SB wr h (sRow n (nrm (exL A))) ∧ w.heap.size ≤ g ∧ w.heap.size ≤ h ∧ Below w.heap.size w wr) := hide (by
          have := HR.out
          rw [hjl, List.take_length, HE.out] at this
          exact ⟨this.1, this.2, HP1.out.2.2.2.2.1, HP1.out.2.2.2.2.2.1, HX.out.2⟩)
        have i1 : ¬ (j : Int) < (L.length : Int) := by omega
        clear HR HX hjl
        generalize ov (exL (L.take j)) = av at *
        go_wp2
        refine bodyPost_ret (v := .tuple #[.slice (some ⟨g, 0, none⟩) (n + 1) (n + 1), .slice (some ⟨h, 0, none⟩) n n]) (by simp [results, Try.results13, go_sem]) rfl ?_
        exact ⟨_, _, rfl, HF2.out⟩
  · obtain ⟨g, h, w1, eg, eh, ew, HP0⟩ : ∃ g h w1, g = w.heap.size + 1 ∧ h = w.heap.size ∧ w1 = ((w.alloc (.cells C2 4)).alloc (.cells C1 9)).drew ∧ Hid (PB w1 g (List.replicate (n + 1) []) ∧ SB w1 h (List.replicate n false) ∧ w.heap.size ≤ g ∧ w.heap.size ≤ h ∧ g ≠ h ∧ g < w1.heap.size ∧ h < w1.heap.size ∧ Below w.heap.size w w1) := ⟨_, _, _, rfl, rfl, rfl, hide (by
      obtain ⟨c1, c2⟩ := HC.out
      rw [← c1, ← c2]
      refine ⟨?_, (blk_alloc w _ _).alloc _, Nat.le_succ _, Nat.le_refl _, by omega, by simp, by simp; omega, (((Below.refl _ w).alloc (Nat.le_refl _) _).alloc (by simp) _).drew⟩
      have := blk_alloc (w.alloc (.cells ((List.replicate n false).map Value.bool).toArray 4)) ((List.replicate (n + 1) ([] : List UInt8)).map strV).toArray 9
      rw [show (w.alloc (.cells ((List.replicate n false).map Value.bool).toArray 4)).heap.size = w.heap.size + 1 from by simp] at this
      exact this)⟩
    rw [← ew, ← eg, ← eh]
    clear eg eh ew m1 m2 HC
    have KN := hide (normalD_any w1 p c A (HA.out.keep HP0.out.2.2.2.2.2.2.2) HZ.out)
    go_wp2_with fail
    refine (unhide KN).mono ?_
    rintro _ w2 ⟨v2, rfl, hv2, b2⟩
    obtain ⟨f1, f2, f3, f4⟩ := chk_ok (nf_good HZ.out)
    obtain ⟨p2, c2, rfl, _, _, L2, hn2'⟩ := hv2.lies (fun x hx => chkP_rng (f2 x hx))
    have HE : Hid (exL (nf (exL A)) = nrm (exL A)) := hide (ex_nf _)
    have HNn : Hid (ov (exL (nf (exL A))) = n) := hide (by rw [ex_nf, ov_nrm]; exact HN.out)
    have HF := hide f2
    have HLL := hide L2
    have HBB := hide hn2'
    have hmk : Hid (mk (exL (nf (exL A))) ≤ 20000) := hide f4
    have HP1 : Hid ((PB w2 g (pRow n []) ∧ SB w2 h (sRow n []) ∧ Below w.heap.size w w2) ∧ g < w1.heap.size ∧ h < w1.heap.size ∧ g ≠ h ∧ w.heap.size ≤ g ∧ w.heap.size ≤ h ∧ w1.heap.size ≤ w2.heap.size) := hide (by
      obtain ⟨x1, x2, x3, x4, x5, x6, x7, x8⟩ := HP0.out
      rw [pRow_nil, sRow_nil]
      exact ⟨⟨Blk.below x1 b2 x6, Blk.below x2 b2 x7, x8.trans (b2.mono x8.size)⟩, x6, x7, x5, x3, x4, b2.size⟩)
    generalize hLe : nf (exL A) = L at *
    clear KN hv2 b2 f2 f3 f4 L2 hn2' HP0 hLe
    go_wp2_with fail
    go_loopw [8, 19] (fun a i wr => ∃ j : Nat, i = .int .i64 j ∧ j ≤ L.length ∧ a = .int .i64 (ov (exL (L.take j)) : Int) ∧ Hid (PB wr g (pRow n (exL (L.take j))) ∧ SB wr h (sRow n (exL (L.take j)))) ∧ Hid (Chg (fun b => b = g ∨ b = h) w2 wr ∧ Below w.heap.size w wr)) (fun _ i _ => L.length - (intOf i).toNat)
    case atStart => exact ⟨0, rfl, Nat.zero_le _, rfl, hide ⟨HP1.out.1.1, HP1.out.1.2.1⟩, hide ⟨Chg.refl _ _, HP1.out.1.2.2⟩⟩
    case round =>
      obtain ⟨j, rfl, hj, rfl, HR, HX⟩ := hrel
      by_cases hlt : j < L.length
      · obtain ⟨B, o, rfl, hB, hr, h3⟩ := HLL.out.at hlt
        have hBg : w1.heap.size ≤ B := HBB.out _ _ rfl
        have hblk : wr.heap[B]? = w2.heap[B]? := HX.out.1.block B hB (by have := HP1.out; omega)
        have c0 : wr.cell? ⟨B, o + j * 3, none⟩ = some (.int .i64 (L[j]).1) := (World.cell?_of_block hblk).trans h3.1
        have c1 : wr.cell? ⟨B, o + j * 3 + 1, none⟩ = some (.int .i64 (L[j]).2.1) := (World.cell?_of_block hblk).trans h3.2.1
        have c2' : wr.cell? ⟨B, o + j * 3 + 2, none⟩ = some (.string ⟨(L[j]).2.2.toArray⟩) := (World.cell?_of_block hblk).trans h3.2.2
        have hx := chkP_ok (HF.out _ (List.getElem_mem hlt))
        have hnx := exL_take hlt
        obtain ⟨ov1, mk1⟩ := ov_take_le L (j + 1)
        rw [HNn.out] at ov1
        have mk2 := Nat.le_trans mk1 hmk.out
        have hc : wr.heap.size ≠ g ∧ wr.heap.size ≠ h := by have := HP1.out; have := HX.out.1.size; omega
        have HR2 : Hid (PB (wr.alloc (.cells #[.int .i64 (L[j]).1, .int .i64 (L[j]).2.1, .string ⟨(L[j]).2.2.toArray⟩] 46)) g (pRow n (exL (L.take j))) ∧ SB (wr.alloc (.cells #[.int .i64 (L[j]).1, .int .i64 (L[j]).2.1, .string ⟨(L[j]).2.2.toArray⟩] 46)) h (sRow n (exL (L.take j)))) := hide ⟨Blk.alloc HR.out.1 _, Blk.alloc HR.out.2 _⟩
        have HX2 : Hid (Chg (fun b => b = g ∨ b = h) w2 (wr.alloc (.cells #[.int .i64 (L[j]).1, .int .i64 (L[j]).2.1, .string ⟨(L[j]).2.2.toArray⟩] 46)) ∧ Below w.heap.size w (wr.alloc (.cells #[.int .i64 (L[j]).1, .int .i64 (L[j]).2.1, .string ⟨(L[j]).2.2.toArray⟩] 46))) := hide ⟨HX.out.1.alloc _, HX.out.2.alloc HX.out.2.size _⟩
        have hbl := blk_alloc wr #[.int .i64 (L[j]).1, .int .i64 (L[j]).2.1, .string ⟨(L[j]).2.2.toArray⟩] 46
        have HTK : Hid (L.take (j + 1) = L.take j ++ [L[j]]) := hide (take_one hlt)
        clear h3 hr hblk HR HX mk1
        generalize hLj : L[j] = x at *
        obtain ⟨k, m0, t⟩ := x
        dsimp only at hx c0 c1 c2' hbl HR2 HX2 hnx
        generalize hEj : exL (L.take j) = E at *
        rcases hx with ⟨rfl, n0, n1, s0⟩ | ⟨rfl, n0, n1, s0⟩ | ⟨rfl, rfl, s1⟩
        · obtain ⟨m, rfl⟩ : ∃ m : Nat, m0 = (m : Int) := ⟨m0.toNat, by omega⟩
          rw [ex_keep, Int.toNat_natCast] at hnx
          rw [hnx, ov_app, ov_keeps] at ov1
          have HNX := hide hnx
          clear hnx hLj hEj s0 mk2 HTK
          replace ov1 : ov E + m ≤ n := ov1
          generalize ht : (⟨t.toArray⟩ : ByteArray) = T at *
          clear ht
          go_wp2_with fail
          generalize wr.alloc (.cells #[.int .i64 1, .int .i64 (m : Int), .string T] 46) = u0 at *
          generalize hD : wr.heap.size = D at *
          clear c0 c1 c2'
          go_loopw [8, 29] (fun a i wq => ∃ k : Nat, i = .int .i64 k ∧ k ≤ m ∧ a = .int .i64 (ov E + k : Nat) ∧ Hid (PB wq g (pRow n (E ++ keepsM k)) ∧ SB wq h (sRow n (E ++ keepsM k))) ∧ Hid (Chg (fun b => b = g ∨ b = h) w2 wq ∧ Below w.heap.size w wq)) (fun _ i _ => m - (intOf i).toNat)
          case atStart => exact ⟨0, rfl, Nat.zero_le _, by rw [Nat.add_zero], hide (by rw [show keepsM 0 = [] from rfl, List.append_nil]; exact HR2.out), HX2⟩
          case round =>
            obtain ⟨k, rfl, hk, rfl, HR, HX⟩ := hrel
            by_cases hkm : k < m
            · have hok : ov (E ++ keepsM k) = ov E + k := by rw [ov_app, ov_keeps]
              have hfr : wr.frozen? ⟨h, ov E + k, none⟩ = false := HR.out.2.froz _
              have hce : wr.cell? ⟨h, ov E + k, none⟩ = some (.bool false) := HR.out.2.at (by have := sRow_get (n := n) (x := E ++ keepsM k) (by rw [hok]; omega); rwa [hok] at this)
              have HR3 : Hid (PB (wr.setCell ⟨h, ov E + k, none⟩ (.bool true)) g (pRow n (E ++ keepsM (k + 1))) ∧ SB (wr.setCell ⟨h, ov E + k, none⟩ (.bool true)) h (sRow n (E ++ keepsM (k + 1)))) := hide (by
                rw [keepsM_one, pRow_over true (by rw [hok]; omega), sRow_over true (by rw [hok]; omega), hok]
                exact ⟨Blk.set_other HR.out.1 _ _ HP1.out.2.2.2.1, HR.out.2.put _ _⟩)
              have HX3 : Hid (Chg (fun b => b = g ∨ b = h) w2 (wr.setCell ⟨h, ov E + k, none⟩ (.bool true)) ∧ Below w.heap.size w (wr.setCell ⟨h, ov E + k, none⟩ (.bool true))) := hide ⟨HX.out.1.set (.inl (.inr rfl)) _ _, HX.out.2.setCell HP1.out.2.2.2.2.2.1 _⟩
              have i1 : (k : Int) < (m : Int) := by omega
              have i2 : ((ov E + k : Nat) : Int) < (n : Int) := by omega
              have i3 : (0 : Int) ≤ ((ov E + k : Nat) : Int) := by omega
              have i4 : ov E + k < n := by omega
              have HA1 : Hid (ov E + k + 1 = ov E + (k + 1)) := hide (by omega)
              clear HR HX hok
              generalize hav : ov E + k = av at *
              go_wp2
              go_roundw
              case rel => exact ⟨k + 1, by go_num, hkm, by rw [← HA1.out]; go_num, HR3, HX3⟩
              case measure => simp only [intOf]; omega
            · have hkm2 : k = m := by omega
              have HF2 : Hid (PB wr g (pRow n (exL (L.take (j + 1)))) ∧ SB wr h (sRow n (exL (L.take (j + 1))))) := hide (by rw [HNX.out, ← hkm2]; exact HR.out)
              have HOV : Hid (ov E + k = ov (exL (L.take (j + 1)))) := hide (by rw [HNX.out, hkm2, ov_app, ov_keeps])
              have i1 : ¬ (k : Int) < (m : Int) := by omega
              have i5 : (j : Int) < (L.length : Int) := by omega
              clear HR HNX hkm2
              go_wp2
              go_roundw
              case rel => exact ⟨j + 1, by go_num, hlt, by rw [← HOV.out], HF2, HX⟩
              case measure => simp only [intOf]; omega
        · obtain ⟨m, rfl⟩ : ∃ m : Nat, m0 = (m : Int) := ⟨m0.toNat, by omega⟩
          rw [ex_cut, Int.toNat_natCast] at hnx
          rw [hnx, ov_app, ov_cuts] at ov1
          obtain ⟨r1, r2⟩ := row_cuts (n := n) m E ov1
          have HR3 : Hid (PB (wr.alloc (.cells #[.int .i64 2, .int .i64 (m : Int), .string ⟨t.toArray⟩] 46)) g (pRow n (exL (L.take (j + 1)))) ∧ SB (wr.alloc (.cells #[.int .i64 2, .int .i64 (m : Int), .string ⟨t.toArray⟩] 46)) h (sRow n (exL (L.take (j + 1))))) := hide (by rw [hnx, r1, r2]; exact HR2.out)
          have HOV : Hid (ov E + m = ov (exL (L.take (j + 1)))) := hide (by rw [hnx, ov_app, ov_cuts])
          replace ov1 : ov E + m ≤ n := ov1
          clear hnx hLj hEj s0 mk2 HTK r1 r2 HR2
          generalize ht : (⟨t.toArray⟩ : ByteArray) = T at *
          clear ht
          generalize hav : ov E = av at *
          go_wp2
          go_roundw
          case rel => exact ⟨j + 1, by go_num, hlt, by rw [← HOV.out]; go_num, HR3, HX2⟩
          case measure => simp only [intOf]; omega
        · rw [ex_put] at hnx
          rw [hnx, ov_app, ov_puts, Nat.add_zero] at ov1
          rw [hnx, mk_app, mk_puts] at mk2
          obtain ⟨r1, r2⟩ := row_puts n E t
          have hdm := dec_mk E ([], [])
          replace hdm : (dec E).2.length ≤ 0 + mk E := hdm
          have hlen := pRow_len ov1
          have hg := pRow_get (n := n) E
          have u1 := HR2.out.1.at hg
          have u2 : (wr.alloc (.cells #[.int .i64 3, .int .i64 0, .string ⟨t.toArray⟩] 46)).frozen? ⟨g, ov E, none⟩ = false := HR2.out.1.froz _
          have ar := add_run (dec E).2 t (by omega)
          have HR3 : Hid (PB ((wr.alloc (.cells #[.int .i64 3, .int .i64 0, .string ⟨t.toArray⟩] 46)).setCell ⟨g, ov E, none⟩ (.string ⟨((dec E).2 ++ t).toArray⟩)) g (pRow n (exL (L.take (j + 1)))) ∧ SB ((wr.alloc (.cells #[.int .i64 3, .int .i64 0, .string ⟨t.toArray⟩] 46)).setCell ⟨g, ov E, none⟩ (.string ⟨((dec E).2 ++ t).toArray⟩)) h (sRow n (exL (L.take (j + 1))))) := hide (by
            rw [hnx, r1, r2]
            exact ⟨HR2.out.1.put _ _, Blk.set_other HR2.out.2 _ _ (fun e => HP1.out.2.2.2.1 e.symm)⟩)
          have HX3 : Hid (Chg (fun b => b = g ∨ b = h) w2 ((wr.alloc (.cells #[.int .i64 3, .int .i64 0, .string ⟨t.toArray⟩] 46)).setCell ⟨g, ov E, none⟩ (.string ⟨((dec E).2 ++ t).toArray⟩)) ∧ Below w.heap.size w ((wr.alloc (.cells #[.int .i64 3, .int .i64 0, .string ⟨t.toArray⟩] 46)).setCell ⟨g, ov E, none⟩ (.string ⟨((dec E).2 ++ t).toArray⟩))) := hide ⟨HX2.out.1.set (.inl (.inl rfl)) _ _, HX2.out.2.setCell HP1.out.2.2.2.2.1 _⟩
          have HOV : Hid (ov E = ov (exL (L.take (j + 1)))) := hide (by rw [hnx, ov_app, ov_puts, Nat.add_zero])
          have q2 := hbl.cell 2 _ rfl
          replace q2 : (wr.alloc (.cells #[.int .i64 3, .int .i64 0, .string ⟨t.toArray⟩] 46)).cell? ⟨wr.heap.size, 2, none⟩ = some (.string ⟨t.toArray⟩) := q2
          have q0 : (wr.alloc (.cells #[.int .i64 3, .int .i64 0, .string ⟨t.toArray⟩] 46)).cell? ⟨wr.heap.size, 0, none⟩ = some (.int .i64 3) := hbl.cell 0 _ rfl
          clear hnx hLj hEj mk2 HTK r1 r2 HR2 hdm hg HX2 hlen hbl s1
          generalize (⟨((dec E).2 ++ t).toArray⟩ : ByteArray) = TS at *
          generalize (⟨(dec E).2.toArray⟩ : ByteArray) = T0 at *
          generalize ht : (⟨t.toArray⟩ : ByteArray) = T at *
          clear ht
          generalize hav : ov E = av at *
          have i1 : (av : Int) < ((n + 1 : Nat) : Int) := by omega
          have i2 : (0 : Int) ≤ (av : Int) := by omega
          have i3 : av < n + 1 := by omega
          have i4 : (av : Int) < (n : Int) + 1 := by omega
          go_upto_region 16 with fail
          go_region
          have HR4 : Hid (PB ((wr.alloc (.cells #[.int .i64 3, .int .i64 0, .string T] 46)).setCell ⟨g, av, none⟩ (.string TS)).drew g (pRow n (exL (L.take (j + 1)))) ∧ SB ((wr.alloc (.cells #[.int .i64 3, .int .i64 0, .string T] 46)).setCell ⟨g, av, none⟩ (.string TS)).drew h (sRow n (exL (L.take (j + 1))))) := HR3
          have HX4 : Hid (Chg (fun b => b = g ∨ b = h) w2 ((wr.alloc (.cells #[.int .i64 3, .int .i64 0, .string T] 46)).setCell ⟨g, av, none⟩ (.string TS)).drew ∧ Below w.heap.size w ((wr.alloc (.cells #[.int .i64 3, .int .i64 0, .string T] 46)).setCell ⟨g, av, none⟩ (.string TS)).drew) := hide ⟨chg_drew HX3.out.1, HX3.out.2.drew⟩
          generalize ((wr.alloc (.cells #[.int .i64 3, .int .i64 0, .string T] 46)).setCell ⟨g, av, none⟩ (.string TS)).drew = w3 at *
          clear HR3 HX3 u1 u2 q2 q0 c0 c1 c2'
          go_wp2
          go_roundw
          case rel => exact ⟨j + 1, by go_num, hlt, by rw [← HOV.out], HR4, HX4⟩
          case measure => simp only [intOf]; omega
      · have hjl : j = L.length := by omega
        have HF2 : Hid (PB wr g (pRow n (nrm (exL A))) ∧ SB wr h (sRow n (nrm (exL A))) ∧ w.heap.size ≤ g ∧ w.heap.size ≤ h ∧ Below w.heap.size w wr) := hide (by
          have := HR.out
          rw [hjl, List.take_length, HE.out] at this
          exact ⟨this.1, this.2, HP1.out.2.2.2.2.1, HP1.out.2.2.2.2.2.1, HX.out.2⟩)
        have i1 : ¬ (j : Int) < (L.length : Int) := by omega
        clear HR HX hjl
        generalize ov (exL (L.take j)) = av at *
        go_wp2
        refine bodyPost_ret (v := .tuple #[.slice (some ⟨g, 0, none⟩) (n + 1) (n + 1), .slice (some ⟨h, 0, none⟩) n n]) (by simp [results, Try.results13, go_sem]) rfl ?_
        exact ⟨_, _, rfl, HF2.out⟩
end Go.Proofs.Yteajpkoghlbneaa.spls
