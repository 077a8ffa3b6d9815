/- The walk of package float: spanOf. -/
import Derived.Test.YtobbbhmkcmbekaaDoorFloatSpan13
import Derived.Deep.CutRange
set_option linter.unusedVariables false
namespace Go.Proofs.YtobbbhmkcmbekaaDoor.bigs
open Go.RowKit

theorem wrap_small (x : Int) (h1 : -1000000000 ≤ x) (h2 : x ≤ 1000000000) : IntKind.i64.wrap x = x := by
  simp [IntKind.wrap, IntKind.bits, IntKind.signed]
  omega
theorem alloc_size (w : World) (o : Obj) : (w.alloc o).heap.size = w.heap.size + 1 := by
  show (w.heap.push o).size = _
  simp
theorem unit_small (w : World) (Y c : Nat) (d : Value) (h : UnitOf w d Y c) (hb : Y / 10 ^ c < 18446744073709551616) : ∀ a1 n1 c1 v2 v3, d = .agg #[.slice a1 n1 c1, v2, v3] → Calls Tryd.prog 56 #[.slice a1 n1 c1] w fun e w' => e = .returned (.int .u64 ((Y / 10 ^ c : Nat) : Int)) ∧ w' = w := by
  intro a1 n1 c1 v2 v3 e
  obtain ⟨A, B, ⟨x1, m1, z1, x2, m2, z2, x3, m3, z3, e2, f1, _⟩, hB, q, _⟩ := h
  rw [e] at e2
  injection e2 with e3
  have e4 : Value.slice a1 n1 c1 = .slice x1 m1 z1 := by
    have := congrArg (fun a : Array Value => a[0]?) e3
    simpa using this
  rw [e4]
  have := small_big w _ (A / B) f1 (by rw [q]; exact hb)
  rwa [q] at this
theorem unit_exact (w : World) (Y c : Nat) (d : Value) (h : UnitOf w d Y c) : Calls Tryd.prog 57 #[d] w fun e w' => e = .returned (.bool (decide (Y % 10 ^ c = 0))) ∧ Below w.heap.size w w' := by
  obtain ⟨A, B, h1, h2, _, h3⟩ := h
  have := exactD_any w d A B h1 h2
  rwa [decide_eq_decide.2 h3] at this
set_option maxHeartbeats 8000000 in
set_option maxRecDepth 100000 in
theorem spanOf_any (w : World) (m bl : Nat) (e t : Int) (hbl : bl = bits m) (ht : t = ((bl : Int) - 1 + e) * 1262611 / 4194304 - 17) (hm : m < 9007199254740992) (hm0 : 0 < m) (h1 : -1074 ≤ e) (h2 : e ≤ 971) (bel : Nat) (hbel : (m = 4503599627370496 ∧ -1074 < e ∧ bel = 1) ∨ (¬ (m = 4503599627370496 ∧ -1074 < e) ∧ bel = 2))
    (Y1 Y2 Y3 c : Nat) (hY1 : Y1 = (4 * m - bel) * 2 ^ (e + 1074).toNat * wF) (hY2 : Y2 = 4 * m * 2 ^ (e + 1074).toNat * wF) (hY3 : Y3 = (4 * m + 2) * 2 ^ (e + 1074).toNat * wF) (hc : c = (t + 1080).toNat) (hb1 : Y1 / 10 ^ c < 9000000000000000000) (hb2 : Y2 / 10 ^ c < 9000000000000000000) (hb3 : Y3 / 10 ^ c < 9000000000000000000) (hb4 : 0 < Y3 / 10 ^ c) :
    Calls Tryd.prog 23 #[.int .u64 m, .int .i64 e] w fun r w' => r = .returned (.agg #[.int .u64 ((Y1 / 10 ^ c + (if m % 2 = 1 ∨ Y1 % 10 ^ c ≠ 0 then 1 else 0) : Nat) : Int), .int .u64 ((Y2 / 10 ^ c : Nat) : Int), .int .u64 ((Y3 / 10 ^ c - (if m % 2 = 1 ∧ Y3 % 10 ^ c = 0 then 1 else 0) : Nat) : Int), .bool (!decide (Y2 % 10 ^ c = 0)), .int .i64 t]) ∧ Below w.heap.size w w' := by
  generalize hRL : ((Y1 / 10 ^ c + (if m % 2 = 1 ∨ Y1 % 10 ^ c ≠ 0 then 1 else 0) : Nat) : Int) = RL
  generalize hRM : ((Y2 / 10 ^ c : Nat) : Int) = RM
  generalize hRH : ((Y3 / 10 ^ c - (if m % 2 = 1 ∧ Y3 % 10 ^ c = 0 then 1 else 0) : Nat) : Int) = RH
  generalize hRX : (!decide (Y2 % 10 ^ c = 0)) = RX
  have HRL := hide hRL
  have HRM := hide hRM
  have HRH := hide hRH
  have HRX := hide hRX
  clear hRL hRM hRH hRX
  have hbl2 : bl ≤ 53 := by rw [hbl]; exact bits_le (k := 53) hm
  have hbl1 : 1 ≤ bl := by rw [hbl]; exact bits_one (by omega)
  have KL : ∀ w, Hid (Calls Tryd.prog 53 #[.int .u64 m] w fun e w' => e = .returned (.int .i64 bl) ∧ w' = w) := fun w => by
    have h := Tryd.bits_Len64 (m : Int) w (by omega) (by omega)
    rw [Int.toNat_natCast, bitLen_bits m (by omega), ← hbl] at h
    exact hide h
  have KF : ∀ w, Hid (Calls Tryd.prog 52 #[.int .i64 ((bl : Int) - 1 + e)] w fun r w' => r = .returned (.int .i64 (((bl : Int) - 1 + e) * 1262611 / 4194304)) ∧ w' = w) := fun w => hide (floorLog_any w _ (by omega) (by omega))
  have f1 : -1000 ≤ ((bl : Int) - 1 + e) * 1262611 / 4194304 := by omega
  have f2 : ((bl : Int) - 1 + e) * 1262611 / 4194304 ≤ 1000 := by omega
  have t1 : -400 ≤ t := by omega
  have t2 : t ≤ 400 := by omega
  have wr1 := wrap_small ((bl : Int) - 1) (by omega) (by omega)
  have wr2 := wrap_small ((bl : Int) - 1 + e) (by omega) (by omega)
  have wr3 : IntKind.i64.wrap (((bl : Int) - 1 + e) * 1262611 / 4194304 - 17) = t := by rw [ht]; exact wrap_small _ (by omega) (by omega)
  have HT := hide ht
  have HBL := hide hbl
  clear ht hbl
  generalize ((bl : Int) - 1 + e) * 1262611 / 4194304 = fl at *
  go_enter Tryd.func23, Tryd.ntmps23
  go_upto_region 1 with fail
  have b0 : Below w.heap.size w ((w.alloc (.cells #[.int .i64 e] 3)).alloc (.cells #[.int .u64 0, .int .u64 0, .int .u64 0, .bool false, .int .i64 0] 47)) := ((Below.refl _ _).alloc (Nat.le_refl _) _).alloc (by rw [alloc_size]; omega) _
  have bk1 := (blk_alloc w #[.int .i64 e] 3).alloc (.cells #[.int .u64 0, .int .u64 0, .int .u64 0, .bool false, .int .i64 0] 47)
  have bk2 := blk_alloc (w.alloc (.cells #[.int .i64 e] 3)) #[.int .u64 0, .int .u64 0, .int .u64 0, .bool false, .int .i64 0] 47
  rw [alloc_size] at bk2
  generalize (w.alloc (.cells #[.int .i64 e] 3)).alloc (.cells #[.int .u64 0, .int .u64 0, .int .u64 0, .bool false, .int .i64 0] 47) = w0 at *
  have r1 := bk1.cell 0 _ rfl
  have lt1 := bk1.lt
  have r1' : ∀ o, (w0.alloc o).cell? ⟨w.heap.size, 0, none⟩ = some (.int .i64 e) := fun o => (bk1.alloc o).cell 0 _ rfl
  go_cut [5] from 13 to 19 (fun s5 wx => s5 = .pointer (some ⟨w0.heap.size, 0, none⟩) ∧ (w0.alloc (.cells #[.int .i64 t] 3)).drew = wx)
  case first =>
    go_region_with (first
      | (go_at_call 53
         refine (unhide (KL _)).mono ?_
         rintro _ _ ⟨rfl, rfl⟩)
      | (go_at_call 52
         refine (unhide (KF _)).mono ?_
         rintro _ _ ⟨rfl, rfl⟩))
    all_goals (go_wp2_with fail; go_meet; exact ⟨rfl, by trivial⟩)
  case rest =>
  obtain ⟨rfl, rfl⟩ := hcut
  have bt : Blk (w0.alloc (.cells #[.int .i64 t] 3)).drew w0.heap.size #[.int .i64 t] 3 := blk_alloc w0 #[.int .i64 t] 3
  have bk1' : Blk (w0.alloc (.cells #[.int .i64 t] 3)).drew w.heap.size #[.int .i64 e] 3 := bk1.alloc (.cells #[.int .i64 t] 3)
  have bk2' : Blk (w0.alloc (.cells #[.int .i64 t] 3)).drew (w.heap.size + 1) #[.int .u64 0, .int .u64 0, .int .u64 0, .bool false, .int .i64 0] 47 := bk2.alloc (.cells #[.int .i64 t] 3)
  have bw1 : Below w.heap.size w (w0.alloc (.cells #[.int .i64 t] 3)).drew := (b0.alloc b0.size _).drew
  have ltb := bk1.lt
  have ltc := bk2.lt
  clear r1 r1' lt1 wr1 wr2 wr3 bk1 bk2 b0 KL KF
  generalize (w0.alloc (.cells #[.int .i64 t] 3)).drew = w1 at *
  generalize w0.heap.size = bT at *
  have r1 := bk1'.cell 0 _ rfl
  have mI1 : (0 : Int) < (m : Int) := by omega
  have mI2 : (m : Int) < 9007199254740992 := by omega
  have hbelI : ((m : Int) = 4503599627370496 ∧ -1074 < e ∧ (bel : Int) = 1) ∨ (¬ ((m : Int) = 4503599627370496 ∧ -1074 < e) ∧ (bel : Int) = 2) := by omega
  have KC : ∀ (q : Nat) (qI : Int) (w' : World), qI = q → q < 18446744073709551616 → Below w1.heap.size w1 w' → Hid (Calls Tryd.prog 54 #[.int .u64 qI, .pointer (some ⟨w.heap.size, 0, none⟩), .pointer (some ⟨bT, 0, none⟩)] w' fun r w'' => ∃ d, r = .returned d ∧ UnitOf w'' d (q * 2 ^ (e + 1074).toNat * wF) (t + 1080).toNat ∧ Below w'.heap.size w' w'') := fun q qI w' h1' h2' hb => hide (inC_any w' q qI e t w.heap.size bT h1' h2' h1 h2 t1 t2 (bk1'.below hb) (bt.below hb))
  have hq1 : 4 * (m : Int) - (bel : Int) = ((4 * m - bel : Nat) : Int) := by omega
  have hq2 : 4 * (m : Int) = ((4 * m : Nat) : Int) := by omega
  have hq3 : 4 * (m : Int) + 2 = ((4 * m + 2 : Nat) : Int) := by omega
  have K1 := KC (4 * m - bel) (4 * (m : Int) - (bel : Int)) w1 hq1 (by omega) (Below.refl _ _)
  have K2 : ∀ w', Below w1.heap.size w1 w' → Hid _ := fun w' => KC (4 * m) (4 * (m : Int)) w' hq2 (by omega)
  have K3 : ∀ w', Below w1.heap.size w1 w' → Hid _ := fun w' => KC (4 * m + 2) (4 * (m : Int) + 2) w' hq3 (by omega)
  have HPAR := hide (show (m : Int) % 2 = ((m % 2 : Nat) : Int) by omega)
  clear KC hq1 hq2 hq3
  rw [← hY1, ← hc] at K1
  rw [← hY2, ← hc] at K2
  rw [← hY3, ← hc] at K3
  clear hY1 hY2 hY3 hc
  generalize (m : Int) = mI at *
  generalize (bel : Int) = bI at *
  go_upto_region 4 with fail
  go_cut [26] from 21 to 25 (fun s26 wx => (s26 = .bool true ∧ bI = 1 ∧ w1 = wx) ∨ (s26 = .bool false ∧ bI = 2 ∧ w1 = wx))
  case first =>
    rcases hbelI with ⟨x1, x2, x3⟩ | ⟨x1, x2⟩
    · have y1 : (mI == 4503599627370496) = true := by simp; exact x1
      have y2 : decide (-1074 < e) = true := decide_eq_true x2
      have X3 := hide x3
      clear x1 x3 hbel
      go_wp2
      go_meet
      case rel => exact .inl ⟨by first | rfl | simp [x2], unhide X3, by trivial⟩
    · by_cases x3 : mI = 4503599627370496
      · have x4 : ¬ -1074 < e := fun h => x1 ⟨x3, h⟩
        have y1 : (mI == 4503599627370496) = true := by simp; exact x3
        have y2 : decide (-1074 < e) = false := decide_eq_false x4
        have X2 := hide x2
        clear x1 x2 x3 hbel
        go_wp2
        go_meet
        case rel => exact .inr ⟨by first | rfl | (simp; omega), unhide X2, by trivial⟩
      · have y1 : (mI == 4503599627370496) = false := beq_false_of_ne x3
        have X2 := hide x2
        clear x1 x2 x3 hbel
        go_wp2
        go_meet
        case rel => exact .inr ⟨by first | rfl | simp, unhide X2, by trivial⟩
  case rest =>
  go_upto_if 26 with fail
  have HCUT := hide hcut
  clear hcut
  go_cut [7] from 21 to 26 (fun s7 wx => s7 = .int .u64 bI ∧ w1 = wx)
  case first =>
    rcases unhide HCUT with ⟨rfl, rfl, rfl⟩ | ⟨rfl, rfl, rfl⟩
    · go_wp2
      go_meet
      case rel => exact ⟨rfl, by trivial⟩
    · go_wp2
      go_meet
      case rel => exact ⟨rfl, by trivial⟩
  case rest =>
  obtain ⟨rfl, rfl⟩ := hcut
  have bI1 : 1 ≤ bI ∧ bI ≤ 2 := by rcases hbelI with ⟨_, _, h⟩ | ⟨_, h⟩ <;> omega
  obtain ⟨bI1, bI2⟩ := bI1
  clear hbelI hbel HCUT
  go_wp2_with fail
  refine (unhide K1).mono ?_
  rintro r w2 ⟨d1, rfl, u1, x1⟩
  go_wp2_with fail
  refine (unhide (K2 w2 x1)).mono ?_
  rintro r w3 ⟨d2, rfl, u2, x2⟩
  have x12 := x1.trans (x2.mono x1.size)
  go_wp2_with fail
  refine (unhide (K3 w3 x12)).mono ?_
  rintro r w4 ⟨d3, rfl, u3, x3⟩
  have x13 := x12.trans (x3.mono x12.size)
  have bw4 := bw1.trans (x13.mono bw1.size)
  have u1' := (u1.below x2).below x3
  have u2' := u2.below x3
  have bk2'' := bk2'.below x13
  have bt' := bt.below x13
  clear K1 K2 K3 u1 u2 x1 x2 x3 x12 x13 bk1' bk2' bt bw1 r1
  have E1 : ∀ w', Below w4.heap.size w4 w' → Hid _ := fun w' hb => hide (unit_exact w' _ _ _ (u1'.below hb))
  have E2 : ∀ w', Below w4.heap.size w4 w' → Hid _ := fun w' hb => hide (unit_exact w' _ _ _ (u2'.below hb))
  have E3 : ∀ w', Below w4.heap.size w4 w' → Hid _ := fun w' hb => hide (unit_exact w' _ _ _ (u3.below hb))
  have SS1 := hide (fun w' (hb : Below w4.heap.size w4 w') => unit_small w' _ _ _ (u1'.below hb) (by omega))
  have SS2 := hide (fun w' (hb : Below w4.heap.size w4 w') => unit_small w' _ _ _ (u2'.below hb) (by omega))
  have SS3 := hide (fun w' (hb : Below w4.heap.size w4 w') => unit_small w' _ _ _ (u3.below hb) (by omega))
  obtain ⟨A1, B1, ⟨a1, n1, c1, a2, n2, c2, a3, n3, c3, rfl, -⟩, -⟩ := u1'
  obtain ⟨A2, B2, ⟨a4, n4, c4, a5, n5, c5, a6, n6, c6, rfl, -⟩, -⟩ := u2'
  obtain ⟨A3, B3, ⟨a7, n7, c7, a8, n8, c8, a9, n9, c9, rfl, -⟩, -⟩ := u3
  generalize Y1 / 10 ^ c = y1 at *
  generalize Y2 / 10 ^ c = y2 at *
  generalize Y3 / 10 ^ c = y3 at *
  generalize hx1 : decide (Y1 % 10 ^ c = 0) = ex1 at *
  generalize hx2 : decide (Y2 % 10 ^ c = 0) = ex2 at *
  generalize hx3 : decide (Y3 % 10 ^ c = 0) = ex3 at *
  have HX := hide (And.intro hx1 (And.intro hx2 hx3))
  clear hx1 hx2 hx3
  go_upto_region 7 with fail
  have g8 := ((blk_alloc w4 #[.slice a1 n1 c1, .slice a2 n2 c2, .slice a3 n3 c3] 80).alloc (.cells #[.slice a4 n4 c4, .slice a5 n5 c5, .slice a6 n6 c6] 80)).alloc (.cells #[.slice a7 n7 c7, .slice a8 n8 c8, .slice a9 n9 c9] 80)
  have g9 := (blk_alloc (w4.alloc (.cells #[.slice a1 n1 c1, .slice a2 n2 c2, .slice a3 n3 c3] 80)) #[.slice a4 n4 c4, .slice a5 n5 c5, .slice a6 n6 c6] 80).alloc (.cells #[.slice a7 n7 c7, .slice a8 n8 c8, .slice a9 n9 c9] 80)
  have g10 := blk_alloc ((w4.alloc (.cells #[.slice a1 n1 c1, .slice a2 n2 c2, .slice a3 n3 c3] 80)).alloc (.cells #[.slice a4 n4 c4, .slice a5 n5 c5, .slice a6 n6 c6] 80)) #[.slice a7 n7 c7, .slice a8 n8 c8, .slice a9 n9 c9] 80
  rw [alloc_size] at g9
  rw [alloc_size, alloc_size] at g10
  have b7 : Below w4.heap.size w4 (((w4.alloc (.cells #[.slice a1 n1 c1, .slice a2 n2 c2, .slice a3 n3 c3] 80)).alloc (.cells #[.slice a4 n4 c4, .slice a5 n5 c5, .slice a6 n6 c6] 80)).alloc (.cells #[.slice a7 n7 c7, .slice a8 n8 c8, .slice a9 n9 c9] 80)) := (((Below.refl _ _).alloc (Nat.le_refl _) _).alloc (by rw [alloc_size]; omega) _).alloc (by rw [alloc_size, alloc_size]; omega) _
  generalize ((w4.alloc (.cells #[.slice a1 n1 c1, .slice a2 n2 c2, .slice a3 n3 c3] 80)).alloc (.cells #[.slice a4 n4 c4, .slice a5 n5 c5, .slice a6 n6 c6] 80)).alloc (.cells #[.slice a7 n7 c7, .slice a8 n8 c8, .slice a9 n9 c9] 80) = w7 at *
  have gT := bt'.below b7
  have gR := bk2''.below b7
  have bw7 := bw4.trans (b7.mono bw4.size)
  go_cut [11] from 42 to 55 (fun s11 wx => ∃ b, s11 = .pointer (some ⟨b, 0, none⟩) ∧ w7.heap.size ≤ b ∧ Below w7.heap.size w7 wx ∧ Blk wx b #[.int .u64 (y1 : Int), .int .u64 (y2 : Int), .int .u64 (y3 : Int), .bool !ex2, .int .i64 t] 47)
  case first =>
    change Code.wp Tryd.prog (Code.region 7 ops7 true) _ _ _
    refine span7 (w4.heap.size) (w4.heap.size + 1) (w4.heap.size + 1 + 1) bT a1 a2 a3 a4 a5 a6 a7 a8 a9 n1 c1 n2 c2 n3 c3 n4 c4 n5 c5 n6 c6 n7 c7 n8 c8 n9 c9 y1 y2 y3 t ex2 ?_ ?_ ?_ ?_ ?_ g8 g9 g10 gT ?_ ?_ ?_ ?_ ?_
    · rfl
    · rfl
    · rfl
    · rfl
    · rfl
    · intro w' hb
      exact unhide SS1 w' (b7.trans (hb.mono b7.size)) _ _ _ _ _ rfl
    · intro w' hb
      exact unhide SS2 w' (b7.trans (hb.mono b7.size)) _ _ _ _ _ rfl
    · intro w' hb
      exact unhide SS3 w' (b7.trans (hb.mono b7.size)) _ _ _ _ _ rfl
    · intro w' hb
      exact unhide (E2 w' (b7.trans (hb.mono b7.size)))
    · intro b wF q1 q2 q3
      simp only [vals7, List.foldl, Act.put, List.setIfInBounds_toArray, List.set_cons_succ, List.set_cons_zero]
      go_wp2_with fail
      go_meet
      case rel => exact ⟨b, rfl, q1, q2, q3⟩
  case rest =>
  obtain ⟨b, rfl, hb, bx, kb⟩ := hcut
  obtain ⟨od, hod⟩ : ∃ od : Bool, od = decide (m % 2 = 1) := ⟨_, rfl⟩
  have ODD : (mI % 2 == 1) = od := by
    rw [unhide HPAR, hod]
    by_cases h : m % 2 = 1
    · rw [h]; rfl
    · rw [decide_eq_false h]
      exact beq_false_of_ne (by omega)
  obtain ⟨lo, hlo⟩ : ∃ lo : Nat, lo = y1 + (if (od || !ex1) then 1 else 0) := ⟨_, rfl⟩
  obtain ⟨hi, hhi⟩ : ∃ hi : Nat, hi = y3 - (if (od && ex3) then 1 else 0) := ⟨_, rfl⟩
  have HLO := hide hlo
  have HHI := hide hhi
  have HOD := hide hod
  have y1b : (0 : Int) ≤ (y1 : Int) ∧ (y1 : Int) < 9000000000000000000 := by omega
  have y3b : (1 : Int) ≤ (y3 : Int) ∧ (y3 : Int) < 9000000000000000000 := by omega
  obtain ⟨y1b1, y1b2⟩ := y1b
  obtain ⟨y3b1, y3b2⟩ := y3b
  have ne1 : w.heap.size + 1 < w7.heap.size := gR.lt
  have bws := bw7.size
  clear hlo hhi hod SS1 SS2 SS3 E2 HPAR
  go_upto_region 9 with fail
  clear ODD
  go_cut [64] from 56 to 63 (fun s64 wx => s64 = .bool (od || !ex1) ∧ Below w7.heap.size w7 wx ∧ Blk wx b #[.int .u64 (y1 : Int), .int .u64 (y2 : Int), .int .u64 (y3 : Int), .bool !ex2, .int .i64 t] 47)
  case first =>
    cases od with
    | true =>
      go_wp2
      go_meet
      case rel => exact ⟨rfl, bx, kb⟩
    | false =>
      have q0 := (g8.below bx).cell 0 _ rfl
      have q1 := (g8.below bx).cell 1 _ rfl
      have q2 := (g8.below bx).cell 2 _ rfl
      have K := E1 wc (b7.trans (bx.mono b7.size))
      go_wp2_with fail
      refine (unhide K).mono ?_
      rintro r w8 ⟨rfl, b8⟩
      go_wp2
      go_meet
      case rel => exact ⟨rfl, bx.trans (b8.mono bx.size), kb.below b8⟩
  case rest =>
  obtain ⟨rfl, bx2, kb2⟩ := hcut
  clear bx kb
  go_upto_if 64 with fail
  go_cut [] from 59 to 68 (fun wx => Below w7.heap.size w7 wx ∧ Blk wx b #[.int .u64 (lo : Int), .int .u64 (y2 : Int), .int .u64 (y3 : Int), .bool !ex2, .int .i64 t] 47)
  case first =>
    cases hx : (od || !ex1) with
    | true =>
      have HL : Hid ((lo : Int) = (y1 : Int) + 1) := hide (by have := unhide HLO; rw [hx, if_pos rfl] at this; omega)
      have q0 := kb2.cell 0 _ rfl
      have z0 := kb2.froz 0
      have k0 := kb2.set 0 (.int .u64 ((y1 : Int) + 1))
      have K0 : Hid (Blk (_) b #[.int .u64 ((y1 : Int) + 1), .int .u64 (y2 : Int), .int .u64 (y3 : Int), .bool !ex2, .int .i64 t] 47) := hide (by simpa using k0)
      have B0 := hide (bx2.setCell (p := ⟨b, 0, none⟩) hb (.int .u64 ((y1 : Int) + 1)))
      clear k0 hx
      go_wp2
      go_meet
      case rel => exact ⟨unhide B0, by rw [unhide HL]; exact unhide K0⟩
    | false =>
      have HL : Hid (lo = y1) := hide (by have := unhide HLO; rw [hx, if_neg (by decide)] at this; omega)
      go_wp2
      go_meet
      case rel => exact ⟨bx2, by rw [unhide HL]; exact kb2⟩
  case rest =>
  obtain ⟨bx3, kb3⟩ := hcut
  clear bx2 kb2
  go_upto_region 11 with fail
  go_cut [73] from 69 to 72 (fun s73 wx => s73 = .bool (od && ex3) ∧ Below w7.heap.size w7 wx ∧ Blk wx b #[.int .u64 (lo : Int), .int .u64 (y2 : Int), .int .u64 (y3 : Int), .bool !ex2, .int .i64 t] 47)
  case first =>
    cases od with
    | false =>
      go_wp2
      go_meet
      case rel => exact ⟨rfl, bx3, kb3⟩
    | true =>
      have q0 := (g10.below bx3).cell 0 _ rfl
      have q1 := (g10.below bx3).cell 1 _ rfl
      have q2 := (g10.below bx3).cell 2 _ rfl
      have K := E3 wc (b7.trans (bx3.mono b7.size))
      go_wp2_with fail
      refine (unhide K).mono ?_
      rintro r w8 ⟨rfl, b8⟩
      go_wp2
      go_meet
      case rel => exact ⟨rfl, bx3.trans (b8.mono bx3.size), kb3.below b8⟩
  case rest =>
  obtain ⟨rfl, bx4, kb4⟩ := hcut
  clear bx3 kb3
  go_upto_if 73 with fail
  go_cut [] from 12 to 77 (fun wx => Below w7.heap.size w7 wx ∧ Blk wx b #[.int .u64 (lo : Int), .int .u64 (y2 : Int), .int .u64 (hi : Int), .bool !ex2, .int .i64 t] 47)
  case first =>
    cases hx : (od && ex3) with
    | true =>
      have HL : Hid ((hi : Int) = (y3 : Int) - 1) := hide (by have := unhide HHI; rw [hx, if_pos rfl] at this; omega)
      have q0 := kb4.cell 2 _ rfl
      have z0 := kb4.froz 2
      have k0 := kb4.set 2 (.int .u64 ((y3 : Int) - 1))
      have K0 : Hid (Blk (_) b #[.int .u64 (lo : Int), .int .u64 (y2 : Int), .int .u64 ((y3 : Int) - 1), .bool !ex2, .int .i64 t] 47) := hide (by simpa using k0)
      have B0 := hide (bx4.setCell (p := ⟨b, 2, none⟩) hb (.int .u64 ((y3 : Int) - 1)))
      clear k0 hx
      go_wp2
      go_meet
      case rel => exact ⟨unhide B0, by rw [unhide HL]; exact unhide K0⟩
    | false =>
      have HL : Hid (hi = y3) := hide (by have := unhide HHI; rw [hx, if_neg (by decide)] at this; omega)
      go_wp2
      go_meet
      case rel => exact ⟨bx4, by rw [unhide HL]; exact kb4⟩
  case rest =>
  obtain ⟨bx5, kb5⟩ := hcut
  clear bx4 kb4
  have gR' := gR.below bx5
  have bw8 := bw7.trans (bx5.mono bw7.size)
  have FIN1 : Hid ((lo : Int) = RL) := hide (by
    have a := unhide HLO
    obtain ⟨q1, q2, q3⟩ := unhide HX
    rw [← unhide HRL, a, unhide HOD, ← q1]
    by_cases u : m % 2 = 1 <;> by_cases v : Y1 % 10 ^ c = 0 <;> simp [u, v])
  have FIN3 : Hid ((hi : Int) = RH) := hide (by
    have a := unhide HHI
    obtain ⟨q1, q2, q3⟩ := unhide HX
    rw [← unhide HRH, a, unhide HOD, ← q3]
    by_cases u : m % 2 = 1 <;> by_cases v : Y3 % 10 ^ c = 0 <;> simp [u, v])
  have FIN2 : Hid ((y2 : Int) = RM) := HRM
  have FINX : Hid ((!ex2) = RX) := HRX
  clear HRL HRM HRH HRX
  clear HLO HHI HOD HX HBL HT ltb ltc gR g8 g9 g10 gT E1 E3 bw7 bx5 b7
  clear y1b1 y1b2 y3b1 y3b2 hb1 hb2 hb3 hb4 mI1 mI2 hb bI1 bI2 bws bk2'' bt' bw4 hm hm0 h1 h2 f1 f2 t1 t2 hbl1 hbl2
  go_upto_region 13 with fail
  refine span13 _ _ 11 4 78 b (w.heap.size + 1) _ _ _ _ _ (lo : Int) (y2 : Int) (hi : Int) t (!ex2) ?_ (by decide) ?_ ?_ kb5 gR' ?_ 13 _ _ _ _
  · exact Nat.lt_of_lt_of_eq (by decide : 78 < 79) rfl
  · rfl
  · rfl
  intro w9 b9 k9
  have BB := hide (bw8.trans (b9.mono (Nat.le_succ _)))
  have r0 := k9.cell 0 _ rfl
  have r1 := k9.cell 1 _ rfl
  have r2 := k9.cell 2 _ rfl
  have r3 := k9.cell 3 _ rfl
  have r4 := k9.cell 4 _ rfl
  clear b9 k9 kb5 gR' bw8
  have FF := hide (And.intro (unhide FIN1) (And.intro (unhide FIN2) (And.intro (unhide FIN3) (unhide FINX))))
  rw [unhide FIN1] at r0
  rw [unhide FIN2] at r1
  rw [unhide FIN3] at r2
  rw [unhide FINX] at r3
  clear FF FIN1 FIN2 FIN3 FINX
  go_wp2
  refine bodyPost_ret (v := .agg #[.int .u64 RL, .int .u64 RM, .int .u64 RH, .bool RX, .int .i64 t]) (by simp [results, Tryd.results23, go_sem, Act.put, r0, r1, r2, r3, r4]) rfl ?_
  exact ⟨rfl, unhide BB⟩
end Go.Proofs.YtobbbhmkcmbekaaDoor.bigs
