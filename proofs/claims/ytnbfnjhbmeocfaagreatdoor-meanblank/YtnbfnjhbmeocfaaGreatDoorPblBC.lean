/- Of our texts, what this claim reaches. -/
import Derived.Test.YtnbfnjhbmeocfaaGreatDoorPblAN
import Derived.Test.YtnbfnjhbmeocfaaGreatDoorPblAQ
import Derived.Test.YtnbfnjhbmeocfaaGreatDoorPblAT
import Derived.Test.YtnbfnjhbmeocfaaGreatDoorPblBB
import Derived.Test.YtnbfnjhbmeocfaaGreatDoorPblAI
import Derived.Test.YtnbfnjhbmeocfaaGreatDoorPblAH
set_option linter.unusedVariables false
set_option maxHeartbeats 8000000
set_option maxRecDepth 100000
namespace Go.Proofs.YtnbfnjhbmeocfaaGreatDoor.valus
open Go.RowKit Go.Shelf
open bigs (numRes readN_any readW_any ReadsTo)
theorem results_uw {w : World} {B : Nat} {u0 u1 u2 u3 u4 u5 : Value} {x : Int} (tmps : Array Value) (h : Blk w B #[u0, u1, u2, u3, u4, u5] 26) (ht : tmps[4]? = some (.pointer (some ⟨B, 0, none⟩)) := by rfl) (hx : tmps[5]? = some (.int .i64 x) := by rfl) : (results Tryz.f25 tmps).run Tryz.prog w = .ok (.tuple #[.agg #[u0, u1, u2, u3, u4, u5], .int .i64 x]) w := by
 obtain ⟨c0, c1, c2, c3, c4, c5⟩ := h.cells6
 simp [results, Tryz.f25, ht, hx, go_sem, c0, c1, c2, c3, c4, c5]
theorem results_word {w : World} {B : Nat} {u0 u1 u2 u3 u4 u5 : Value} {x : Int} (tmps : Array Value) (h : Blk w B #[u0, u1, u2, u3, u4, u5] 26) (ht : tmps[2]? = some (.pointer (some ⟨B, 0, none⟩)) := by rfl) (hx : tmps[3]? = some (.int .i64 x) := by rfl) : (results Tryz.f9 tmps).run Tryz.prog w = .ok (.tuple #[.agg #[u0, u1, u2, u3, u4, u5], .int .i64 x]) w := by
 obtain ⟨c0, c1, c2, c3, c4, c5⟩ := h.cells6
 simp [results, Tryz.f9, ht, hx, go_sem, c0, c1, c2, c3, c4, c5]
theorem uw_ok (w : World) (k n : Int) (b : Nat) (z : ByteArray) : Calls Tryz.prog 25 #[.agg #[.int .i64 k, .int .i64 n, .int .u64 (b : Int), .string z, .slice none 0 0, .slice none 0 0], .int .i64 0] w fun e w' => e = .returned (.tuple #[.agg #[.int .i64 k, .int .i64 n, .int .u64 (b : Int), .string z, .slice none 0 0, .slice none 0 0], .int .i64 0]) ∧ Below w.heap.size w w' := by
 have bP : Below w.heap.size w ((w.alloc (.cells #[.int .i64 k, .int .i64 n, .int .u64 (b : Int), .string z, .slice none 0 0, .slice none 0 0] 26)).alloc (.cells #[.int .i64 0, .int .i64 0, .int .u64 0, .string ⟨#[]⟩, .slice none 0 0, .slice none 0 0] 26)) := ((Below.refl _ w).alloc (Nat.le_refl _) _).alloc (by simp) _
 have hv : Blk ((w.alloc (.cells #[.int .i64 k, .int .i64 n, .int .u64 (b : Int), .string z, .slice none 0 0, .slice none 0 0] 26)).alloc (.cells #[.int .i64 0, .int .i64 0, .int .u64 0, .string ⟨#[]⟩, .slice none 0 0, .slice none 0 0] 26)) w.heap.size #[.int .i64 k, .int .i64 n, .int .u64 (b : Int), .string z, .slice none 0 0, .slice none 0 0] 26 := (blk_alloc w _ _).alloc _
 have hr : Blk ((w.alloc (.cells #[.int .i64 k, .int .i64 n, .int .u64 (b : Int), .string z, .slice none 0 0, .slice none 0 0] 26)).alloc (.cells #[.int .i64 0, .int .i64 0, .int .u64 0, .string ⟨#[]⟩, .slice none 0 0, .slice none 0 0] 26)) (w.heap.size + 1) #[.int .i64 0, .int .i64 0, .int .u64 0, .string ⟨#[]⟩, .slice none 0 0, .slice none 0 0] 26 := by
  have h := blk_alloc (w.alloc (.cells #[.int .i64 k, .int .i64 n, .int .u64 (b : Int), .string z, .slice none 0 0, .slice none 0 0] 26)) #[.int .i64 0, .int .i64 0, .int .u64 0, .string ⟨#[]⟩, .slice none 0 0, .slice none 0 0] 26
  rwa [World.size_alloc] at h
 go_enter Tryz.func25, Tryz.ntmps25
 go_upto_region 3 with fail
 generalize (w.alloc (.cells #[.int .i64 k, .int .i64 n, .int .u64 (b : Int), .string z, .slice none 0 0, .slice none 0 0] 26)).alloc (.cells #[.int .i64 0, .int .i64 0, .int .u64 0, .string ⟨#[]⟩, .slice none 0 0, .slice none 0 0] 26) = P at *
 have hY := put6_blk hr (.int .i64 k) (.int .i64 n) (.int .u64 (b : Int)) (.string z) (.slice none 0 0) (.slice none 0 0)
 have HY := hide hY
 have HF := hide (below_put6 bP (b := w.heap.size + 1) (Nat.le_succ _) (.int .i64 k) (.int .i64 n) (.int .u64 (b : Int)) (.string z) (.slice none 0 0) (.slice none 0 0))
 have x0 := hr.cell 0 _ rfl
 have x1 := hr.cell 1 _ rfl
 have x2 := hr.cell 2 _ rfl
 have x3 := hr.cell 3 _ rfl
 have x4 := hr.cell 4 _ rfl
 have x5 := hr.cell 5 _ rfl
 have z0 := Blk.froz hr 0
 have z1 := Blk.froz hr 1
 have z2 := Blk.froz hr 2
 have z3 := Blk.froz hr 3
 have z4 := Blk.froz hr 4
 have z5 := Blk.froz hr 5
 have q0 := hv.cell 0 _ rfl
 have q1 := hv.cell 1 _ rfl
 have q2 := hv.cell 2 _ rfl
 have q3 := hv.cell 3 _ rfl
 have q4 := hv.cell 4 _ rfl
 have q5 := hv.cell 5 _ rfl
 clear hY
 go_wp2
 have hY := HY.out
 have hF := HF.out
 clear HY HF x0 x1 x2 x3 x4 x5 z0 z1 z2 z3 z4 z5 q0 q1 q2 q3 q4 q5
 generalize hXX : put6 P (w.heap.size + 1) (.int .i64 k) (.int .i64 n) (.int .u64 (b : Int)) (.string z) (.slice none 0 0) (.slice none 0 0) = Y at hY hF
 simp only [put6] at hXX
 rw [hXX]
 clear hXX
 exact bodyPost_ret (results_uw _ hY) rfl ⟨rfl, hF⟩
theorem uw_bad (w : World) (k n : Int) (b : Nat) (z : ByteArray) (er : Int) (he : (er != 0) = true) : Calls Tryz.prog 25 #[.agg #[.int .i64 k, .int .i64 n, .int .u64 (b : Int), .string z, .slice none 0 0, .slice none 0 0], .int .i64 er] w fun e w' => e = .returned (.tuple #[.agg #[.int .i64 0, .int .i64 0, .int .u64 0, .string ⟨#[]⟩, .slice none 0 0, .slice none 0 0], .int .i64 er]) ∧ Below w.heap.size w w' := by
 have bP : Below w.heap.size w ((w.alloc (.cells #[.int .i64 k, .int .i64 n, .int .u64 (b : Int), .string z, .slice none 0 0, .slice none 0 0] 26)).alloc (.cells #[.int .i64 0, .int .i64 0, .int .u64 0, .string ⟨#[]⟩, .slice none 0 0, .slice none 0 0] 26)) := ((Below.refl _ w).alloc (Nat.le_refl _) _).alloc (by simp) _
 have hv : Blk ((w.alloc (.cells #[.int .i64 k, .int .i64 n, .int .u64 (b : Int), .string z, .slice none 0 0, .slice none 0 0] 26)).alloc (.cells #[.int .i64 0, .int .i64 0, .int .u64 0, .string ⟨#[]⟩, .slice none 0 0, .slice none 0 0] 26)) w.heap.size #[.int .i64 k, .int .i64 n, .int .u64 (b : Int), .string z, .slice none 0 0, .slice none 0 0] 26 := (blk_alloc w _ _).alloc _
 have hr : Blk ((w.alloc (.cells #[.int .i64 k, .int .i64 n, .int .u64 (b : Int), .string z, .slice none 0 0, .slice none 0 0] 26)).alloc (.cells #[.int .i64 0, .int .i64 0, .int .u64 0, .string ⟨#[]⟩, .slice none 0 0, .slice none 0 0] 26)) (w.heap.size + 1) #[.int .i64 0, .int .i64 0, .int .u64 0, .string ⟨#[]⟩, .slice none 0 0, .slice none 0 0] 26 := by
  have h := blk_alloc (w.alloc (.cells #[.int .i64 k, .int .i64 n, .int .u64 (b : Int), .string z, .slice none 0 0, .slice none 0 0] 26)) #[.int .i64 0, .int .i64 0, .int .u64 0, .string ⟨#[]⟩, .slice none 0 0, .slice none 0 0] 26
  rwa [World.size_alloc] at h
 clear hv
 go_enter Tryz.func25, Tryz.ntmps25
 go_upto_region 2 with fail
 generalize (w.alloc (.cells #[.int .i64 k, .int .i64 n, .int .u64 (b : Int), .string z, .slice none 0 0, .slice none 0 0] 26)).alloc (.cells #[.int .i64 0, .int .i64 0, .int .u64 0, .string ⟨#[]⟩, .slice none 0 0, .slice none 0 0] 26) = P at *
 have hY := put6_blk hr (.int .i64 0) (.int .i64 0) (.int .u64 0) (.string ⟨#[]⟩) (.slice none 0 0) (.slice none 0 0)
 have HY := hide hY
 have HF := hide (below_put6 bP (b := w.heap.size + 1) (Nat.le_succ _) (.int .i64 0) (.int .i64 0) (.int .u64 0) (.string ⟨#[]⟩) (.slice none 0 0) (.slice none 0 0))
 have x0 := hr.cell 0 _ rfl
 have x1 := hr.cell 1 _ rfl
 have x2 := hr.cell 2 _ rfl
 have x3 := hr.cell 3 _ rfl
 have x4 := hr.cell 4 _ rfl
 have x5 := hr.cell 5 _ rfl
 have z0 := Blk.froz hr 0
 have z1 := Blk.froz hr 1
 have z2 := Blk.froz hr 2
 have z3 := Blk.froz hr 3
 have z4 := Blk.froz hr 4
 have z5 := Blk.froz hr 5
 clear hY
 go_wp2
 have hY := HY.out
 have hF := HF.out
 clear HY HF x0 x1 x2 x3 x4 x5 z0 z1 z2 z3 z4 z5 
 generalize hXX : put6 P (w.heap.size + 1) (.int .i64 0) (.int .i64 0) (.int .u64 0) (.string ⟨#[]⟩) (.slice none 0 0) (.slice none 0 0) = Y at hY hF
 simp only [put6] at hXX
 rw [hXX]
 clear hXX
 exact bodyPost_ret (results_uw _ hY) rfl ⟨rfl, hF⟩
theorem word_null (w : World) (s : ByteArray) (t1 : (s.toList == [110, 117, 108, 108]) = true) : Calls Tryz.prog 9 #[.string s] w fun e w' => e = .returned (.tuple #[.agg #[.int .i64 0, .int .i64 0, .int .u64 0, .string ⟨#[]⟩, .slice none 0 0, .slice none 0 0], .int .i64 0]) ∧ Below w.heap.size w w' := by
 have bP : Below w.heap.size w (w.alloc (.cells #[.int .i64 0, .int .i64 0, .int .u64 0, .string ⟨#[]⟩, .slice none 0 0, .slice none 0 0] 26)) := (Below.refl _ w).alloc (Nat.le_refl _) _
 have hr := blk_alloc w #[.int .i64 0, .int .i64 0, .int .u64 0, .string ⟨#[]⟩, .slice none 0 0, .slice none 0 0] 26
 go_enter Tryz.func9, Tryz.ntmps9
 go_upto_region 3 with fail
 generalize w.alloc (.cells #[.int .i64 0, .int .i64 0, .int .u64 0, .string ⟨#[]⟩, .slice none 0 0, .slice none 0 0] 26) = P at *
 have hY := put6_blk hr (.int .i64 0) (.int .i64 0) (.int .u64 0) (.string ⟨#[]⟩) (.slice none 0 0) (.slice none 0 0)
 have HY := hide hY
 have HF := hide (below_put6 bP (b := w.heap.size) (Nat.le_refl _) (.int .i64 0) (.int .i64 0) (.int .u64 0) (.string ⟨#[]⟩) (.slice none 0 0) (.slice none 0 0))
 have x0 := hr.cell 0 _ rfl
 have x1 := hr.cell 1 _ rfl
 have x2 := hr.cell 2 _ rfl
 have x3 := hr.cell 3 _ rfl
 have x4 := hr.cell 4 _ rfl
 have x5 := hr.cell 5 _ rfl
 have z0 := Blk.froz hr 0
 have z1 := Blk.froz hr 1
 have z2 := Blk.froz hr 2
 have z3 := Blk.froz hr 3
 have z4 := Blk.froz hr 4
 have z5 := Blk.froz hr 5
 clear hY
 go_wp2
 have hY := HY.out
 have hF := HF.out
 clear HY HF x0 x1 x2 x3 x4 x5 z0 z1 z2 z3 z4 z5 
 generalize hXX : put6 P w.heap.size (.int .i64 0) (.int .i64 0) (.int .u64 0) (.string ⟨#[]⟩) (.slice none 0 0) (.slice none 0 0) = Y at hY hF
 simp only [put6] at hXX
 rw [hXX]
 clear hXX
 exact bodyPost_ret (results_word _ hY) rfl ⟨rfl, hF⟩
theorem word_false (w : World) (s : ByteArray) (t1 : (s.toList == [110, 117, 108, 108]) = false) (t2 : (s.toList == [102, 97, 108, 115, 101]) = true) : Calls Tryz.prog 9 #[.string s] w fun e w' => e = .returned (.tuple #[.agg #[.int .i64 1, .int .i64 0, .int .u64 0, .string ⟨#[]⟩, .slice none 0 0, .slice none 0 0], .int .i64 0]) ∧ Below w.heap.size w w' := by
 have bP : Below w.heap.size w (w.alloc (.cells #[.int .i64 0, .int .i64 0, .int .u64 0, .string ⟨#[]⟩, .slice none 0 0, .slice none 0 0] 26)) := (Below.refl _ w).alloc (Nat.le_refl _) _
 have hr := blk_alloc w #[.int .i64 0, .int .i64 0, .int .u64 0, .string ⟨#[]⟩, .slice none 0 0, .slice none 0 0] 26
 go_enter Tryz.func9, Tryz.ntmps9
 go_upto_region 5 with fail
 generalize w.alloc (.cells #[.int .i64 0, .int .i64 0, .int .u64 0, .string ⟨#[]⟩, .slice none 0 0, .slice none 0 0] 26) = P at *
 have hY := put6_blk hr (.int .i64 1) (.int .i64 0) (.int .u64 0) (.string ⟨#[]⟩) (.slice none 0 0) (.slice none 0 0)
 have HY := hide hY
 have HF := hide (below_put6 bP (b := w.heap.size) (Nat.le_refl _) (.int .i64 1) (.int .i64 0) (.int .u64 0) (.string ⟨#[]⟩) (.slice none 0 0) (.slice none 0 0))
 have x0 := hr.cell 0 _ rfl
 have x1 := hr.cell 1 _ rfl
 have x2 := hr.cell 2 _ rfl
 have x3 := hr.cell 3 _ rfl
 have x4 := hr.cell 4 _ rfl
 have x5 := hr.cell 5 _ rfl
 have z0 := Blk.froz hr 0
 have z1 := Blk.froz hr 1
 have z2 := Blk.froz hr 2
 have z3 := Blk.froz hr 3
 have z4 := Blk.froz hr 4
 have z5 := Blk.froz hr 5
 clear hY
 go_wp2
 have hY := HY.out
 have hF := HF.out
 clear HY HF x0 x1 x2 x3 x4 x5 z0 z1 z2 z3 z4 z5 
 generalize hXX : put6 P w.heap.size (.int .i64 1) (.int .i64 0) (.int .u64 0) (.string ⟨#[]⟩) (.slice none 0 0) (.slice none 0 0) = Y at hY hF
 simp only [put6] at hXX
 rw [hXX]
 clear hXX
 exact bodyPost_ret (results_word _ hY) rfl ⟨rfl, hF⟩
theorem word_true (w : World) (s : ByteArray) (t1 : (s.toList == [110, 117, 108, 108]) = false) (t2 : (s.toList == [102, 97, 108, 115, 101]) = false) (t3 : (s.toList == [116, 114, 117, 101]) = true) : Calls Tryz.prog 9 #[.string s] w fun e w' => e = .returned (.tuple #[.agg #[.int .i64 1, .int .i64 1, .int .u64 0, .string ⟨#[]⟩, .slice none 0 0, .slice none 0 0], .int .i64 0]) ∧ Below w.heap.size w w' := by
 have bP : Below w.heap.size w (w.alloc (.cells #[.int .i64 0, .int .i64 0, .int .u64 0, .string ⟨#[]⟩, .slice none 0 0, .slice none 0 0] 26)) := (Below.refl _ w).alloc (Nat.le_refl _) _
 have hr := blk_alloc w #[.int .i64 0, .int .i64 0, .int .u64 0, .string ⟨#[]⟩, .slice none 0 0, .slice none 0 0] 26
 go_enter Tryz.func9, Tryz.ntmps9
 go_upto_region 7 with fail
 generalize w.alloc (.cells #[.int .i64 0, .int .i64 0, .int .u64 0, .string ⟨#[]⟩, .slice none 0 0, .slice none 0 0] 26) = P at *
 have hY := put6_blk hr (.int .i64 1) (.int .i64 1) (.int .u64 0) (.string ⟨#[]⟩) (.slice none 0 0) (.slice none 0 0)
 have HY := hide hY
 have HF := hide (below_put6 bP (b := w.heap.size) (Nat.le_refl _) (.int .i64 1) (.int .i64 1) (.int .u64 0) (.string ⟨#[]⟩) (.slice none 0 0) (.slice none 0 0))
 have x0 := hr.cell 0 _ rfl
 have x1 := hr.cell 1 _ rfl
 have x2 := hr.cell 2 _ rfl
 have x3 := hr.cell 3 _ rfl
 have x4 := hr.cell 4 _ rfl
 have x5 := hr.cell 5 _ rfl
 have z0 := Blk.froz hr 0
 have z1 := Blk.froz hr 1
 have z2 := Blk.froz hr 2
 have z3 := Blk.froz hr 3
 have z4 := Blk.froz hr 4
 have z5 := Blk.froz hr 5
 clear hY
 go_wp2
 have hY := HY.out
 have hF := HF.out
 clear HY HF x0 x1 x2 x3 x4 x5 z0 z1 z2 z3 z4 z5 
 generalize hXX : put6 P w.heap.size (.int .i64 1) (.int .i64 1) (.int .u64 0) (.string ⟨#[]⟩) (.slice none 0 0) (.slice none 0 0) = Y at hY hF
 simp only [put6] at hXX
 rw [hXX]
 clear hXX
 exact bodyPost_ret (results_word _ hY) rfl ⟨rfl, hF⟩
theorem word_num (w : World) (s : ByteArray) (t1 : (s.toList == [110, 117, 108, 108]) = false) (t2 : (s.toList == [102, 97, 108, 115, 101]) = false) (t3 : (s.toList == [116, 114, 117, 101]) = false) (n : Int) (hnum : numRes s.data.toList = (n, 0)) : Calls Tryz.prog 9 #[.string s] w fun e w' => e = .returned (.tuple #[.agg #[.int .i64 2, .int .i64 n, .int .u64 0, .string ⟨#[]⟩, .slice none 0 0, .slice none 0 0], .int .i64 0]) ∧ Below w.heap.size w w' := by
 have bP : Below w.heap.size w (w.alloc (.cells #[.int .i64 0, .int .i64 0, .int .u64 0, .string ⟨#[]⟩, .slice none 0 0, .slice none 0 0] 26)) := (Below.refl _ w).alloc (Nat.le_refl _) _
 have hr := blk_alloc w #[.int .i64 0, .int .i64 0, .int .u64 0, .string ⟨#[]⟩, .slice none 0 0, .slice none 0 0] 26
 have sP : (w.alloc (.cells #[.int .i64 0, .int .i64 0, .int .u64 0, .string ⟨#[]⟩, .slice none 0 0, .slice none 0 0] 26)).heap.size = w.heap.size + 1 := by simp
 have HN := hide (readN_any (w.alloc (.cells #[.int .i64 0, .int .i64 0, .int .u64 0, .string ⟨#[]⟩, .slice none 0 0, .slice none 0 0] 26)) s)
 rw [hnum] at HN
 have HB := hide (And.intro bP (And.intro hr sP))
 clear bP hr sP
 go_enter Tryz.func9, Tryz.ntmps9
 go_upto_region 9 with (go_at_call 24; refine (unhide HN).mono ?_; rintro e w2 ⟨rfl, h2⟩; rw [h2]; clear h2)
 obtain ⟨bP, hr, sP⟩ := HB.out
 generalize w.alloc (.cells #[.int .i64 0, .int .i64 0, .int .u64 0, .string ⟨#[]⟩, .slice none 0 0, .slice none 0 0] 26) = P at *
 have HU := hide (uw_ok P 2 n 0 ⟨#[]⟩)
 have HB2 := hide (And.intro bP hr)
 clear bP hr sP HB
 go_wp2_with (fail)
 go_at_call 25
 refine (unhide HU).mono ?_
 rintro e w3 ⟨rfl, b3⟩
 obtain ⟨bP, hr⟩ := HB2.out
 have hr3 := hr.below b3
 have bP3 := bP.trans (b3.mono bP.size)
 clear bP hr HB2 HU b3
 have hY := put6_blk hr3 (.int .i64 2) (.int .i64 n) (.int .u64 0) (.string ⟨#[]⟩) (.slice none 0 0) (.slice none 0 0)
 have HY := hide hY
 have HF := hide (below_put6 bP3 (b := w.heap.size) (Nat.le_refl _) (.int .i64 2) (.int .i64 n) (.int .u64 0) (.string ⟨#[]⟩) (.slice none 0 0) (.slice none 0 0))
 have x0 := hr3.cell 0 _ rfl
 have x1 := hr3.cell 1 _ rfl
 have x2 := hr3.cell 2 _ rfl
 have x3 := hr3.cell 3 _ rfl
 have x4 := hr3.cell 4 _ rfl
 have x5 := hr3.cell 5 _ rfl
 have z0 := Blk.froz hr3 0
 have z1 := Blk.froz hr3 1
 have z2 := Blk.froz hr3 2
 have z3 := Blk.froz hr3 3
 have z4 := Blk.froz hr3 4
 have z5 := Blk.froz hr3 5
 clear hY
 go_wp2
 have hY := HY.out
 have hF := HF.out
 clear HY HF x0 x1 x2 x3 x4 x5 z0 z1 z2 z3 z4 z5 
 generalize hXX : put6 w3 w.heap.size (.int .i64 2) (.int .i64 n) (.int .u64 0) (.string ⟨#[]⟩) (.slice none 0 0) (.slice none 0 0) = Y at hY hF
 simp only [put6] at hXX
 rw [hXX]
 clear hXX
 exact bodyPost_ret (results_word _ hY) rfl ⟨rfl, hF⟩
theorem word_numbad (w : World) (s : ByteArray) (t1 : (s.toList == [110, 117, 108, 108]) = false) (t2 : (s.toList == [102, 97, 108, 115, 101]) = false) (t3 : (s.toList == [116, 114, 117, 101]) = false) (n er : Int) (he : (er != 0) = true) (he4 : (er != 4) = true) (hnum : numRes s.data.toList = (n, er)) : Calls Tryz.prog 9 #[.string s] w fun e w' => e = .returned (.tuple #[.agg #[.int .i64 0, .int .i64 0, .int .u64 0, .string ⟨#[]⟩, .slice none 0 0, .slice none 0 0], .int .i64 er]) ∧ Below w.heap.size w w' := by
 have bP : Below w.heap.size w (w.alloc (.cells #[.int .i64 0, .int .i64 0, .int .u64 0, .string ⟨#[]⟩, .slice none 0 0, .slice none 0 0] 26)) := (Below.refl _ w).alloc (Nat.le_refl _) _
 have hr := blk_alloc w #[.int .i64 0, .int .i64 0, .int .u64 0, .string ⟨#[]⟩, .slice none 0 0, .slice none 0 0] 26
 have sP : (w.alloc (.cells #[.int .i64 0, .int .i64 0, .int .u64 0, .string ⟨#[]⟩, .slice none 0 0, .slice none 0 0] 26)).heap.size = w.heap.size + 1 := by simp
 have HN := hide (readN_any (w.alloc (.cells #[.int .i64 0, .int .i64 0, .int .u64 0, .string ⟨#[]⟩, .slice none 0 0, .slice none 0 0] 26)) s)
 rw [hnum] at HN
 have HB := hide (And.intro bP (And.intro hr sP))
 clear bP hr sP
 go_enter Tryz.func9, Tryz.ntmps9
 go_upto_region 9 with (go_at_call 24; refine (unhide HN).mono ?_; rintro e w2 ⟨rfl, h2⟩; rw [h2]; clear h2)
 obtain ⟨bP, hr, sP⟩ := HB.out
 generalize w.alloc (.cells #[.int .i64 0, .int .i64 0, .int .u64 0, .string ⟨#[]⟩, .slice none 0 0, .slice none 0 0] 26) = P at *
 have HU := hide (uw_bad P 2 n 0 ⟨#[]⟩ er he)
 have HB2 := hide (And.intro bP hr)
 clear bP hr sP HB
 go_wp2_with (fail)
 go_at_call 25
 refine (unhide HU).mono ?_
 rintro e w3 ⟨rfl, b3⟩
 obtain ⟨bP, hr⟩ := HB2.out
 have hr3 := hr.below b3
 have bP3 := bP.trans (b3.mono bP.size)
 clear bP hr HB2 HU b3
 have hY := put6_blk hr3 (.int .i64 0) (.int .i64 0) (.int .u64 0) (.string ⟨#[]⟩) (.slice none 0 0) (.slice none 0 0)
 have HY := hide hY
 have HF := hide (below_put6 bP3 (b := w.heap.size) (Nat.le_refl _) (.int .i64 0) (.int .i64 0) (.int .u64 0) (.string ⟨#[]⟩) (.slice none 0 0) (.slice none 0 0))
 have x0 := hr3.cell 0 _ rfl
 have x1 := hr3.cell 1 _ rfl
 have x2 := hr3.cell 2 _ rfl
 have x3 := hr3.cell 3 _ rfl
 have x4 := hr3.cell 4 _ rfl
 have x5 := hr3.cell 5 _ rfl
 have z0 := Blk.froz hr3 0
 have z1 := Blk.froz hr3 1
 have z2 := Blk.froz hr3 2
 have z3 := Blk.froz hr3 3
 have z4 := Blk.froz hr3 4
 have z5 := Blk.froz hr3 5
 clear hY
 go_wp2
 have hY := HY.out
 have hF := HF.out
 clear HY HF x0 x1 x2 x3 x4 x5 z0 z1 z2 z3 z4 z5 
 generalize hXX : put6 w3 w.heap.size (.int .i64 0) (.int .i64 0) (.int .u64 0) (.string ⟨#[]⟩) (.slice none 0 0) (.slice none 0 0) = Y at hY hF
 simp only [put6] at hXX
 rw [hXX]
 clear hXX
 exact bodyPost_ret (results_word _ hY) rfl ⟨rfl, hF⟩
theorem word_float (w : World) (s : ByteArray) (t1 : (s.toList == [110, 117, 108, 108]) = false) (t2 : (s.toList == [102, 97, 108, 115, 101]) = false) (t3 : (s.toList == [116, 114, 117, 101]) = false) (hs2 : s.size ≤ 140737488355328) (n : Int) (hnum : numRes s.data.toList = (n, 4)) : Calls Tryz.prog 9 #[.string s] w fun e w' => (∃ (v : Nat) (x : Int), ReadsTo s.data.toList v x ∧ ((x = 0 ∧ e = .returned (.tuple #[.agg #[.int .i64 3, .int .i64 0, .int .u64 (v : Int), .string ⟨#[]⟩, .slice none 0 0, .slice none 0 0], .int .i64 0])) ∨ (x ≠ 0 ∧ e = .returned (.tuple #[.agg #[.int .i64 0, .int .i64 0, .int .u64 0, .string ⟨#[]⟩, .slice none 0 0, .slice none 0 0], .int .i64 x])))) ∧ Below w.heap.size w w' := by
 have bP : Below w.heap.size w (w.alloc (.cells #[.int .i64 0, .int .i64 0, .int .u64 0, .string ⟨#[]⟩, .slice none 0 0, .slice none 0 0] 26)) := (Below.refl _ w).alloc (Nat.le_refl _) _
 have hr := blk_alloc w #[.int .i64 0, .int .i64 0, .int .u64 0, .string ⟨#[]⟩, .slice none 0 0, .slice none 0 0] 26
 have sP : (w.alloc (.cells #[.int .i64 0, .int .i64 0, .int .u64 0, .string ⟨#[]⟩, .slice none 0 0, .slice none 0 0] 26)).heap.size = w.heap.size + 1 := by simp
 have HN := hide (readN_any (w.alloc (.cells #[.int .i64 0, .int .i64 0, .int .u64 0, .string ⟨#[]⟩, .slice none 0 0, .slice none 0 0] 26)) s)
 rw [hnum] at HN
 have HR := hide (readW_any (w.alloc (.cells #[.int .i64 0, .int .i64 0, .int .u64 0, .string ⟨#[]⟩, .slice none 0 0, .slice none 0 0] 26)) s hs2)
 have HB := hide (And.intro bP (And.intro hr sP))
 clear bP hr sP
 go_enter Tryz.func9, Tryz.ntmps9
 go_upto_region 12 with (first | (go_at_call 24; refine (unhide HN).mono ?_; rintro e w2 ⟨rfl, h2⟩; rw [h2]; clear h2) | (go_at_call 26; refine (unhide HR).mono ?_; rintro e w2 ⟨v, x, rfl, hrd, b2⟩))
 obtain ⟨bP, hr, sP⟩ := HB.out
 have HB2 := hide (And.intro (bP.trans (b2.mono (by omega))) (hr.below b2))
 have HRD := hide hrd
 clear b2 sP HB bP hr HN HR hrd
 by_cases hx : x = 0
 ·subst hx
  have HU := hide (uw_ok w2 3 0 v ⟨#[]⟩)
  go_wp2_with (fail)
  go_at_call 25
  refine (unhide HU).mono ?_
  rintro e w3 ⟨rfl, b3⟩
  obtain ⟨bP, hr⟩ := HB2.out
  have hr3 := hr.below b3
  have bP3 := bP.trans (b3.mono bP.size)
  clear bP hr HB2 HU b3
  have hY := put6_blk hr3 (.int .i64 3) (.int .i64 0) (.int .u64 (v : Int)) (.string ⟨#[]⟩) (.slice none 0 0) (.slice none 0 0)
  have HY := hide hY
  have HF := hide (below_put6 bP3 (b := w.heap.size) (Nat.le_refl _) (.int .i64 3) (.int .i64 0) (.int .u64 (v : Int)) (.string ⟨#[]⟩) (.slice none 0 0) (.slice none 0 0))
  have x0 := hr3.cell 0 _ rfl
  have x1 := hr3.cell 1 _ rfl
  have x2 := hr3.cell 2 _ rfl
  have x3 := hr3.cell 3 _ rfl
  have x4 := hr3.cell 4 _ rfl
  have x5 := hr3.cell 5 _ rfl
  have z0 := Blk.froz hr3 0
  have z1 := Blk.froz hr3 1
  have z2 := Blk.froz hr3 2
  have z3 := Blk.froz hr3 3
  have z4 := Blk.froz hr3 4
  have z5 := Blk.froz hr3 5
  clear hY
  go_wp2
  have hY := HY.out
  have hF := HF.out
  clear HY HF x0 x1 x2 x3 x4 x5 z0 z1 z2 z3 z4 z5 
  generalize hXX : put6 w3 w.heap.size (.int .i64 3) (.int .i64 0) (.int .u64 (v : Int)) (.string ⟨#[]⟩) (.slice none 0 0) (.slice none 0 0) = Y at hY hF
  simp only [put6] at hXX
  rw [hXX]
  clear hXX
  exact bodyPost_ret (results_word _ hY) rfl ⟨⟨v, 0, HRD.out, .inl ⟨rfl, rfl⟩⟩, hF⟩
 ·have he : (x != 0) = true := bne_iff_ne.2 hx
  have HX := hide hx
  have HU := hide (uw_bad w2 3 0 v ⟨#[]⟩ x he)
  go_wp2_with (fail)
  go_at_call 25
  refine (unhide HU).mono ?_
  rintro e w3 ⟨rfl, b3⟩
  obtain ⟨bP, hr⟩ := HB2.out
  have hr3 := hr.below b3
  have bP3 := bP.trans (b3.mono bP.size)
  clear bP hr HB2 HU b3
  have hY := put6_blk hr3 (.int .i64 0) (.int .i64 0) (.int .u64 0) (.string ⟨#[]⟩) (.slice none 0 0) (.slice none 0 0)
  have HY := hide hY
  have HF := hide (below_put6 bP3 (b := w.heap.size) (Nat.le_refl _) (.int .i64 0) (.int .i64 0) (.int .u64 0) (.string ⟨#[]⟩) (.slice none 0 0) (.slice none 0 0))
  have x0 := hr3.cell 0 _ rfl
  have x1 := hr3.cell 1 _ rfl
  have x2 := hr3.cell 2 _ rfl
  have x3 := hr3.cell 3 _ rfl
  have x4 := hr3.cell 4 _ rfl
  have x5 := hr3.cell 5 _ rfl
  have z0 := Blk.froz hr3 0
  have z1 := Blk.froz hr3 1
  have z2 := Blk.froz hr3 2
  have z3 := Blk.froz hr3 3
  have z4 := Blk.froz hr3 4
  have z5 := Blk.froz hr3 5
  clear hY
  go_wp2
  have hY := HY.out
  have hF := HF.out
  clear HY HF x0 x1 x2 x3 x4 x5 z0 z1 z2 z3 z4 z5 
  generalize hXX : put6 w3 w.heap.size (.int .i64 0) (.int .i64 0) (.int .u64 0) (.string ⟨#[]⟩) (.slice none 0 0) (.slice none 0 0) = Y at hY hF
  simp only [put6] at hXX
  rw [hXX]
  clear hXX
  exact bodyPost_ret (results_word _ hY) rfl ⟨⟨v, x, HRD.out, .inr ⟨HX.out, rfl⟩⟩, hF⟩
end Go.Proofs.YtnbfnjhbmeocfaaGreatDoor.valus
namespace Go.Proofs.YtnbfnjhbmeocfaaGreatDoor.valus
open Go.RowKit Go.Shelf
theorem refuse_any (w : World) (R : Nat) (s : ByteArray) (l : List toks.Tk) (pl er : Int) (h : MRd w R s l pl er) (k e : Int) (j : Nat) (hj : j < l.length) (p : Option Addr) (n c : Nat) (er' : Int) :
  Calls Tryz.prog 118 #[.pointer (some ⟨R, 0, none⟩), .agg #[.int .i64 k, .int .i64 (j : Int), .int .i64 e, .slice p n c], .int .i64 er'] w fun e w' => (∃ v, e = .returned v) ∧ MRd w' R s l (l[j].fro : Int) er' ∧ Only R w w' := by
 have b1 : Below w.heap.size w (w.alloc (.cells #[.int .i64 k, .int .i64 (j : Int), .int .i64 e, .slice p n c] 59)) := (Below.refl _ w).alloc (Nat.le_refl _) _
 have hn := blk_alloc w #[.int .i64 k, .int .i64 (j : Int), .int .i64 e, .slice p n c] 59
 have hRw := h.lt
 have h1 := h.later b1
 obtain ⟨a, cap, g1, g2, g3, g4⟩ := h1
 have hta := g4
 obtain ⟨b, o, rfl, e2, e3⟩ := g4 (fun e => by rw [e] at hj; cases hj)
 obtain ⟨t0, t1, t2⟩ := e3 j hj
 obtain ⟨A, hA⟩ : ∃ A : Int, A = (l[j].fro : Int) := ⟨_, rfl⟩
 rw [← hA] at t1 ⊢
 obtain ⟨W, hW⟩ : ∃ W, W = w.alloc (.cells #[.int .i64 k, .int .i64 (j : Int), .int .i64 e, .slice p n c] 59) := ⟨_, rfl⟩
 rw [← hW] at g1 t1 hn b1 hta
 have r1 := g1.cell 1 _ rfl
 have r2 := g1.cell 2 _ rfl
 have r3 := g1.cell 3 _ rfl
 have f2 := Blk.froz g1 2
 have f3 := Blk.froz g1 3
 have gA : Blk (W.setCell ⟨R, 2, none⟩ (.int .i64 A)) R #[.string s, .slice (some ⟨b, o, none⟩) l.length cap, .int .i64 A, .int .i64 er] 63 := g1.set 2 (.int .i64 A)
 have s3 := gA.cell 3 _ rfl
 have z3 := Blk.froz gA 3
 have gB : Blk ((W.setCell ⟨R, 2, none⟩ (.int .i64 A)).setCell ⟨R, 3, none⟩ (.int .i64 er')) R #[.string s, .slice (some ⟨b, o, none⟩) l.length cap, .int .i64 A, .int .i64 er'] 63 := gA.set 3 (.int .i64 er')
 have n1 := hn.cell 1 _ rfl
 have hjI : (j : Int) < (l.length : Int) := by omega
 have hl63 : (l.length : Int) ≤ 1000000 := by omega
 have FIN : Hid (∀ X : World, X.heap = ((W.setCell ⟨R, 2, none⟩ (.int .i64 A)).setCell ⟨R, 3, none⟩ (.int .i64 er')).heap → X.os = W.os → X.tape = W.tape → X.output = W.output → MRd X R s l A er' ∧ Only R w X) := hide fun X x1 x2 x3 x4 => by
  have hoth : ∀ q, q ≠ R → X.heap[q]? = W.heap[q]? := fun q hq => by
   rw [x1]
   exact (Below.heap_setCell _ _ _ _ hq).trans (Below.heap_setCell _ _ _ _ hq)
  refine ⟨⟨some ⟨b, o, none⟩, cap, by show X.heap[R]? = _; rw [x1]; exact gB, g2, g3, hta.kept (fun q hq => hoth q (by omega))⟩, ?_⟩
  refine ⟨x2.trans b1.os, x3.trans b1.tape, x4.trans b1.output, ?_, fun q hq hne => (hoth q (fun e => hne (by rw [e]))).trans (b1.block q hq)⟩
  rw [x1]
  have := b1.size
  simp [World.setCell]
  omega
 simp only [List.getElem_toArray, List.getElem_cons_zero, List.getElem_cons_succ] at r1 r2 r3 s3 n1
 clear g1 g2 g3 g4 e3 e2 hn h b1 hA gA gB hta t0 t2 hRw
 go_enter Tryz.func118, Tryz.ntmps118
 go_upto_region 1 with fail
 rw [← hW]
 clear hW
 go_region
 go_wp2
 go_end0
 exact ⟨⟨_, rfl⟩, FIN.out _ rfl rfl rfl rfl⟩
end Go.Proofs.YtnbfnjhbmeocfaaGreatDoor.valus
namespace Go.Proofs.YtnbfnjhbmeocfaaGreatDoor.escs
open utfs
open bigs (hexv hexv_le)
abbrev Said : Type := Int ⊕ (Int × Nat)
def hexF : Nat → Nat → List UInt8 → Nat × Nat
 | 0, v, _ => (v, 0)
 | _ + 1, v, [] => (v, 0)
 | f + 1, v, c :: l => if hexv c < 16 then ((hexF f (v * 16 + hexv c) l).1, (hexF f (v * 16 + hexv c) l).2 + 1) else (v, 0)
def numQ (s : List UInt8) : Said :=
 if (hexF 6 0 s).2 = 0 ∨ (s.drop (hexF 6 0 s).2).head? ≠ some 125 then .inl 4
 else if sc ((hexF 6 0 s).1 : Int) = true then .inr (((hexF 6 0 s).1 : Int), ((hexF 6 0 s).2 + 4)) else .inl 3
def escQ (t : List UInt8) : Said :=
 if t.take 2 = [117, 123] then numQ (t.drop 2)
 else match t with
  | [] => .inl 4
  | c :: _ => if c = 34 ∨ c = 92 ∨ c = 47 then .inr ((c.toNat : Int), 2) else if c = 110 then .inr (10, 2) else if c = 116 then .inr (9, 2) else if c = 114 then .inr (13, 2) else .inl 4
def nextQ (l : List UInt8) : Said :=
 if l.headD 0 = 10 then .inl 4 else if l.headD 0 = 92 then escQ (l.drop 1) else if badB l = true then .inl 3 else .inr (((Lib.decodeL l).1 : Int), (Lib.decodeL l).2)
abbrev Res : Type := Int ⊕ (List Int × Nat)
def resMore (r : Int) (n : Nat) : Res → Res
 | .inl e => .inl e
 | .inr (rs, k) => .inr ((r :: rs), (n + k))
def unqF : Nat → List UInt8 → Res
 | 0, _ => .inl 4
 | _ + 1, [] => .inl 4
 | f + 1, c :: t => if c = 34 then .inr ([], 1) else match nextQ (c :: t) with
  | .inl e => .inl e
  | .inr (r, n) => resMore r n (unqF f ((c :: t).drop n))
def unq (q : List UInt8) : Res :=
 match q with
 | [] => .inl 4
 | c :: t => if c = 34 then (match unqF (t.length + 1) t with | .inl e => .inl e | .inr (rs, k) => .inr (rs, (k + 1))) else .inl 4
theorem hexF_front : ∀ (f v : Nat) (l x : List UInt8), (hexF f v l).2 < l.length → hexF f v (l.take ((hexF f v l).2 + 1) ++ x) = hexF f v l
 | 0, v, l, x, _ => by simp [hexF]
 | f + 1, v, [], x, h => by simp at h
 | f + 1, v, c :: l, x, h => by
  by_cases hc : hexv c < 16
  ·have e : hexF (f + 1) v (c :: l) = ((hexF f (v * 16 + hexv c) l).1, (hexF f (v * 16 + hexv c) l).2 + 1) := by rw [hexF, if_pos hc]
   rw [e] at h ⊢
   simp only [List.length_cons] at h
   have ih := hexF_front f (v * 16 + hexv c) l x (by omega)
   rw [List.take_succ_cons, List.cons_append, hexF, if_pos hc, ih]
  ·have e : hexF (f + 1) v (c :: l) = (v, 0) := by rw [hexF, if_neg hc]
   rw [e, List.take_succ_cons, List.take_zero, List.cons_append, hexF, if_neg hc]
theorem enc_low {r : Int} (h0 : 0 ≤ r) (h1 : r ≤ 127) : Lib.encodeRune r = [r.toNat.toUInt8] := by
 simp [Lib.encodeRune, Lib.encodeRuneZ_one h0 h1]
theorem sc_low {r : Int} (h0 : 0 ≤ r) (h1 : r ≤ 127) : sc r = true := decide_eq_true (by omega)
theorem two_front {t : List UInt8} (h : t.take 2 = [117, 123]) : ∃ s, t = 117 :: 123 :: s := by
 match t, h with
 | [], h => simp at h
 | [a], h => simp at h
 | a :: b :: s, h => simp at h; exact ⟨s, by rw [h.1, h.2]⟩
theorem numQ_says {s : List UInt8} {r : Int} {m : Nat} (h : numQ s = .inr (r, m)) :
  5 ≤ m ∧ m - 3 ≤ s.length ∧ sc r = true ∧ ∀ x, numQ (s.take (m - 3) ++ x) = .inr (r, m) := by
 unfold numQ at h
 split at h
 ·cases h
 ·rename_i hn
  split at h
  ·rename_i hs
   cases h
   have h0 : (hexF 6 0 s).2 ≠ 0 := fun e => hn (.inl e)
   have h1 : (s.drop (hexF 6 0 s).2).head? = some 125 := Classical.byContradiction fun e => hn (.inr e)
   have hl : (hexF 6 0 s).2 < s.length := by
    rcases Nat.lt_or_ge (hexF 6 0 s).2 s.length with k | k
    ·exact k
    ·rw [List.drop_of_length_le k] at h1; cases h1
   refine ⟨by omega, by omega, hs, fun x => ?_⟩
   have e1 : (hexF 6 0 s).2 + 4 - 3 = (hexF 6 0 s).2 + 1 := by omega
   rw [e1]
   have hf := hexF_front 6 0 s x hl
   have hh : ((s.take ((hexF 6 0 s).2 + 1) ++ x).drop (hexF 6 0 s).2).head? = some 125 := by
    rw [← h1, List.head?_drop, List.head?_drop, List.getElem?_append_left (by rw [List.length_take]; omega), List.getElem?_take_of_lt (by omega)]
   unfold numQ
   rw [hf, if_neg (by rw [hh]; simp [h0]), if_pos hs]
  ·cases h
theorem says_front {l : List UInt8} {r : Int} {m : Nat} (hl : l ≠ []) (h : nextQ l = .inr (r, m)) :
  1 ≤ m ∧ m ≤ l.length ∧ sc r = true ∧ (Lib.encodeRune r).length ≤ m ∧ ∀ x, nextQ (l.take m ++ x) = .inr (r, m) := by
 match l, hl with
 | c :: t, _ =>
  unfold nextQ at h
  rw [List.headD_cons, List.drop_succ_cons, List.drop_zero] at h
  split at h
  ·cases h
  ·rename_i h10
   split at h
   ·rename_i h92
    subst h92
    unfold escQ at h
    split at h
    ·rename_i h2
     obtain ⟨s, rfl⟩ := two_front h2
     have e2 : (117 :: 123 :: s).drop 2 = s := rfl
     rw [e2] at h
     obtain ⟨a1, a2, a3, a4⟩ := numQ_says h
     have h4 := encodeRune_length r
     refine ⟨by omega, by simp only [List.length_cons]; omega, a3, by omega, fun x => ?_⟩
     obtain ⟨k, rfl⟩ : ∃ k, m = k + 3 := ⟨m - 3, by omega⟩
     have e3 : k + 3 - 3 = k := by omega
     rw [e3] at a4
     have e4 : (92 :: 117 :: 123 :: s).take (k + 3) ++ x = 92 :: 117 :: 123 :: (s.take k ++ x) := by simp
     rw [e4]
     unfold nextQ
     rw [List.headD_cons, if_neg (by decide), if_pos rfl, List.drop_succ_cons, List.drop_zero]
     unfold escQ
     rw [if_pos (by simp)]
     exact a4 x
    ·match t with
     | [] => cases h
     | c :: t' =>
      simp only at h
      have fin : ∀ (q : Int), 0 ≤ q → q ≤ 127 → c ≠ 117 → (∀ x, escQ (c :: x) = .inr (q, 2)) → (Sum.inr (q, 2) : Said) = .inr (r, m) → 1 ≤ m ∧ m ≤ (92 :: c :: t').length ∧ sc r = true ∧ (Lib.encodeRune r).length ≤ m ∧ ∀ x, nextQ ((92 :: c :: t').take m ++ x) = .inr (r, m) := by
       intro q q0 q1 hc hx e
       cases e
       refine ⟨by omega, by simp, sc_low q0 q1, by rw [enc_low q0 q1]; simp, fun x => ?_⟩
       have e4 : (92 :: c :: t').take 2 ++ x = 92 :: c :: x := by simp
       rw [e4]
       unfold nextQ
       rw [List.headD_cons, if_neg (by decide), if_pos rfl, List.drop_succ_cons, List.drop_zero]
       exact hx x
      have ne2 : c ≠ 117 → ∀ x : List UInt8, ¬ (c :: x).take 2 = [117, 123] := fun hc x e => by
       rw [List.take_succ_cons] at e
       injection e with e1 e2
       exact hc e1
      split at h
      ·rename_i hc
       have hc7 : c ≠ 117 := by rcases hc with rfl | rfl | rfl <;> decide
       refine fin (c.toNat : Int) (by omega) (by rcases hc with rfl | rfl | rfl <;> decide) hc7 (fun x => ?_) h
       unfold escQ
       rw [if_neg (ne2 hc7 x)]
       simp only
       rw [if_pos hc]
      ·rename_i hc
       split at h
       ·rename_i h1
        subst h1
        exact fin 10 (by decide) (by decide) (by decide) (fun x => by simp [escQ]) h
       ·split at h
        ·rename_i h1
         subst h1
         exact fin 9 (by decide) (by decide) (by decide) (fun x => by simp [escQ]) h
        ·split at h
         ·rename_i h1
          subst h1
          exact fin 13 (by decide) (by decide) (by decide) (fun x => by simp [escQ]) h
         ·cases h
   ·rename_i h92
    split at h
    ·cases h
    ·rename_i hb
     have hb' : badB (c :: t) = false := by simpa using hb
     obtain ⟨q, rest, hs, e, ed⟩ := badB_false (by simp) hb'
     rw [ed] at h
     simp only at h
     have hq := sc_true hs
     have eq : ((q.toNat : Nat) : Int) = q := by omega
     rw [eq] at h
     cases h
     have h4 := encodeRune_length r
     have hlen := congrArg List.length e
     rw [List.length_append] at hlen
     refine ⟨by omega, by omega, hs, Nat.le_refl _, fun x => ?_⟩
     have hc : (Lib.encodeRune r ++ x).headD 0 = c := by
      rcases he : Lib.encodeRune r with _ | ⟨a, b⟩
      ·rw [he] at h4; simp at h4
      ·rw [he] at e
       injection e with e1 _
       rw [e1]; rfl
     rw [e, List.take_left' rfl]
     unfold nextQ
     rw [hc, if_neg h10, if_neg h92, if_neg (by rw [badB_enc hs]; simp), dec_enc hs]
     simp only
     rw [eq]
theorem unqF_got : ∀ (f : Nat) (l : List UInt8) (rs : List Int) (k : Nat), unqF f l = .inr (rs, k) →
  1 ≤ k ∧ k ≤ l.length ∧ (∀ r ∈ rs, sc r = true) ∧ (enc rs).length + 1 ≤ k ∧ l.getD (k - 1) 0 = 34 ∧ ∀ f', ∃ e, unqF f' (l.take (k - 1)) = .inl e
 | 0, l, rs, k, h => by simp [unqF] at h
 | f + 1, [], rs, k, h => by simp [unqF] at h
 | f + 1, c :: t, rs, k, h => by
  rw [unqF] at h
  by_cases hc : c = 34
  ·rw [if_pos hc] at h
   cases h
   refine ⟨by omega, by simp, by simp, by simp [enc], by simp [hc], fun f' => ⟨4, ?_⟩⟩
   cases f' <;> simp [unqF]
  ·rw [if_neg hc] at h
   cases hn : nextQ (c :: t) with
   | inl e => rw [hn] at h; cases h
   | inr p =>
    obtain ⟨r, n⟩ := p
    rw [hn] at h
    simp only at h
    obtain ⟨a1, a2, a3, a4, a5⟩ := says_front (by simp) hn
    cases hu : unqF f ((c :: t).drop n) with
    | inl e => rw [hu] at h; cases h
    | inr p =>
     obtain ⟨rs', k'⟩ := p
     rw [hu] at h
     simp only [resMore, Sum.inr.injEq, Prod.mk.injEq] at h
     obtain ⟨rfl, rfl⟩ := h
     obtain ⟨b1, b2, b3, b4, b5, b6⟩ := unqF_got f _ _ _ hu
     rw [List.length_drop] at b2
     refine ⟨by omega, by omega, ?_, ?_, ?_, ?_⟩
     ·intro q hq
      rcases List.mem_cons.1 hq with rfl | hq
      ·exact a3
      ·exact b3 q hq
     ·rw [enc_cons, List.length_append]; omega
     ·rw [← b5, List.getD_eq_getElem?_getD, List.getD_eq_getElem?_getD, List.getElem?_drop]
      congr 2
      omega
     ·intro f'
      cases f' with
      | zero => exact ⟨4, rfl⟩
      | succ f' =>
       obtain ⟨e, he⟩ := b6 f'
       refine ⟨e, ?_⟩
       have e1 : n + k' - 1 = n + (k' - 1) := by omega
       have e2 : (c :: t).take (n + (k' - 1)) = (c :: t).take n ++ ((c :: t).drop n).take (k' - 1) := List.take_add
       have hh := a5 (((c :: t).drop n).take (k' - 1))
       rw [← e2] at hh
       rw [e1]
       have e3 : ((c :: t).take (n + (k' - 1))).drop n = ((c :: t).drop n).take (k' - 1) := by
        rw [e2, List.drop_left' (by rw [List.length_take]; omega)]
       obtain ⟨n', rfl⟩ : ∃ n', n = n' + 1 := ⟨n - 1, by omega⟩
       have e4 : (c :: t).take (n' + 1 + (k' - 1)) = c :: t.take (n' + (k' - 1)) := by
        rw [show n' + 1 + (k' - 1) = (n' + (k' - 1)) + 1 by omega, List.take_succ_cons]
       rw [e4] at hh e3 ⊢
       rw [unqF, if_neg hc, hh]
       simp only
       rw [e3, he]
       rfl
theorem unq_got {q : List UInt8} {rs : List Int} {k : Nat} (h : unq q = .inr (rs, k)) :
  2 ≤ k ∧ k ≤ q.length ∧ (∀ r ∈ rs, sc r = true) ∧ (enc rs).length + 2 ≤ k ∧ q.getD (k - 1) 0 = 34 ∧ ∃ e, unq (q.take (k - 1)) = .inl e := by
 match q with
 | [] => cases h
 | c :: t =>
  rw [unq] at h
  by_cases hc : c = 34
  ·rw [if_pos hc] at h
   cases hu : unqF (t.length + 1) t with
   | inl e => rw [hu] at h; cases h
   | inr p =>
    obtain ⟨rs', k'⟩ := p
    rw [hu] at h
    simp only [Sum.inr.injEq, Prod.mk.injEq] at h
    obtain ⟨rfl, rfl⟩ := h
    obtain ⟨b1, b2, b3, b4, b5, b6⟩ := unqF_got _ _ _ _ hu
    refine ⟨by omega, by simp only [List.length_cons]; omega, b3, by omega, ?_, ?_⟩
    ·rw [← b5]
     obtain ⟨j, rfl⟩ : ∃ j, k' = j + 1 := ⟨k' - 1, by omega⟩
     rfl
    ·obtain ⟨j, rfl⟩ : ∃ j, k' = j + 1 := ⟨k' - 1, by omega⟩
     obtain ⟨e, he⟩ := b6 ((t.take j).length + 1)
     refine ⟨e, ?_⟩
     rw [show j + 1 + 1 - 1 = j + 1 by omega, List.take_succ_cons, unq, if_pos hc]
     rw [show j + 1 - 1 = j by omega] at he
     rw [he]
  ·rw [if_neg hc] at h; cases h
theorem numQ_fails {s : List UInt8} {e : Int} (h : numQ s = .inl e) : e = 3 ∨ e = 4 := by
 unfold numQ at h
 split at h
 ·cases h; omega
 ·split at h
  ·cases h
  ·cases h; omega
theorem nextQ_fails {l : List UInt8} {e : Int} (h : nextQ l = .inl e) : e = 3 ∨ e = 4 := by
 unfold nextQ at h
 split at h
 ·cases h; omega
 ·split at h
  ·unfold escQ at h
   split at h
   ·exact numQ_fails h
   ·split at h
    ·cases h; omega
    ·split at h
     ·cases h
     ·split at h
      ·cases h
      ·split at h
       ·cases h
       ·split at h
        ·cases h
        ·cases h; omega
  ·split at h
   ·cases h; omega
   ·cases h
end Go.Proofs.YtnbfnjhbmeocfaaGreatDoor.escs
