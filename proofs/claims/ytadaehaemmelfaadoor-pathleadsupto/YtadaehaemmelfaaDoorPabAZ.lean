/- Of our texts, what this claim reaches. -/
import Derived.Test.YtadaehaemmelfaaDoorPabAU
import Derived.Test.YtadaehaemmelfaaDoorPabAY
set_option linter.unusedVariables false
set_option maxHeartbeats 8000000
set_option maxRecDepth 100000
namespace Go.Proofs.YtadaehaemmelfaaDoor.paths
open Go.RowKit
open utfs (hide unhide)
open valus (V opn mkV nodesV LiesV Blk blk_alloc put6 put6_blk below_put6)
theorem results_led {w : World} {B : Nat} {u0 u1 u2 u3 u4 u5 y : Value} (tmps : Array Value) (h : Blk w B #[u0, u1, u2, u3, u4, u5] 26) (ht : tmps[4]? = some (.pointer (some ⟨B, 0, none⟩)) := by rfl) (hy : tmps[5]? = some y := by rfl) : (results Tryd.f14 tmps).run Tryd.prog w = .ok (.tuple #[.agg #[u0, u1, u2, u3, u4, u5], y]) w := by
 obtain ⟨c0, c1, c2, c3, c4, c5⟩ := h.cells6
 simp [results, Tryd.f14, ht, hy, go_sem, c0, c1, c2, c3, c4, c5]
def ZeroV (k n : Int) (b : Nat) (s : ByteArray) (pL : Option Addr) (nL cL : Nat) (pE : Option Addr) (nE cE : Nat) : Prop := k = 0 ∧ n = 0 ∧ b = 0 ∧ s = ⟨#[]⟩ ∧ pL = none ∧ nL = 0 ∧ cL = 0 ∧ pE = none ∧ nE = 0 ∧ cE = 0
abbrev PartT (N M : Nat) (z : V ⊕ Int) (w : World) (e : Ending) (w' : World) : Prop :=
 ∃ (k n : Int) (b : Nat) (s : ByteArray) (pL : Option Addr) (nL cL : Nat) (pE : Option Addr) (nE cE : Nat) (er : Int), e = .returned (.tuple #[.agg #[.int .i64 k, .int .i64 n, .int .u64 (b : Int), .string s, .slice pL nL cL, .slice pE nE cE], .int .i64 er]) ∧ Hid ((∃ (y : V) (f : Nat), z = .inl y ∧ er = 0 ∧ LiesV (fun q => q < N) f w' [.int .i64 k, .int .i64 n, .int .u64 (b : Int), .string s, .slice pL nL cL, .slice pE nE cE] y ∧ nodesV f y ≤ M) ∨ (z = .inr er ∧ er ≠ 0 ∧ ZeroV k n b s pL nL cL pE nE cE)) ∧ Below w.heap.size w w'
theorem part_tuple {N M : Nat} {z : V ⊕ Int} {w w' : World} {e : Ending} (h : PartRW N M z w e w') : PartT N M z w e w' := by
 obtain ⟨⟨y, f, x0, x1, x2, x3, x4, x5, h1, h2, h3, h4⟩ | ⟨er, h1, h2, h3⟩, hb⟩ := h
 ·obtain ⟨k, n, b, s, pL, nL, cL, pE, nE, cE, rfl, rfl, rfl, rfl, rfl, rfl⟩ := h3.form
  exact ⟨k, n, b, s, pL, nL, cL, pE, nE, cE, 0, h2, hide (.inl ⟨y, f, h1, rfl, h3, h4⟩), hb⟩
 ·exact ⟨0, 0, 0, ⟨#[]⟩, none, 0, 0, none, 0, 0, er, h3, hide (.inr ⟨h1, h2, rfl, rfl, rfl, rfl, rfl, rfl, rfl, rfl, rfl, rfl⟩), hb⟩
def LedMid (N M n0 : Nat) (z : V ⊕ Int) (w : World) (BB : Nat) (k n : Int) (b : Nat) (s : ByteArray) (pL : Option Addr) (nL cL : Nat) (pE : Option Addr) (nE cE : Nat) (er : Int) (wx : World) : Prop :=
 Blk wx BB #[.int .i64 k, .int .i64 n, .int .u64 (b : Int), .string s, .slice pL nL cL, .slice pE nE cE] 26 ∧ Blk wx (n0 + 1) #[.int .i64 0, .int .i64 0, .int .u64 0, .string ⟨#[]⟩, .slice none 0 0, .slice none 0 0] 26 ∧ ((∃ (y : V) (f : Nat), z = .inl y ∧ er = 0 ∧ LiesV (fun q => q < N) f wx [.int .i64 k, .int .i64 n, .int .u64 (b : Int), .string s, .slice pL nL cL, .slice pE nE cE] y ∧ nodesV f y ≤ M) ∨ (z = .inr er ∧ er ≠ 0 ∧ ZeroV k n b s pL nL cL pE nE cE)) ∧ Below n0 w wx ∧ n0 + 2 ≤ BB
theorem mid_put {N M n0 : Nat} {z : V ⊕ Int} {w w8 : World} {BB : Nat} {k n : Int} {b : Nat} {s : ByteArray} {pL : Option Addr} {nL cL : Nat} {pE : Option Addr} {nE cE : Nat} {er : Int} (h8 : Below n0 w w8) (hN : N ≤ n0) (zb : Blk w8 BB #[.int .i64 0, .int .i64 0, .int .u64 0, .string ⟨#[]⟩, .slice none 0 0, .slice none 0 0] 26) (hBB : n0 + 2 ≤ BB) (k1 : Blk w8 (n0 + 1) #[.int .i64 0, .int .i64 0, .int .u64 0, .string ⟨#[]⟩, .slice none 0 0, .slice none 0 0] 26)
  (hres : Hid ((∃ (y : V) (f : Nat), z = .inl y ∧ er = 0 ∧ LiesV (fun q => q < N) f w8 [.int .i64 k, .int .i64 n, .int .u64 (b : Int), .string s, .slice pL nL cL, .slice pE nE cE] y ∧ nodesV f y ≤ M) ∨ (z = .inr er ∧ er ≠ 0 ∧ ZeroV k n b s pL nL cL pE nE cE))) :
  LedMid N M n0 z w BB k n b s pL nL cL pE nE cE er (put6 w8 BB (.int .i64 k) (.int .i64 n) (.int .u64 (b : Int)) (.string s) (.slice pL nL cL) (.slice pE nE cE)) := by
 refine ⟨put6_blk zb _ _ _ _ _ _, valus.put6_other k1 (by omega) _ _ _ _ _ _, ?_, below_put6 h8 (by omega) _ _ _ _ _ _, hBB⟩
 rcases hres.out with ⟨y, f, h1, h2, h3, h4⟩ | h
 ·exact .inl ⟨y, f, h1, h2, lies_put6 h3 (by omega) _ _ _ _ _ _, h4⟩
 ·exact .inr h
theorem mid_alloc {N M n0 : Nat} {z : V ⊕ Int} {w w8 : World} {k n : Int} {b : Nat} {s : ByteArray} {pL : Option Addr} {nL cL : Nat} {pE : Option Addr} {nE cE : Nat} {er : Int} (h8 : Below n0 w w8) (hN : N ≤ n0) (hBB : n0 + 2 ≤ w8.heap.size) (k1 : Blk w8 (n0 + 1) #[.int .i64 0, .int .i64 0, .int .u64 0, .string ⟨#[]⟩, .slice none 0 0, .slice none 0 0] 26)
  (hres : Hid ((∃ (y : V) (f : Nat), z = .inl y ∧ er = 0 ∧ LiesV (fun q => q < N) f w8 [.int .i64 k, .int .i64 n, .int .u64 (b : Int), .string s, .slice pL nL cL, .slice pE nE cE] y ∧ nodesV f y ≤ M) ∨ (z = .inr er ∧ er ≠ 0 ∧ ZeroV k n b s pL nL cL pE nE cE))) :
  LedMid N M n0 z w w8.heap.size k n b s pL nL cL pE nE cE er (w8.alloc (.cells #[.int .i64 k, .int .i64 n, .int .u64 (b : Int), .string s, .slice pL nL cL, .slice pE nE cE] 26)) := by
 have hb := (Below.refl n0 w8).alloc (by omega) (.cells #[.int .i64 k, .int .i64 n, .int .u64 (b : Int), .string s, .slice pL nL cL, .slice pE nE cE] 26)
 refine ⟨blk_alloc _ _ _, k1.alloc _, ?_, h8.trans hb, hBB⟩
 rcases hres.out with ⟨y, f, h1, h2, h3, h4⟩ | h
 ·exact .inl ⟨y, f, h1, h2, h3.kept (fun q h => h) hb.size (fun q h _ => hb.block q (by omega)), h4⟩
 ·exact .inr h
theorem led_out {N M : Nat} {z : V ⊕ Int} {w w8 : World} {k n : Int} {b : Nat} {s : ByteArray} {pL : Option Addr} {nL cL : Nat} {pE : Option Addr} {nE cE : Nat} {er : Int} (h8 : Below w.heap.size w w8) (hN : N ≤ w.heap.size)
  (hres : Hid ((∃ (y : V) (f : Nat), z = .inl y ∧ er = 0 ∧ LiesV (fun q => q < N) f w8 [.int .i64 k, .int .i64 n, .int .u64 (b : Int), .string s, .slice pL nL cL, .slice pE nE cE] y ∧ nodesV f y ≤ M) ∨ (z = .inr er ∧ er ≠ 0 ∧ ZeroV k n b s pL nL cL pE nE cE))) :
  PartRW N M z w (.returned (.tuple #[.agg #[.int .i64 k, .int .i64 n, .int .u64 (b : Int), .string s, .slice pL nL cL, .slice pE nE cE], .int .i64 er])) (put6 w8 (w.heap.size + 1) (.int .i64 k) (.int .i64 n) (.int .u64 (b : Int)) (.string s) (.slice pL nL cL) (.slice pE nE cE)) := by
 refine ⟨?_, below_put6 h8 (by omega) _ _ _ _ _ _⟩
 rcases hres.out with ⟨y, f, h1, rfl, h3, h4⟩ | ⟨h1, h2, rfl, rfl, rfl, rfl, rfl, rfl, rfl, rfl, rfl, rfl⟩
 ·exact .inl ⟨y, f, _, _, _, _, _, _, h1, rfl, lies_put6 h3 (by omega) _ _ _ _ _ _, h4⟩
 ·exact .inr ⟨er, h1, h2, rfl⟩
theorem liesP_tail {w : World} {B o : Nat} {x : St} {P : List St} (h : LiesP w (some ⟨B, o, none⟩) (x :: P)) : LiesP w (some ⟨B, o + 2, none⟩) P := fun _ => by
 obtain ⟨B', o', e, hB, hc⟩ := h (by simp)
 injection e with e
 injection e with e1 e2
 subst e1 e2
 refine ⟨B, o + 2, rfl, hB, fun j y hy => ?_⟩
 obtain ⟨key, k1, k2, k3, k4, k5⟩ := hc (j + 1) y hy
 rw [show o + (j + 1) * 2 = o + 2 + j * 2 from by omega] at k4 k5
 exact ⟨key, k1, k2, k3, k4, k5⟩
def LedC (N M : Nat) (P : List St) : Prop := ∀ (f : Nat) (w : World) (t : V) (a0 a1 a2 a3 a4 a5 : Value) (p : Option Addr) (c : Nat), N ≤ w.heap.size → LiesV (fun q => q < N) f w [a0, a1, a2, a3, a4, a5] t → nodesV f t ≤ M → LiesP w p P → P.length ≤ c → c ≤ maxLen → (∀ x ∈ P, -1 ≤ x.2) →
 Calls Tryd.prog 14 #[.agg #[a0, a1, a2, a3, a4, a5], .slice p P.length c] w (PartRW N M (leadV t P) w)
end Go.Proofs.YtadaehaemmelfaaDoor.paths
namespace Go.Proofs.YtadaehaemmelfaaDoor.paths
open Go.RowKit
open utfs (hide unhide)
open valus (V opn mkV nodesV LiesV Blk blk_alloc put6 put6_blk below_put6)
theorem led_any (N M : Nat) : ∀ P : List St, LedC N M P
 | [] => by
  intro f w t a0 a1 a2 a3 a4 a5 p c hN hl hn hP hc hm hi
  obtain ⟨k, n, b, s, pL, nL, cL, pE, nE, cE, rfl, rfl, rfl, rfl, rfl, rfl⟩ := hl.form
  obtain ⟨W0, hW0⟩ : ∃ W0, W0 = (w.alloc (.cells #[.int .i64 k, .int .i64 n, .int .u64 (b : Int), .string s, .slice pL nL cL, .slice pE nE cE] 26)).alloc (.cells #[.int .i64 k, .int .i64 n, .int .u64 (b : Int), .string s, .slice pL nL cL, .slice pE nE cE] 26) := ⟨_, rfl⟩
  have bA : Below w.heap.size w (w.alloc (.cells #[.int .i64 k, .int .i64 n, .int .u64 (b : Int), .string s, .slice pL nL cL, .slice pE nE cE] 26)) := (Below.refl _ w).alloc (Nat.le_refl _) _
  have b0 : Below w.heap.size w W0 := by rw [hW0]; exact bA.alloc bA.size _
  have k1 : Blk W0 (w.heap.size + 1) #[.int .i64 k, .int .i64 n, .int .u64 (b : Int), .string s, .slice pL nL cL, .slice pE nE cE] 26 := by
   rw [hW0]
   have h := blk_alloc (w.alloc (.cells #[.int .i64 k, .int .i64 n, .int .u64 (b : Int), .string s, .slice pL nL cL, .slice pE nE cE] 26)) #[.int .i64 k, .int .i64 n, .int .u64 (b : Int), .string s, .slice pL nL cL, .slice pE nE cE] 26
   rw [World.size_alloc] at h
   exact h
  go_enter Tryd.func14, Tryd.ntmps14
  go_wp2
  rw [← hW0]
  refine bodyPost_ret (results_led _ k1) rfl ?_
  exact ⟨.inl ⟨t, f, _, _, _, _, _, _, rfl, rfl, hl.kept (fun q h => h) b0.size (fun q h _ => b0.block q (by omega)), hn⟩, b0⟩
 | x :: P => by
  intro f w t a0 a1 a2 a3 a4 a5 p c hN hl hn hP hc hm hi
  have ih := hide (led_any N M P)
  obtain ⟨k, n, b, s, pL, nL, cL, pE, nE, cE, rfl, rfl, rfl, rfl, rfl, rfl⟩ := hl.form
  obtain ⟨B, o, key, rfl, hB, e1, e2, e3, e4, e5⟩ := hP.at (j := 0) (by simp)
  simp only [List.getElem_cons_zero, Nat.zero_mul, Nat.add_zero] at e1 e3 e4 e5
  obtain ⟨W0, hW0⟩ : ∃ W0, W0 = (w.alloc (.cells #[.int .i64 k, .int .i64 n, .int .u64 (b : Int), .string s, .slice pL nL cL, .slice pE nE cE] 26)).alloc (.cells #[.int .i64 0, .int .i64 0, .int .u64 0, .string ⟨#[]⟩, .slice none 0 0, .slice none 0 0] 26) := ⟨_, rfl⟩
  have bA : Below w.heap.size w (w.alloc (.cells #[.int .i64 k, .int .i64 n, .int .u64 (b : Int), .string s, .slice pL nL cL, .slice pE nE cE] 26)) := (Below.refl _ w).alloc (Nat.le_refl _) _
  have b0 : Below w.heap.size w W0 := by rw [hW0]; exact bA.alloc bA.size _
  have s0 : W0.heap.size = w.heap.size + 2 := by rw [hW0]; simp
  have k0 : Blk W0 w.heap.size #[.int .i64 k, .int .i64 n, .int .u64 (b : Int), .string s, .slice pL nL cL, .slice pE nE cE] 26 := by rw [hW0]; exact (blk_alloc w _ _).alloc _
  have k1 : Blk W0 (w.heap.size + 1) #[.int .i64 0, .int .i64 0, .int .u64 0, .string ⟨#[]⟩, .slice none 0 0, .slice none 0 0] 26 := by
   rw [hW0]
   have h := blk_alloc (w.alloc (.cells #[.int .i64 k, .int .i64 n, .int .u64 (b : Int), .string s, .slice pL nL cL, .slice pE nE cE] 26)) #[.int .i64 0, .int .i64 0, .int .u64 0, .string ⟨#[]⟩, .slice none 0 0, .slice none 0 0] 26
   rw [World.size_alloc] at h
   exact h
  have KP : ∀ u, Below w.heap.size w u → Calls Tryd.prog 35 #[.agg #[.int .i64 k, .int .i64 n, .int .u64 (b : Int), .string s, .slice pL nL cL, .slice pE nE cE], .agg #[.string key, .int .i64 x.2]] u (PartT N M (partV t x) u) := fun u hu => by
   refine Calls.mono ?_ (fun e w' h => part_tuple h)
   have := partOf_any N M u (Nat.le_trans hN hu.size) f t _ _ _ _ _ _ (hl.kept (fun q h => h) hu.size (fun q h _ => hu.block q (by omega))) hn key x.2 (hi x List.mem_cons_self)
   rw [e1] at this
   exact this
  have bz : Below w.heap.size w (W0.alloc (.cells #[.int .i64 0, .int .i64 0, .int .u64 0, .string ⟨#[]⟩, .slice none 0 0, .slice none 0 0] 26)) := b0.alloc b0.size _
  have p0 := (b0.cell (p := ⟨B, o, none⟩) hB).trans e4
  have p1 := (b0.cell (p := ⟨B, o + 1, none⟩) hB).trans e5
  have q0 := (bz.cell (p := ⟨B, o, none⟩) hB).trans e4
  have q1 := (bz.cell (p := ⟨B, o + 1, none⟩) hB).trans e5
  obtain ⟨c0, c1, c2, c3, c4, c5⟩ := k0.cells6
  obtain ⟨d0, d1, d2, d3, d4, d5⟩ := (k0.alloc (.cells #[.int .i64 0, .int .i64 0, .int .u64 0, .string ⟨#[]⟩, .slice none 0 0, .slice none 0 0] 26)).cells6
  have HKP := hide KP
  have HB0 := hide b0
  have i1 : ¬ ((P.length : Int) + 1 = 0) := by omega
  have i2 : ((P.length : Int) + 1 == 0) = false := beq_false_of_ne i1
  have i3 : (((P.length + 1 : Nat) : Int) == 0) = false := beq_false_of_ne (by omega)
  have HS0 := hide s0
  clear KP bA s0
  go_enter Tryd.func14, Tryd.ntmps14
  go_wp2
  rw [← hW0]
  clear hW0
  go_cut [6, 7] from 12 to 19 (fun s6 s7 wx => ∃ (BB : Nat) (k8 n8 : Int) (b8 : Nat) (s8 : ByteArray) (pL8 : Option Addr) (nL8 cL8 : Nat) (pE8 : Option Addr) (nE8 cE8 : Nat) (er : Int), s6 = .pointer (some ⟨BB, 0, none⟩) ∧ s7 = .int .i64 er ∧ Hid (LedMid N M w.heap.size (partV t x) w BB k8 n8 b8 s8 pL8 nL8 cL8 pE8 nE8 cE8 er wx))
  case first =>
   go_region_with (go_at_call 35
                   refine (HKP.out _ (by first | exact b0 | exact bz | exact _root_.Go.below_drewN b0 _ | exact _root_.Go.below_drewN bz _ | exact (_root_.Go.below_drewN b0 _).alloc (_root_.Go.below_drewN b0 _).size _)).mono ?_
                   rintro e w8 ⟨k8, n8, b8n, s8, pL8, nL8, cL8, pE8, nE8, cE8, er, rfl, hres, b8⟩
                   first
                    | (have zb : Blk w8 W0.heap.size #[.int .i64 0, .int .i64 0, .int .u64 0, .string ⟨#[]⟩, .slice none 0 0, .slice none 0 0] 26 := Blk.below (blk_alloc W0.drew _ _) b8
                       obtain ⟨z0, z1, z2, z3, z4, z5⟩ := zb.cells6
                       have y0 := Blk.froz zb 0
                       have y1 := Blk.froz zb 1
                       have y2 := Blk.froz zb 2
                       have y3 := Blk.froz zb 3
                       have y4 := Blk.froz zb 4
                       have y5 := Blk.froz zb 5
                       have HM := hide (mid_put (n0 := w.heap.size) (((_root_.Go.below_drewN b0 1).alloc (_root_.Go.below_drewN b0 1).size _).trans (b8.mono ((_root_.Go.below_drewN b0 1).alloc (_root_.Go.below_drewN b0 1).size _).size)) hN zb (by have := HS0.out; omega) (Blk.below (Blk.alloc (w := W0.drew) k1 _) b8) hres)
                       clear hres zb)
                    | (have HM := hide (mid_alloc (n0 := w.heap.size) ((_root_.Go.below_drewN b0 1).trans (b8.mono (_root_.Go.below_drewN b0 1).size)) hN (by have := HS0.out; have := b8.size; have e : W0.drew.heap.size = W0.heap.size := rfl; omega) (Blk.below (w := W0.drew) k1 b8) hres)
                       clear hres)
                   clear b8)
   all_goals
    go_wp2_with fail
    go_meet
    exact ⟨_, _, _, _, _, _, _, _, _, _, _, _, rfl, rfl, HM⟩
  case rest =>
  obtain ⟨BB, k8, n8, b8, s8, pL8, nL8, cL8, pE8, nE8, cE8, er, rfl, rfl, HM⟩ := hcut
  clear p0 p1 q0 q1 c0 c1 c2 c3 c4 c5 d0 d1 d2 d3 d4 d5 HKP k0 k1 b0 bz
  obtain ⟨hBk, hk1, hz, hbw, hBB⟩ := HM.out
  have hLw := hP.keep (hbw.mono (Nat.le_refl _))
  have hsz := hbw.size
  have hblt := hBk.lt
  have y0 := hBk.cell 0 _ rfl
  have y1 := hBk.cell 1 _ rfl
  have y2 := hBk.cell 2 _ rfl
  have y3 := hBk.cell 3 _ rfl
  have y4 := hBk.cell 4 _ rfl
  have y5 := hBk.cell 5 _ rfl
  rcases hz with ⟨y, g, hz, rfl, hly, hny⟩ | ⟨hz, hne, _⟩
  ·have hlead : leadV t (x :: P) = leadV y P := by rw [leadV_cons, hz]; rfl
   have KL : ∀ u, Below wc.heap.size wc u → Calls Tryd.prog 14 #[.agg #[.int .i64 k8, .int .i64 n8, .int .u64 (b8 : Int), .string s8, .slice pL8 nL8 cL8, .slice pE8 nE8 cE8], .slice (if c = 1 then some ⟨B, o, none⟩ else some ⟨B, o + 2, none⟩) P.length (c - 1)] u (PartT N M (leadV t (x :: P)) u) := fun u hu => by
    rw [hlead]
    refine Calls.mono ?_ (fun e w' h => part_tuple h)
    refine ih.out g u y _ _ _ _ _ _ _ _ (by have := hu.size; omega) (hly.kept (fun q h => h) hu.size (fun q h _ => hu.block q (by omega))) hny ?_ (by rw [List.length_cons] at hc; omega) (by omega) (fun z hz => hi z (List.mem_cons_of_mem _ hz))
    by_cases hc1 : c = 1
    ·intro hz
     rw [List.length_cons] at hc
     omega
    ·rw [if_neg hc1]
     exact liesP_tail (hLw.keep hu)
   have HKL := hide KL
   have HK1 := hide hk1
   have i4 : (1 : Int) ≤ (P.length : Int) + 1 := by omega
   have i5 : 1 ≤ P.length + 1 := by omega
   have i6 : P.length + 1 ≤ c := by rw [List.length_cons] at hc; exact hc
   clear KL hlead hz hly hny hk1 hLw hP HM ih hBk
   generalize leadV t (x :: P) = zz at *
   by_cases hc1 : c = 1
   ·subst hc1
    have hp0 : P = [] := List.eq_nil_of_length_eq_zero (by omega)
    subst hp0
    rw [if_pos rfl] at HKL
    have HKL : Hid (∀ u, Below wc.heap.size wc u → Calls Tryd.prog 14 #[.agg #[.int .i64 k8, .int .i64 n8, .int .u64 (b8 : Int), .string s8, .slice pL8 nL8 cL8, .slice pE8 nE8 cE8], .slice (some ⟨B, o, none⟩) 0 0] u (PartT N M zz u)) := HKL
    clear i1 i2 i3 i4 i5 i6 hc hm hi
    rw [List.length_nil, Nat.zero_add]
    go_wp2
    go_region_with (go_at_call 14
                    refine (HKL.out _ (_root_.Go.below_drewN (Below.refl _ wc) 1)).mono ?_
                    rintro e w9 ⟨k9, n9, b9n, s9, pL9, nL9, cL9, pE9, nE9, cE9, e9, rfl, hres, b9⟩
                    have zb : Blk w9 (w.heap.size + 1) #[.int .i64 0, .int .i64 0, .int .u64 0, .string ⟨#[]⟩, .slice none 0 0, .slice none 0 0] 26 := Blk.below (w := wc.drew) HK1.out b9
                    obtain ⟨z0, z1, z2, z3, z4, z5⟩ := zb.cells6
                    have f0 := Blk.froz zb 0
                    have f1 := Blk.froz zb 1
                    have f2 := Blk.froz zb 2
                    have f3 := Blk.froz zb 3
                    have f4 := Blk.froz zb 4
                    have f5 := Blk.froz zb 5
                    have HY := hide (put6_blk zb (.int .i64 k9) (.int .i64 n9) (.int .u64 (b9n : Int)) (.string s9) (.slice pL9 nL9 cL9) (.slice pE9 nE9 cE9))
                    have HR := hide (led_out ((_root_.Go.below_drewN hbw 1).trans (b9.mono (_root_.Go.below_drewN hbw 1).size)) hN hres)
                    clear hres b9 zb)
    all_goals
     go_wp2
     obtain ⟨Y, hYe⟩ : ∃ Y, Y = put6 w9 (w.heap.size + 1) (.int .i64 k9) (.int .i64 n9) (.int .u64 (b9n : Int)) (.string s9) (.slice pL9 nL9 cL9) (.slice pE9 nE9 cE9) := ⟨_, rfl⟩
     rw [← hYe] at HY HR
     simp only [put6] at hYe
     rw [← hYe]
     clear hYe z0 z1 z2 z3 z4 z5 f0 f1 f2 f3 f4 f5
     refine bodyPost_ret (results_led _ HY.out) rfl ?_
     exact HR.out
   ·rw [if_neg hc1] at HKL
    go_wp2
    go_region_with (go_at_call 14
                    refine (HKL.out _ (_root_.Go.below_drewN (Below.refl _ wc) 1)).mono ?_
                    rintro e w9 ⟨k9, n9, b9n, s9, pL9, nL9, cL9, pE9, nE9, cE9, e9, rfl, hres, b9⟩
                    have zb : Blk w9 (w.heap.size + 1) #[.int .i64 0, .int .i64 0, .int .u64 0, .string ⟨#[]⟩, .slice none 0 0, .slice none 0 0] 26 := Blk.below (w := wc.drew) HK1.out b9
                    obtain ⟨z0, z1, z2, z3, z4, z5⟩ := zb.cells6
                    have f0 := Blk.froz zb 0
                    have f1 := Blk.froz zb 1
                    have f2 := Blk.froz zb 2
                    have f3 := Blk.froz zb 3
                    have f4 := Blk.froz zb 4
                    have f5 := Blk.froz zb 5
                    have HY := hide (put6_blk zb (.int .i64 k9) (.int .i64 n9) (.int .u64 (b9n : Int)) (.string s9) (.slice pL9 nL9 cL9) (.slice pE9 nE9 cE9))
                    have HR := hide (led_out ((_root_.Go.below_drewN hbw 1).trans (b9.mono (_root_.Go.below_drewN hbw 1).size)) hN hres)
                    clear hres b9 zb)
    all_goals
     go_wp2
     obtain ⟨Y, hYe⟩ : ∃ Y, Y = put6 w9 (w.heap.size + 1) (.int .i64 k9) (.int .i64 n9) (.int .u64 (b9n : Int)) (.string s9) (.slice pL9 nL9 cL9) (.slice pE9 nE9 cE9) := ⟨_, rfl⟩
     rw [← hYe] at HY HR
     simp only [put6] at hYe
     rw [← hYe]
     clear hYe z0 z1 z2 z3 z4 z5 f0 f1 f2 f3 f4 f5
     refine bodyPost_ret (results_led _ HY.out) rfl ?_
     exact HR.out
  ·have hlead : leadV t (x :: P) = .inr er := by rw [leadV_cons, hz]; rfl
   have HLD := hide hlead
   have HK1 := hide hk1
   obtain ⟨z0, z1, z2, z3, z4, z5⟩ := hk1.cells6
   have f0 := Blk.froz hk1 0
   have f1 := Blk.froz hk1 1
   have f2 := Blk.froz hk1 2
   have f3 := Blk.froz hk1 3
   have f4 := Blk.froz hk1 4
   have f5 := Blk.froz hk1 5
   have HY := hide (put6_blk hk1 (.int .i64 0) (.int .i64 0) (.int .u64 0) (.string ⟨#[]⟩) (.slice none 0 0) (.slice none 0 0))
   have HF := hide (below_put6 hbw (b := w.heap.size + 1) (by omega) (.int .i64 0) (.int .i64 0) (.int .u64 0) (.string ⟨#[]⟩) (.slice none 0 0) (.slice none 0 0))
   have n2 : (er != 0) = true := bne_iff_ne.2 hne
   have HNE := hide hne
   clear hlead hz hk1 hLw hP HM ih hBk
   go_wp2
   obtain ⟨Y, hYe⟩ : ∃ Y, Y = put6 wc (w.heap.size + 1) (.int .i64 0) (.int .i64 0) (.int .u64 0) (.string ⟨#[]⟩) (.slice none 0 0) (.slice none 0 0) := ⟨_, rfl⟩
   rw [← hYe] at HY HF
   simp only [put6] at hYe
   rw [← hYe]
   clear hYe z0 z1 z2 z3 z4 z5 f0 f1 f2 f3 f4 f5
   refine bodyPost_ret (results_led _ HY.out) rfl ?_
   exact ⟨.inr ⟨er, HLD.out, HNE.out, rfl⟩, HF.out⟩
end Go.Proofs.YtadaehaemmelfaaDoor.paths
