/- Of our texts, what this claim reaches. -/
import Derived.Test.YtnbfnjhbmeocfaaGreatDoorPblBP
import Derived.Test.YtnbfnjhbmeocfaaGreatDoorPblBT
import Derived.Test.YtnbfnjhbmeocfaaGreatDoorPblAA
import Derived.Test.YtnbfnjhbmeocfaaGreatDoorPblBK
import Derived.Test.YtnbfnjhbmeocfaaGreatDoorPblBS
import Derived.Test.YtnbfnjhbmeocfaaGreatDoorPblAD
import Derived.Test.YtnbfnjhbmeocfaaGreatDoorPblAB
import Derived.Test.YtnbfnjhbmeocfaaGreatDoorPblAE
import Derived.Deep.QuietTactic
import Derived.BigQuiet
set_option linter.unusedVariables false
set_option maxHeartbeats 8000000
set_option maxRecDepth 100000
namespace Go.Proofs.YtnbfnjhbmeocfaaGreatDoor.valus
open Go.RowKit Go.Shelf
open trees (nd Lies pd sols docR placeOf)
open toks (toksL MaxOk)
theorem blk_drewM {w : World} {b : Nat} {cs : Array Value} {t : Nat} (h : Blk w b cs t) : Blk w.drew b cs t := h
def MeanAns (s : ByteArray) (x : V ⊕ (Int × Int)) : Prop :=
 (20000 < s.size ∧ x = .inr (0, 2)) ∨ (s.size ≤ 20000 ∧
  ((∃ c ts, pd (sols s.data.toList) = .inl (c, ts) ∧ x = .inr ((placeOf s (toksL s.data.toList) ts : Int), (c : Int))) ∨
   ∃ t, pd (sols s.data.toList) = .inr (t, []) ∧
    ((∃ pq, MeanR (KeyR s (toksL s.data.toList)) (LeafR s (toksL s.data.toList)) 20 t (.inr pq) ∧ x = .inr pq) ∨
     ∃ v, MeanR (KeyR s (toksL s.data.toList)) (LeafR s (toksL s.data.toList)) 20 t (.inl v) ∧ ((faultV oneV v = 0 ∧ x = .inl v) ∨ (faultV oneV v ≠ 0 ∧ x = .inr (0, faultV oneV v))))))
abbrev MeanW (s : ByteArray) (w : World) (e : Ending) (w' : World) : Prop :=
 ((∃ (vk nn : Int) (b : Nat) (z : ByteArray) (pL : Option Addr) (nL cL : Nat) (pE : Option Addr) (nE cE : Nat) (v : V), e = .returned (.tuple #[.agg #[.int .i64 vk, .int .i64 nn, .int .u64 (b : Int), .string z, .slice pL nL cL, .slice pE nE cE], .int .i64 0, .int .i64 0]) ∧ MeanAns s (.inl v) ∧ LiesV (fun q => w.heap.size ≤ q ∧ q < w'.heap.size) 40 w' [.int .i64 vk, .int .i64 nn, .int .u64 (b : Int), .string z, .slice pL nL cL, .slice pE nE cE] v) ∨
  ∃ pq : Int × Int, e = .returned (.tuple #[.agg #[.int .i64 0, .int .i64 0, .int .u64 0, .string ⟨#[]⟩, .slice none 0 0, .slice none 0 0], .int .i64 pq.1, .int .i64 pq.2]) ∧ MeanAns s (.inr pq)) ∧ Below w.heap.size w w'
theorem results_mean {w : World} {B : Nat} {u0 u1 u2 u3 u4 u5 : Value} {x y : Int} (tmps : Array Value) (h : Blk w B #[u0, u1, u2, u3, u4, u5] 26) (ht : tmps[2]? = some (.pointer (some ⟨B, 0, none⟩)) := by rfl) (hx : tmps[3]? = some (.int .i64 x) := by rfl) (hy : tmps[4]? = some (.int .i64 y) := by rfl) : (results Tryz.f11 tmps).run Tryz.prog w = .ok (.tuple #[.agg #[u0, u1, u2, u3, u4, u5], .int .i64 x, .int .i64 y]) w := by
 obtain ⟨c0, c1, c2, c3, c4, c5⟩ := h.cells6
 simp [results, Tryz.f11, ht, hx, hy, go_sem, c0, c1, c2, c3, c4, c5]
theorem mean_bad (w : World) (s : ByteArray) (p e : Int) (he : (e != 0) = true) (u0 u1 u2 : Int) (u3 : Option Addr) (u4 u5 : Nat) (hA : MeanAns s (.inr (p, e)))
  (HP : Calls Tryz.prog 29 #[.string s] (w.alloc (.cells #[.int .i64 0, .int .i64 0, .int .u64 0, .string ⟨#[]⟩, .slice none 0 0, .slice none 0 0] 26)) fun r w' => r = .returned (.tuple #[.agg #[.int .i64 u0, .int .i64 u1, .int .i64 u2, .slice u3 u4 u5], .int .i64 p, .int .i64 e]) ∧ Below (w.alloc (.cells #[.int .i64 0, .int .i64 0, .int .u64 0, .string ⟨#[]⟩, .slice none 0 0, .slice none 0 0] 26)).heap.size (w.alloc (.cells #[.int .i64 0, .int .i64 0, .int .u64 0, .string ⟨#[]⟩, .slice none 0 0, .slice none 0 0] 26)) w') :
  Calls Tryz.prog 11 #[.string s] w (MeanW s w) := by
 have b0 : Below w.heap.size w (w.alloc (.cells #[.int .i64 0, .int .i64 0, .int .u64 0, .string ⟨#[]⟩, .slice none 0 0, .slice none 0 0] 26)) := (Below.refl _ w).alloc (Nat.le_refl _) _
 have hr0 := blk_alloc w #[.int .i64 0, .int .i64 0, .int .u64 0, .string ⟨#[]⟩, .slice none 0 0, .slice none 0 0] 26
 have HC := hide HP
 have HH := hide (And.intro b0 (And.intro hr0 hA))
 clear b0 hr0 hA HP
 go_enter Tryz.func11, Tryz.ntmps11
 go_upto_region 2 with (go_at_call 29; refine (unhide HC).mono ?_; rintro r w1 ⟨rfl, b1⟩)
 obtain ⟨b0, hr0, hA⟩ := HH.out
 have bA : Below w1.heap.size w1 (w1.alloc (.cells #[.int .i64 u0, .int .i64 u1, .int .i64 u2, .slice u3 u4 u5] 59)) := (Below.refl _ w1).alloc (Nat.le_refl _) _
 have hr5 := (hr0.below b1).below bA
 have FIN := hide (And.intro hA (b0.trans ((b1.trans (bA.mono b1.size)).mono (by simp))))
 clear b0 hr0 hA HC HH b1 bA
 generalize w1.alloc (.cells #[.int .i64 u0, .int .i64 u1, .int .i64 u2, .slice u3 u4 u5] 59) = X at *
 go_upto_region 3 with fail
 have hY := put6_blk hr5 (.int .i64 0) (.int .i64 0) (.int .u64 0) (.string ⟨#[]⟩) (.slice none 0 0) (.slice none 0 0)
 have HY := hide hY
 have HF := hide (below_put6 (Below.refl w.heap.size X) (b := w.heap.size) (Nat.le_refl _) (.int .i64 0) (.int .i64 0) (.int .u64 0) (.string ⟨#[]⟩) (.slice none 0 0) (.slice none 0 0))
 have x0 := hr5.cell 0 _ rfl
 have x1 := hr5.cell 1 _ rfl
 have x2 := hr5.cell 2 _ rfl
 have x3 := hr5.cell 3 _ rfl
 have x4 := hr5.cell 4 _ rfl
 have x5 := hr5.cell 5 _ rfl
 have z0 := Blk.froz hr5 0
 have z1 := Blk.froz hr5 1
 have z2 := Blk.froz hr5 2
 have z3 := Blk.froz hr5 3
 have z4 := Blk.froz hr5 4
 have z5 := Blk.froz hr5 5
 clear hY
 go_wp2
 have hY := HY.out
 have hF := HF.out
 clear HY HF x0 x1 x2 x3 x4 x5 z0 z1 z2 z3 z4 z5 
 generalize hXX : put6 X w.heap.size (.int .i64 0) (.int .i64 0) (.int .u64 0) (.string ⟨#[]⟩) (.slice none 0 0) (.slice none 0 0) = Y at hY hF
 simp only [put6] at hXX
 rw [hXX]
 clear hXX
 refine bodyPost_ret (results_mean _ hY) rfl ?_
 obtain ⟨hA, bX⟩ := FIN.out
 exact ⟨.inr ⟨(p, e), rfl, hA⟩, bX.trans hF⟩
theorem mean_good (w : World) (s : ByteArray) (hs : s.size ≤ 20000) (hM : MaxOk w) (hT : Lib.Utf8Tabs 1 2 w) (t : trees.T) (hp : pd (sols s.data.toList) = .inr (t, [])) :
  Calls Tryz.prog 11 #[.string s] w (MeanW s w) := by
 have b0 : Below w.heap.size w (w.alloc (.cells #[.int .i64 0, .int .i64 0, .int .u64 0, .string ⟨#[]⟩, .slice none 0 0, .slice none 0 0] 26)) := (Below.refl _ w).alloc (Nat.le_refl _) _
 have s0 : (w.alloc (.cells #[.int .i64 0, .int .i64 0, .int .u64 0, .string ⟨#[]⟩, .slice none 0 0, .slice none 0 0] 26)).heap.size = w.heap.size + 1 := by simp
 have hr0 := blk_alloc w #[.int .i64 0, .int .i64 0, .int .u64 0, .string ⟨#[]⟩, .slice none 0 0, .slice none 0 0] 26
 have HP := trees.parse_any (w.alloc (.cells #[.int .i64 0, .int .i64 0, .int .u64 0, .string ⟨#[]⟩, .slice none 0 0, .slice none 0 0] 26)) s hs (hM.below (Nat.le_refl _) b0)
 have hdoc : docR (toksL s.data.toList).length (sols s.data.toList) = .inr (nd 6 0 (toksL s.data.toList).length [t], []) := by unfold docR; rw [hp]
 rw [hdoc] at HP
 have HPP : Calls Tryz.prog 29 #[.string s] (w.alloc (.cells #[.int .i64 0, .int .i64 0, .int .u64 0, .string ⟨#[]⟩, .slice none 0 0, .slice none 0 0] 26)) fun r w' => (∃ (dk da de : Int) (kb ko dc : Nat), r = .returned (.tuple #[.agg #[.int .i64 dk, .int .i64 da, .int .i64 de, .slice (some ⟨kb, ko, none⟩) 1 dc], .int .i64 0, .int .i64 0]) ∧ kb < w'.heap.size ∧ ∃ us : List Value, us.length = 4 ∧ (∀ i, i < 4 → w'.cell? ⟨kb, ko + i, none⟩ = us[i]?) ∧ Lies (fun q => q < w'.heap.size) 40 w' us t) ∧ Below (w.alloc (.cells #[.int .i64 0, .int .i64 0, .int .u64 0, .string ⟨#[]⟩, .slice none 0 0, .slice none 0 0] 26)).heap.size (w.alloc (.cells #[.int .i64 0, .int .i64 0, .int .u64 0, .string ⟨#[]⟩, .slice none 0 0, .slice none 0 0] 26)) w' := by
  refine HP.mono ?_
  rintro r w' ⟨hb, u0, u1, u2, u3, rfl, hl⟩
  refine ⟨?_, hb⟩
  have hfin : ∀ (f : Nat) (us : List Value) (x : trees.T), Lies (fun b => (w.alloc (.cells #[.int .i64 0, .int .i64 0, .int .u64 0, .string ⟨#[]⟩, .slice none 0 0, .slice none 0 0] 26)).heap.size ≤ b) f w' us x → Lies (fun q => q < w'.heap.size) f w' us x := by
   intro f
   induction f with
   | zero => exact fun us x h => h.elim
   | succ f ih =>
    rintro us x ⟨k, a, e, l, p, cap, h1, h2, h3, h4⟩
    refine ⟨k, a, e, l, p, cap, h1, h2, h3, fun hl => ?_⟩
    obtain ⟨b, o, q1, q2, q3, q4⟩ := h4 hl
    refine ⟨b, o, q1, q3, q3, fun j hj => ?_⟩
    obtain ⟨vs, v1, v2, v3⟩ := q4 j hj
    exact ⟨vs, v1, v2, ih vs _ v3⟩
  obtain ⟨k, a, e, l, p, cap, h1, h2, h3, h4⟩ := hl
  obtain ⟨rfl, rfl, rfl, rfl⟩ := trees.nd_inj h1
  obtain ⟨kb, ko, rfl, _, hlt, hk⟩ := h4 (by simp)
  injection h2 with e0 h2
  injection h2 with e1 h2
  injection h2 with e2 h2
  injection h2 with e3 _
  subst e0 e1 e2 e3
  obtain ⟨us, q1, q2, q3⟩ := hk 0 (by simp)
  refine ⟨_, _, _, kb, ko, cap, rfl, hlt, us, q1, fun i hi => ?_, hfin _ _ _ q3⟩
  have := q2 i hi
  rwa [Nat.zero_mul, Nat.add_zero] at this
 have HC := hide HPP
 have HH := hide (And.intro b0 (And.intro s0 (And.intro hr0 (And.intro hM (And.intro hT hp)))))
 clear b0 hr0 HP hdoc HPP hM hT s0 hp
 go_enter Tryz.func11, Tryz.ntmps11
 go_upto_region 2 with (go_at_call 29; refine (unhide HC).mono ?_; rintro r w1 ⟨⟨dk, da, de, kb, ko, dc, rfl, hkb, us, hus, hce, hly⟩, b1⟩)
 obtain ⟨b0, s0, hr0, hM, hT, hp⟩ := HH.out
 have hfrm : ∃ (tk ta te : Int) (tp : Option Addr) (tl tc : Nat), us = [.int .i64 tk, .int .i64 ta, .int .i64 te, .slice tp tl tc] := by
  obtain ⟨a1, a2, a3, a4, a5, a6, _, rfl, _⟩ := hly
  exact ⟨_, _, _, _, _, _, rfl⟩
 obtain ⟨tk, ta, te, tp, tl, tc, rfl⟩ := hfrm
 have bA : Below w1.heap.size w1 (w1.alloc (.cells #[.int .i64 dk, .int .i64 da, .int .i64 de, .slice (some ⟨kb, ko, none⟩) 1 dc] 59)) := (Below.refl _ w1).alloc (Nat.le_refl _) _
 have hN := blk_alloc w1 #[.int .i64 dk, .int .i64 da, .int .i64 de, .slice (some ⟨kb, ko, none⟩) 1 dc] 59
 have bP : Below w.heap.size w (w1.alloc (.cells #[.int .i64 dk, .int .i64 da, .int .i64 de, .slice (some ⟨kb, ko, none⟩) 1 dc] 59)) := b0.trans ((b1.trans (bA.mono b1.size)).mono (by omega))
 have KC := hide (toks.cut_any s (w1.alloc (.cells #[.int .i64 dk, .int .i64 da, .int .i64 de, .slice (some ⟨kb, ko, none⟩) 1 dc] 59)) hs (hM.below (Nat.le_refl _) bP))
 have HA : Hid (Below w.heap.size w (w1.alloc (.cells #[.int .i64 dk, .int .i64 da, .int .i64 de, .slice (some ⟨kb, ko, none⟩) 1 dc] 59)) ∧ Blk (w1.alloc (.cells #[.int .i64 dk, .int .i64 da, .int .i64 de, .slice (some ⟨kb, ko, none⟩) 1 dc] 59)) w.heap.size #[.int .i64 0, .int .i64 0, .int .u64 0, .string ⟨#[]⟩, .slice none 0 0, .slice none 0 0] 26 ∧ Blk (w1.alloc (.cells #[.int .i64 dk, .int .i64 da, .int .i64 de, .slice (some ⟨kb, ko, none⟩) 1 dc] 59)) w1.heap.size #[.int .i64 dk, .int .i64 da, .int .i64 de, .slice (some ⟨kb, ko, none⟩) 1 dc] 59 ∧ kb < w1.heap.size ∧ (∀ i, i < 4 → (w1.alloc (.cells #[.int .i64 dk, .int .i64 da, .int .i64 de, .slice (some ⟨kb, ko, none⟩) 1 dc] 59)).cell? ⟨kb, ko + i, none⟩ = [Value.int .i64 tk, .int .i64 ta, .int .i64 te, .slice tp tl tc][i]?) ∧ Lies (fun q => q < w1.heap.size) 40 (w1.alloc (.cells #[.int .i64 dk, .int .i64 da, .int .i64 de, .slice (some ⟨kb, ko, none⟩) 1 dc] 59)) [.int .i64 tk, .int .i64 ta, .int .i64 te, .slice tp tl tc] t ∧ w.heap.size < w1.heap.size) := hide ⟨bP, (hr0.below b1).below bA, hN, hkb, fun i hi => (bA.cell (p := ⟨kb, ko + i, none⟩) hkb).trans (hce i hi), hly.below bA, by have := b1.size; omega⟩
 clear HC b0 s0 hr0 b1 bA hN bP hM hce hly hus hkb
 generalize hP0 : w1.alloc (.cells #[.int .i64 dk, .int .i64 da, .int .i64 de, .slice (some ⟨kb, ko, none⟩) 1 dc] 59) = P at KC HA
 obtain ⟨N, hNN⟩ : ∃ N, N = w1.heap.size := ⟨_, rfl⟩
 rw [← hNN] at HA ⊢
 clear hP0 hNN HH
 have HT := hide (And.intro hT hp)
 clear hT hp
 go_upto_region 6 with (go_at_call 15; refine (unhide KC).mono ?_; rintro r w3 ⟨v, rfl, ⟨ta0, cap, rfl, hcap, hRT⟩, b3⟩)
 obtain ⟨bP, hr3, hN3, hkb, hce, hly, hwN⟩ := HA.out
 obtain ⟨hT, hp⟩ := HT.out
 have g := trees.good s hs
 obtain ⟨L, hL⟩ : ∃ L, L = toksL s.data.toList := ⟨_, rfl⟩
 rw [← hL] at g hRT hcap ⊢
 have hLl : L.length ≤ 20000 := by
  rw [hL, toks.toksL_eq]
  exact Nat.le_trans (toks.cutP_len 0 _) hs
 have hgd : ∀ (j : Nat) (h : j < L.length), L[j].fro ≤ L[j].til ∧ L[j].til ≤ s.size := by
  subst hL
  intro j hj
  obtain ⟨a1, a2, a3, a4, a5, _⟩ := toks.cut_at j 0 s.data.toList (toksL s.data.toList)[j] (List.getElem?_eq_getElem hj)
  have e : s.data.toList.length = s.size := rfl
  omega
 have bR : Below w3.heap.size w3 (w3.alloc (.cells #[.string s, .slice ta0 L.length cap, .int .i64 0, .int .i64 0] 63)) := (Below.refl _ w3).alloc (Nat.le_refl _) _
 have hRb := blk_alloc w3 #[.string s, .slice ta0 L.length cap, .int .i64 0, .int .i64 0] 63
 have b3R := b3.trans (bR.mono b3.size)
 have hP3 := b3.size
 have hNP := hN3.lt
 have hmX : MRd (w3.alloc (.cells #[.string s, .slice ta0 L.length cap, .int .i64 0, .int .i64 0] 63)) w3.heap.size s L 0 0 := by
  refine ⟨ta0, cap, hRb, hcap, by omega, fun h0 => ?_⟩
  obtain ⟨q, o, e1, e2, e3⟩ := hRT h0
  refine ⟨q, o, e1, e2, fun j hj => ?_⟩
  obtain ⟨c0, c1, c2⟩ := e3 j hj
  exact ⟨(bR.cell (p := ⟨q, o + j * 3, none⟩) e2).trans c0, (bR.cell (p := ⟨q, o + j * 3 + 1, none⟩) e2).trans c1, (bR.cell (p := ⟨q, o + j * 3 + 2, none⟩) e2).trans c2⟩
 have bX : Below w.heap.size w (w3.alloc (.cells #[.string s, .slice ta0 L.length cap, .int .i64 0, .int .i64 0] 63)) := bP.trans (b3R.mono bP.size)
 have hTX : Tabs w3.heap.size (w3.alloc (.cells #[.string s, .slice ta0 L.length cap, .int .i64 0, .int .i64 0] 63)) := by
  have hws := bP.size
  refine ⟨Utf8Tabs_below hT bX, ?_, ?_⟩
  ·have := World.block_lt_of_cell? w _ (hT.1 0 (by decide))
   simp only at this
   omega
  ·have := World.block_lt_of_cell? w _ (hT.2 0 (by decide)).1
   simp only at this
   omega
 have hlX : Lies (fun q => q < w3.heap.size) 40 (w3.alloc (.cells #[.string s, .slice ta0 L.length cap, .int .i64 0, .int .i64 0] 63)) [.int .i64 tk, .int .i64 ta, .int .i64 te, .slice tp tl tc] t := (hly.kept b3R.size (fun q _ hq => b3R.block q hq)).weaken (fun q hq => by omega)
 have hpv := trees.val_alone (trees.pd_val hp).2
 have hsl : (sols s.data.toList).length ≤ 20000 := trees.sols_len s hs
 have HS := hide hs
 have hform : FormT L.length 20 t := form_pv L.length 20 (sols s.data.toList) t (fun x hx => by rw [hL]; exact trees.sym_lt hx) hsl hpv
 have C := read_all w3.heap.size s L (by omega) hgd 20 t hform 40 (Nat.le_refl _) (w3.alloc (.cells #[.string s, .slice ta0 L.length cap, .int .i64 0, .int .i64 0] 63)) 0 0 _ _ _ _ hmX hlX hTX
 have HC := hide C
 have hrX := (hr3.below b3R)
 have hNX := (hN3.below b3R)
 have hcX : ∀ i, i < 4 → (w3.alloc (.cells #[.string s, .slice ta0 L.length cap, .int .i64 0, .int .i64 0] 63)).cell? ⟨kb, ko + i, none⟩ = [Value.int .i64 tk, .int .i64 ta, .int .i64 te, .slice tp tl tc][i]? := fun i hi => (b3R.cell (p := ⟨kb, ko + i, none⟩) (show kb < P.heap.size by omega)).trans (hce i hi)
 have hsX : (w3.alloc (.cells #[.string s, .slice ta0 L.length cap, .int .i64 0, .int .i64 0] 63)).heap.size = w3.heap.size + 1 := by simp
 have hwR : w.heap.size < w3.heap.size := by omega
 have HG := hide (And.intro bX (And.intro hrX (And.intro hTX (And.intro hsX (And.intro hwR (And.intro hp (And.intro hpv hsl)))))))
 have n3 := hNX.cell 3 _ rfl
 simp only [List.getElem_toArray, List.getElem_cons_zero, List.getElem_cons_succ] at n3
 have k0 := hcX 0 (by omega)
 have k1 := hcX 1 (by omega)
 have k2 := hcX 2 (by omega)
 have k3 := hcX 3 (by omega)
 simp only [List.getElem?_cons_zero, List.getElem?_cons_succ, Nat.add_zero] at k0 k1 k2 k3
 have HL := hide hL
 clear C hrX hNX hcX hsX hwR bX hTX hlX hpv hsl hform bR hRb b3R hmX hgd hP3 hNP g hLl hRT hcap b3 bP hr3 hN3 hkb hce hly hwN hT hp HA HT KC hL hs
 generalize hXX : w3.alloc (.cells #[.string s, .slice ta0 L.length cap, .int .i64 0, .int .i64 0] 63) = X at *
 obtain ⟨R, hR⟩ : ∃ R, R = w3.heap.size := ⟨_, rfl⟩
 rw [← hR] at HC HG ⊢
 clear hR hXX
 go_upto_region 7 with (go_at_call 30; refine (unhide HC).mono ?_; rintro e1 w5 ⟨hres, o5⟩; rcases hres with ⟨vk, nn, b, z, pL, nL, cL, pE, nE, cE, v, rfl, hRel, hlv, hm5⟩ | ⟨pq, rfl, hRel, hm5⟩)
 ·obtain ⟨bX, hrX, hTX, hsX, hwR, hp, hpv, hsl⟩ := HG.out
  have hL := HL.out
  subst hL
  have bV : Below w5.heap.size w5 (w5.alloc (.cells #[.int .i64 vk, .int .i64 nn, .int .u64 (b : Int), .string z, .slice pL nL cL, .slice pE nE cE] 26)) := (Below.refl _ w5).alloc (Nat.le_refl _) _
  have hD := blk_alloc w5 #[.int .i64 vk, .int .i64 nn, .int .u64 (b : Int), .string z, .slice pL nL cL, .slice pE nE cE] 26
  have o6 := o5.trans (only_of_belowM (R := R) bV)
  have hr6 : Blk (w5.alloc (.cells #[.int .i64 vk, .int .i64 nn, .int .u64 (b : Int), .string z, .slice pL nL cL, .slice pE nE cE] 26)) w.heap.size #[.int .i64 0, .int .i64 0, .int .u64 0, .string ⟨#[]⟩, .slice none 0 0, .slice none 0 0] 26 := (o6.block w.heap.size (by omega) (fun e => by have := Option.some.inj e; omega)).trans hrX
  have hT6 := hTX.only (by omega) o6
  have hb6 : Below w.heap.size w (w5.alloc (.cells #[.int .i64 vk, .int .i64 nn, .int .u64 (b : Int), .string z, .slice pL nL cL, .slice pE nE cE] 26)) := ⟨o6.os.trans bX.os, o6.tape.trans bX.tape, o6.output.trans bX.output, Nat.le_trans bX.size o6.size, fun q hq => (o6.block q (by have := bX.size; omega) (fun e => by have := Option.some.inj e; omega)).trans (bX.block q hq)⟩
  have hl6 : LiesV (fun q => w.heap.size ≤ q ∧ q < w5.heap.size ∧ w.heap.size < q) 40 (w5.alloc (.cells #[.int .i64 vk, .int .i64 nn, .int .u64 (b : Int), .string z, .slice pL nL cL, .slice pE nE cE] 26)) [.int .i64 vk, .int .i64 nn, .int .u64 (b : Int), .string z, .slice pL nL cL, .slice pE nE cE] v := hlv.kept (fun q hq => ⟨by omega, hq.2, by omega⟩) bV.size (fun q hq _ => bV.block q hq.2)
  have hnd : nodesV 40 v ≤ 10000000 := by
   have := mean_nodes (kr := KeyR s (toksL s.data.toList)) (lf := LeafR s (toksL s.data.toList)) (fun a v h => by
    obtain ⟨_, lab, er, _, h⟩ := h
    rcases h with ⟨_, h⟩ | ⟨_, h⟩
    ·injection h with h
     exact ⟨lab, h⟩
    ·cases h) 0 20 20 (sols s.data.toList) t v hpv hRel 40
   omega
  have hs6 : (w5.alloc (.cells #[.int .i64 vk, .int .i64 nn, .int .u64 (b : Int), .string z, .slice pL nL cL, .slice pE nE cE] 26)).heap.size = w5.heap.size + 1 := by simp
  have KC := hide (callsIn_wide.1 (check_any 40 (w5.alloc (.cells #[.int .i64 vk, .int .i64 nn, .int .u64 (b : Int), .string z, .slice pL nL cL, .slice pE nE cE] 26)) v _ _ _ _ _ _ (hl6.kept (fun q hq => by omega) (Nat.le_refl _) (fun _ _ _ => rfl)) hnd hT6.1))
  have HA := hide (And.intro hr6 (And.intro hD (And.intro hb6 (And.intro hl6 (And.intro hs6 (And.intro hp (And.intro hRel hwR)))))))
  obtain ⟨fv, hfv⟩ : ∃ fv, fv = faultV oneV v := ⟨_, rfl⟩
  rw [← hfv] at KC
  have HFV := hide hfv
  have q0 := hD.cell 0 _ rfl
  have q1 := hD.cell 1 _ rfl
  have q2 := hD.cell 2 _ rfl
  have q3 := hD.cell 3 _ rfl
  have q4 := hD.cell 4 _ rfl
  have q5 := hD.cell 5 _ rfl
  clear bV hD o6 hr6 hT6 hb6 hl6 hnd hs6 hp hRel hwR bX hrX hTX hsX hpv hsl o5 hlv hm5 HC HG HL n3 k0 k1 k2 k3 hfv
  generalize hPP : w5.alloc (.cells #[.int .i64 vk, .int .i64 nn, .int .u64 (b : Int), .string z, .slice pL nL cL, .slice pE nE cE] 26) = P5 at KC HA q0 q1 q2 q3 q4 q5 ⊢
  obtain ⟨B, hB⟩ : ∃ B, B = w5.heap.size := ⟨_, rfl⟩
  rw [← hB] at HA q0 q1 q2 q3 q4 q5 ⊢
  clear hPP hB
  cases h0 : (fv != 0) with
  | true =>
   go_upto_region 11 with (go_at_call 17; refine (unhide KC).mono ?_; rintro e2 w6 ⟨rfl, b6⟩)
   obtain ⟨hr6, hD, hb6, hl6, hs6, hp, hRel, hwR⟩ := HA.out
   have hr5 := hr6.below b6
   have FIN := hide (And.intro (show MeanAns s (.inr (0, fv)) from .inr ⟨HS.out, .inr ⟨t, hp, .inr ⟨v, hRel, .inr ⟨fun e => by rw [HFV.out, e] at h0; simp at h0, by rw [HFV.out]⟩⟩⟩⟩) (hb6.trans (b6.mono hb6.size)))
   clear hr6 hD hb6 hl6 hs6 hp hRel hwR b6 KC HA HFV q0 q1 q2 q3 q4 q5
   have hY := put6_blk hr5 (.int .i64 0) (.int .i64 0) (.int .u64 0) (.string ⟨#[]⟩) (.slice none 0 0) (.slice none 0 0)
   have HY := hide hY
   have HF := hide (below_put6 (Below.refl w.heap.size w6) (b := w.heap.size) (Nat.le_refl _) (.int .i64 0) (.int .i64 0) (.int .u64 0) (.string ⟨#[]⟩) (.slice none 0 0) (.slice none 0 0))
   have x0 := hr5.cell 0 _ rfl
   have x1 := hr5.cell 1 _ rfl
   have x2 := hr5.cell 2 _ rfl
   have x3 := hr5.cell 3 _ rfl
   have x4 := hr5.cell 4 _ rfl
   have x5 := hr5.cell 5 _ rfl
   have z0 := Blk.froz hr5 0
   have z1 := Blk.froz hr5 1
   have z2 := Blk.froz hr5 2
   have z3 := Blk.froz hr5 3
   have z4 := Blk.froz hr5 4
   have z5 := Blk.froz hr5 5
   clear hY
   go_wp2
   have hY := HY.out
   have hF := HF.out
   clear HY HF x0 x1 x2 x3 x4 x5 z0 z1 z2 z3 z4 z5 
   generalize hXX : put6 w6 w.heap.size (.int .i64 0) (.int .i64 0) (.int .u64 0) (.string ⟨#[]⟩) (.slice none 0 0) (.slice none 0 0) = Y at hY hF
   simp only [put6] at hXX
   rw [hXX]
   clear hXX
   refine bodyPost_ret (results_mean _ hY) rfl ?_
   obtain ⟨hA, bX⟩ := FIN.out
   exact ⟨.inr ⟨(0, fv), rfl, hA⟩, bX.trans hF⟩
  | false =>
   have hfz : fv = 0 := by simpa using h0
   subst hfz
   go_upto_region 12 with (go_at_call 17; refine (unhide KC).mono ?_; rintro e2 w6 ⟨rfl, b6⟩)
   obtain ⟨hr6, hD, hb6, hl6, hs6, hp, hRel, hwR⟩ := HA.out
   have hr5 := hr6.below b6
   have hD6 := hD.below b6
   have hv6 : LiesV (fun q => w.heap.size < q ∧ q < w6.heap.size) 40 w6 [.int .i64 vk, .int .i64 nn, .int .u64 (b : Int), .string z, .slice pL nL cL, .slice pE nE cE] v := hl6.kept (fun q hq => ⟨hq.2.2, by have := b6.size; omega⟩) b6.size (fun q hq _ => b6.block q (by omega))
   have FIN := hide (And.intro (show MeanAns s (.inl v) from .inr ⟨HS.out, .inr ⟨t, hp, .inr ⟨v, hRel, .inl ⟨HFV.out.symm, rfl⟩⟩⟩⟩) (And.intro hv6 (hb6.trans (b6.mono hb6.size))))
   clear hr6 hD hb6 hl6 hs6 hp hRel hwR b6 KC HA HFV q0 q1 q2 q3 q4 q5 h0 hv6
   have hY := put6_blk hr5 (.int .i64 vk) (.int .i64 nn) (.int .u64 (b : Int)) (.string z) (.slice pL nL cL) (.slice pE nE cE)
   have HY := hide hY
   have HF := hide (below_put6 (Below.refl w.heap.size w6) (b := w.heap.size) (Nat.le_refl _) (.int .i64 vk) (.int .i64 nn) (.int .u64 (b : Int)) (.string z) (.slice pL nL cL) (.slice pE nE cE))
   have x0 := hr5.cell 0 _ rfl
   have x1 := hr5.cell 1 _ rfl
   have x2 := hr5.cell 2 _ rfl
   have x3 := hr5.cell 3 _ rfl
   have x4 := hr5.cell 4 _ rfl
   have x5 := hr5.cell 5 _ rfl
   have z0 := Blk.froz hr5 0
   have z1 := Blk.froz hr5 1
   have z2 := Blk.froz hr5 2
   have z3 := Blk.froz hr5 3
   have z4 := Blk.froz hr5 4
   have z5 := Blk.froz hr5 5
   have q0 := hD6.cell 0 _ rfl
   have q1 := hD6.cell 1 _ rfl
   have q2 := hD6.cell 2 _ rfl
   have q3 := hD6.cell 3 _ rfl
   have q4 := hD6.cell 4 _ rfl
   have q5 := hD6.cell 5 _ rfl
   clear hY
   go_wp2
   have hY := HY.out
   have hF := HF.out
   clear HY HF x0 x1 x2 x3 x4 x5 z0 z1 z2 z3 z4 z5 q0 q1 q2 q3 q4 q5
   have HOT := hide (fun q (hq : w.heap.size < q) => put6_otherM w6 w.heap.size q (by omega) (.int .i64 vk) (.int .i64 nn) (.int .u64 (b : Int)) (.string z) (.slice pL nL cL) (.slice pE nE cE))
   generalize hXX : put6 w6 w.heap.size (.int .i64 vk) (.int .i64 nn) (.int .u64 (b : Int)) (.string z) (.slice pL nL cL) (.slice pE nE cE) = Y at hY hF HOT
   simp only [put6] at hXX
   rw [hXX]
   clear hXX
   refine bodyPost_ret (results_mean _ hY) rfl ?_
   obtain ⟨hA, hv6, bX⟩ := FIN.out
   have hsz := hF.size
   exact ⟨.inl ⟨vk, nn, b, z, pL, nL, cL, pE, nE, cE, v, rfl, hA, hv6.kept (fun q hq => by omega) hsz (fun q hq _ => HOT.out q (by omega))⟩, bX.trans hF⟩
 ·obtain ⟨bX, hrX, hTX, hsX, hwR, hp, hpv, hsl⟩ := HG.out
  have hL := HL.out
  subst hL
  have bV : Below w5.heap.size w5 (w5.alloc (.cells #[.int .i64 0, .int .i64 0, .int .u64 0, .string ⟨#[]⟩, .slice none 0 0, .slice none 0 0] 26)) := (Below.refl _ w5).alloc (Nat.le_refl _) _
  have o6 := o5.trans (only_of_belowM (R := R) bV)
  have hr5 : Blk (w5.alloc (.cells #[.int .i64 0, .int .i64 0, .int .u64 0, .string ⟨#[]⟩, .slice none 0 0, .slice none 0 0] 26)) w.heap.size #[.int .i64 0, .int .i64 0, .int .u64 0, .string ⟨#[]⟩, .slice none 0 0, .slice none 0 0] 26 := (o6.block w.heap.size (by omega) (fun e => by have := Option.some.inj e; omega)).trans hrX
  have hb6 : Below w.heap.size w (w5.alloc (.cells #[.int .i64 0, .int .i64 0, .int .u64 0, .string ⟨#[]⟩, .slice none 0 0, .slice none 0 0] 26)) := ⟨o6.os.trans bX.os, o6.tape.trans bX.tape, o6.output.trans bX.output, Nat.le_trans bX.size o6.size, fun q hq => (o6.block q (by have := bX.size; omega) (fun e => by have := Option.some.inj e; omega)).trans (bX.block q hq)⟩
  have hm6 := hm5.later bV
  obtain ⟨P1, P2⟩ := pq
  obtain ⟨aR, cR, hRB, _, _, _⟩ := hm6
  have hneq : R ≠ w.heap.size := by omega
  have FIN := hide (And.intro (show MeanAns s (.inr (P1, P2)) from .inr ⟨HS.out, .inr ⟨t, hp, .inl ⟨_, hRel, rfl⟩⟩⟩) hb6)
  clear bV o6 hb6 hp hRel hwR bX hrX hTX hsX hpv hsl o5 hm5 HC HG HL n3 k0 k1 k2 k3
  generalize w5.alloc (.cells #[.int .i64 0, .int .i64 0, .int .u64 0, .string ⟨#[]⟩, .slice none 0 0, .slice none 0 0] 26) = X6 at *
  have r2 := hRB.cell 2 _ rfl
  have r3 := hRB.cell 3 _ rfl
  simp only [List.getElem_toArray, List.getElem_cons_zero, List.getElem_cons_succ] at r2 r3
  clear hRB
  have hneR := hneq
  have hY := put6_blk hr5 (.int .i64 0) (.int .i64 0) (.int .u64 0) (.string ⟨#[]⟩) (.slice none 0 0) (.slice none 0 0)
  have hF := below_put6 (Below.refl w.heap.size X6) (b := w.heap.size) (Nat.le_refl _) (.int .i64 0) (.int .i64 0) (.int .u64 0) (.string ⟨#[]⟩) (.slice none 0 0) (.slice none 0 0)
  have y2 : (put6 X6 w.heap.size (.int .i64 0) (.int .i64 0) (.int .u64 0) (.string ⟨#[]⟩) (.slice none 0 0) (.slice none 0 0)).cell? ⟨R, 2, none⟩ = some (.int .i64 P1) := (World.cell?_of_block (a := ⟨R, 2, none⟩) (put6_otherM X6 w.heap.size R hneR (.int .i64 0) (.int .i64 0) (.int .u64 0) (.string ⟨#[]⟩) (.slice none 0 0) (.slice none 0 0))).trans r2
  have y3 : (put6 X6 w.heap.size (.int .i64 0) (.int .i64 0) (.int .u64 0) (.string ⟨#[]⟩) (.slice none 0 0) (.slice none 0 0)).cell? ⟨R, 3, none⟩ = some (.int .i64 P2) := (World.cell?_of_block (a := ⟨R, 3, none⟩) (put6_otherM X6 w.heap.size R hneR (.int .i64 0) (.int .i64 0) (.int .u64 0) (.string ⟨#[]⟩) (.slice none 0 0) (.slice none 0 0))).trans r3
  simp only [put6] at y2 y3
  have HY := hide hY
  have HF := hide hF
  have x0 := hr5.cell 0 _ rfl
  have x1 := hr5.cell 1 _ rfl
  have x2 := hr5.cell 2 _ rfl
  have x3 := hr5.cell 3 _ rfl
  have x4 := hr5.cell 4 _ rfl
  have x5 := hr5.cell 5 _ rfl
  have z0 := Blk.froz hr5 0
  have z1 := Blk.froz hr5 1
  have z2 := Blk.froz hr5 2
  have z3 := Blk.froz hr5 3
  have z4 := Blk.froz hr5 4
  have z5 := Blk.froz hr5 5
  clear hY hF hneR hneq hr5
  go_upto_region 8 with fail
  go_region
  clear x0 x1 x2 x3 x4 x5 z0 z1 z2 z3 z4 z5 y2 y3 r2 r3
  go_wp2
  obtain ⟨Y, hYe⟩ : ∃ Y, Y = (put6 X6 w.heap.size (.int .i64 0) (.int .i64 0) (.int .u64 0) (.string ⟨#[]⟩) (.slice none 0 0) (.slice none 0 0)).drew := ⟨_, rfl⟩
  have hY2 : Blk Y w.heap.size #[.int .i64 0, .int .i64 0, .int .u64 0, .string ⟨#[]⟩, .slice none 0 0, .slice none 0 0] 26 := by rw [hYe]; exact blk_drewM HY.out
  have hF2 : Below w.heap.size X6 Y := by rw [hYe]; exact HF.out.drew
  simp only [put6] at hYe
  rw [← hYe]
  clear hYe HY HF
  refine bodyPost_ret (results_mean _ hY2) rfl ?_
  obtain ⟨hA, bX⟩ := FIN.out
  exact ⟨.inr ⟨(P1, P2), rfl, hA⟩, bX.trans hF2⟩
theorem mean_any (w : World) (s : ByteArray) (hM : MaxOk w) (hT : Lib.Utf8Tabs 1 2 w) : Calls Tryz.prog 11 #[.string s] w (MeanW s w) := by
 have b0 : Below w.heap.size w (w.alloc (.cells #[.int .i64 0, .int .i64 0, .int .u64 0, .string ⟨#[]⟩, .slice none 0 0, .slice none 0 0] 26)) := (Below.refl _ w).alloc (Nat.le_refl _) _
 by_cases hs : 20000 < s.size
 ·exact mean_bad w s 0 2 rfl 0 0 0 none 0 0 (.inl ⟨hs, rfl⟩) (trees.parse_large (w.alloc (.cells #[.int .i64 0, .int .i64 0, .int .u64 0, .string ⟨#[]⟩, .slice none 0 0, .slice none 0 0] 26)) s hs)
 ·cases hp : pd (sols s.data.toList) with
  | inr q =>
   obtain ⟨t, r⟩ := q
   have hr := (trees.pd_val hp).1
   subst hr
   exact mean_good w s (by omega) hM hT t hp
  | inl q =>
   obtain ⟨c, ts⟩ := q
   have HP := trees.parse_any (w.alloc (.cells #[.int .i64 0, .int .i64 0, .int .u64 0, .string ⟨#[]⟩, .slice none 0 0, .slice none 0 0] 26)) s (by omega) (hM.below (Nat.le_refl _) b0)
   have hd : docR (toksL s.data.toList).length (sols s.data.toList) = .inl (c, ts) := by unfold docR; rw [hp]
   rw [hd] at HP
   obtain ⟨_, _, _, hc⟩ := trees.pd_bad hp
   refine mean_bad w s _ _ ?_ 0 0 0 none 0 0 (.inr ⟨by omega, .inl ⟨c, ts, hp, rfl⟩⟩) (HP.mono fun e w' h => ⟨h.2, h.1⟩)
   rcases hc with rfl | ⟨rfl, _⟩ <;> rfl
end Go.Proofs.YtnbfnjhbmeocfaaGreatDoor.valus
namespace Go.Proofs.YtnbfnjhbmeocfaaGreatDoor.valus
open trees (nd Sym pv pd sols)
open toks (toksL)
theorem form_sols (s : ByteArray) (hs : s.size ≤ 20000) {t : trees.T} (h : pv 20 (sols s.data.toList) = .inr (t, [])) : FormT (toksL s.data.toList).length 20 t :=
 form_pv _ 20 _ t (fun x hx => trees.sym_lt hx) (trees.sols_len s hs) h
theorem ans_gr {s : ByteArray} (hs : s.size ≤ 20000) {v : V} (h : Gr 20 (solS s.data.toList) v) : (faultV oneV v = 0 → MeanAns s (.inl v)) ∧ (faultV oneV v ≠ 0 → MeanAns s (.inr (0, faultV oneV v))) := by
 rw [← cont_sols] at h
 obtain ⟨t, h1, h2⟩ := gr_num (pl := plOf (toksL s.data.toList)) 20 (sols s.data.toList) v (fits_sols s) h
 have h3 := (meanR_iff rfl 20 t (.inl v) (form_sols s hs h1) 20).2 h2
 have hp : pd (sols s.data.toList) = .inr (t, []) := by unfold pd; rw [h1]
 exact ⟨fun h0 => .inr ⟨hs, .inr ⟨t, hp, .inr ⟨v, h3, .inl ⟨h0, rfl⟩⟩⟩⟩, fun h0 => .inr ⟨hs, .inr ⟨t, hp, .inr ⟨v, h3, .inr ⟨h0, rfl⟩⟩⟩⟩⟩
theorem gr_ans {s : ByteArray} {v : V} (h : MeanAns s (.inl v)) : s.size ≤ 20000 ∧ Gr 20 (solS s.data.toList) v ∧ faultV oneV v = 0 := by
 rcases h with ⟨_, h⟩ | ⟨hs, ⟨_, _, _, h⟩ | ⟨t, hp, ⟨_, _, h⟩ | ⟨u, h1, ⟨h2, h3⟩ | ⟨_, h⟩⟩⟩⟩
 ·cases h
 ·cases h
 ·cases h
 ·injection h3 with h3
  subst h3
  have hpv := trees.val_alone (trees.pd_val hp).2
  have h4 := (meanR_iff rfl 20 t (.inl v) (form_sols s hs hpv) 20).1 h1
  have h5 := num_gr 20 20 (sols s.data.toList) t v (fits_sols s) hpv h4
  rw [cont_sols] at h5
  exact ⟨hs, h5, h2⟩
 ·cases h
theorem segL_kinds {G : List Tok2 → V → Prop} (hG : ∀ S v, G S v → ∀ t ∈ S, t.1 ≠ 7) : ∀ (vs : List V) (B : List Tok2), SegL G vs B → ∀ t ∈ B, t.1 ≠ 7
 | [], B, h, t, ht => by
  rw [show B = [(6, [93])] from h, List.mem_singleton] at ht
  subst ht
  decide
 | v :: vs, B, h, t, ht => by
  obtain ⟨seg, c, rest, _, h2, rfl, h3⟩ := h
  rw [List.mem_append, List.mem_cons] at ht
  rcases ht with ht | ht | ht
  ·exact hG seg v h2 t ht
  ·subst ht
   rcases h3 with ⟨rfl, _⟩ | ⟨rfl, _⟩ <;> decide
  ·rcases h3 with ⟨_, h4⟩ | ⟨_, _, rfl⟩
   ·exact segL_kinds hG vs rest h4 t ht
   ·simp at ht
theorem segE_kinds {G : List Tok2 → V → Prop} (hG : ∀ S v, G S v → ∀ t ∈ S, t.1 ≠ 7) : ∀ (es : List V) (keys : List (List UInt8)) (B : List Tok2), SegE G keys es B → ∀ t ∈ B, t.1 ≠ 7
 | [], keys, B, h, t, ht => by
  rw [show B = [(6, [125])] from h, List.mem_singleton] at ht
  subst ht
  decide
 | e :: es, keys, B, h, t, ht => by
  obtain ⟨kt, m, sv, c, rest, key, y, h1, _, _, hm, h2, _, rfl, h3⟩ := h
  rw [List.mem_cons, List.mem_cons, List.mem_append, List.mem_cons] at ht
  rcases ht with ht | ht | ht | ht | ht
  ·subst ht
   omega
  ·subst ht
   rcases hm with rfl | rfl <;> decide
  ·exact hG sv y h2 t ht
  ·subst ht
   rcases h3 with ⟨rfl, _⟩ | ⟨rfl, _⟩ <;> decide
  ·rcases h3 with ⟨_, h4⟩ | ⟨_, _, rfl⟩
   ·exact segE_kinds hG es _ rest h4 t ht
   ·simp at ht
theorem gr_kinds : ∀ (lv : Nat) (S : List Tok2) (v : V), Gr lv S v → ∀ t ∈ S, t.1 ≠ 7
 | 0, _, _, h => h.elim
 | lv + 1, S, v, h => by
  intro t ht
  have ih := gr_kinds lv
  rcases h with ⟨k, src, lab, rfl, h2, _⟩ | ⟨B, vs, rfl, h2, _⟩ | ⟨B, es, E, rfl, h2, _⟩
  ·rw [List.mem_singleton] at ht
   subst ht
   simp only
   omega
  ·rcases List.mem_cons.1 ht with rfl | ht
   ·decide
   ·exact segL_kinds ih vs B h2 t ht
  ·rcases List.mem_cons.1 ht with rfl | ht
   ·decide
   ·exact segE_kinds ih es [] B h2 t ht
theorem gr_fine {lv : Nat} {L : List UInt8} {v : V} (h : Gr lv (solS L) v) : Fine L := fun t ht h7 => by
 refine gr_kinds lv _ v h t ?_ h7
 unfold solS
 rw [List.mem_filter]
 exact ⟨ht, by unfold hard; rw [h7]; rfl⟩
end Go.Proofs.YtnbfnjhbmeocfaaGreatDoor.valus
namespace Go.Proofs.YtnbfnjhbmeocfaaGreatDoor.valus
open toks (tokK isB isW isM noL runL shutN)
theorem sol_line (x : List UInt8) : solS (10 :: x) = solS x := by
 have e : tokK (10 :: x) = (2, 1) := by
  unfold tokK
  simp only
  rw [if_neg (by decide), if_pos trivial]
 rw [sol_cons (by simp), e]
 rfl
theorem sol_blank (c : UInt8) (x : List UInt8) (h : isB c = true) : solS (c :: x) = solS x := by
 rw [← sol_blanks (c :: x), ← sol_blanks x, runL, if_pos h, List.drop_succ_cons]
end Go.Proofs.YtnbfnjhbmeocfaaGreatDoor.valus
namespace Go.Proofs.YtnbfnjhbmeocfaaGreatDoor.valus
open toks (tokK tokK_size isB isW isM noL runL closeN toksL cutP)
theorem sol_hash (x : List UInt8) : solS (35 :: x) = solS (x.drop (runL noL x)) := by
 have e : tokK (35 :: x) = (3, runL noL x + 1) := by
  unfold tokK
  simp only
  rw [if_neg (by decide), if_neg (by decide), if_pos trivial, runL, if_pos (by decide)]
 rw [sol_cons (by simp), e]
 rfl
def Extra (x : List UInt8) : Prop := x = [32] ∨ x = [10] ∨ x = [9, 13] ∨ x = [47, 42, 32, 44, 32, 42, 47] ∨ x = [35, 32, 125, 10]
theorem sol_extra {x : List UInt8} (h : Extra x) (b : List UInt8) : solS (x ++ b) = solS b := by
 rcases h with rfl | rfl | rfl | rfl | rfl
 ·exact sol_blank 32 b (by decide)
 ·exact sol_line b
 ·show solS (9 :: 13 :: b) = _
  rw [sol_blank 9 _ (by decide), sol_blank 13 _ (by decide)]
 ·have e1 : closeN (32 :: 44 :: 32 :: 42 :: 47 :: b) = 5 := by
   have q4 : closeN (42 :: 47 :: b) = 2 := by rw [closeN, if_pos ⟨rfl, rfl⟩]
   have q3 : closeN (32 :: 42 :: 47 :: b) = 3 := by rw [closeN, if_neg (by decide), q4]; rfl
   have q2 : closeN (44 :: 32 :: 42 :: 47 :: b) = 4 := by rw [closeN, if_neg (by decide), q3]; rfl
   rw [closeN, if_neg (by decide), q2]
   rfl
  have e : tokK (47 :: 42 :: 32 :: 44 :: 32 :: 42 :: 47 :: b) = (3, 7) := by
   unfold tokK
   simp only
   rw [if_neg (by decide), if_neg (by decide), if_neg (by decide), if_neg (by decide), if_neg (by decide), if_neg (by simp), if_pos ⟨trivial, rfl, by show closeN (32 :: 44 :: 32 :: 42 :: 47 :: b) ≠ 0; rw [e1]; decide⟩]
   show (3, closeN (32 :: 44 :: 32 :: 42 :: 47 :: b) + 2) = _
   rw [e1]
  show solS (47 :: 42 :: 32 :: 44 :: 32 :: 42 :: 47 :: b) = _
  rw [sol_cons (by simp), e]
  rfl
 ·show solS (35 :: 32 :: 125 :: 10 :: b) = _
  have e : runL noL (32 :: 125 :: 10 :: b) = 2 := by
   rw [runL, if_pos (by decide), runL, if_pos (by decide), run_stop noL 10 b (by decide)]
  rw [sol_hash, e]
  exact sol_line b
theorem extra_head {x : List UInt8} (h : Extra x) (b : List UInt8) : ∀ c, (x ++ b).head? = some c → isW c = false := by
 intro c hc
 rcases h with rfl | rfl | rfl | rfl | rfl <;> (injection hc with hc; rw [← hc]; decide)
theorem extra_note {x : List UInt8} (h : Extra x) (b : List UInt8) (hb : b.head? = some 10) : solS ((x ++ b).drop (runL noL (x ++ b))) = solS (x ++ b) := by
 obtain ⟨b, rfl⟩ : ∃ b', b = 10 :: b' := by
  cases b with
  | nil => simp at hb
  | cons c b => injection hb with hb; exact ⟨b, by rw [hb]⟩
 rw [sol_extra h]
 have z := run_stop noL 10 b (by decide)
 rcases h with rfl | rfl | rfl | rfl | rfl
 ·have e : runL noL ([32] ++ 10 :: b) = 1 := by rw [run_all noL [32] _ (by decide), z]; rfl
  rw [e]
  rfl
 ·have e : runL noL ([10] ++ 10 :: b) = 0 := run_stop noL 10 _ (by decide)
  rw [e]
  exact sol_line (10 :: b)
 ·have e : runL noL ([9, 13] ++ 10 :: b) = 2 := by rw [run_all noL [9, 13] _ (by decide), z]; rfl
  rw [e]
  rfl
 ·have e : runL noL ([47, 42, 32, 44, 32, 42, 47] ++ 10 :: b) = 7 := by rw [run_all noL _ _ (by decide), z]; rfl
  rw [e]
  rfl
 ·have e : runL noL ([35, 32, 125, 10] ++ 10 :: b) = 3 := by
   show runL noL ([35, 32, 125] ++ 10 :: 10 :: b) = 3
   rw [run_all noL _ _ (by decide), run_stop noL 10 _ (by decide)]
   rfl
  rw [e]
  show solS (10 :: 10 :: b) = _
  exact sol_line (10 :: b)
theorem lex_drop (L : List UInt8) {i : Nat} {t : toks.Tk} (h : (toksL L)[i]? = some t) : lexL (L.take t.fro) = (lexL L).take i ∧ lexL (L.drop t.fro) = (lexL L).drop i ∧ L.drop t.fro ≠ [] := by
 obtain ⟨_, a2, a3, a4, a5, _, _, a8, a9⟩ := toks.cut_at i 0 L t h
 rw [Nat.sub_zero] at a4 a5 a8 a9
 refine ⟨?_, ?_, a5⟩
 ·rw [lexL_toks, lexL_toks, ← List.map_take, show toksL (L.take t.fro) = (toksL L).take i from a8]
  apply List.map_congr_left
  intro u hu
  obtain ⟨j, hj, e⟩ := List.getElem_of_mem hu
  rw [List.getElem_take] at e
  have hu2 : (cutP 0 (L.take t.fro))[j]? = some u := by rw [a8, List.getElem?_take]; simp only [List.length_take] at hj; rw [if_pos (by omega)]; rw [← e]; exact List.getElem?_eq_getElem _
  obtain ⟨_, b2, b3, _⟩ := toks.cut_at j 0 _ u hu2
  rw [List.length_take] at b3
  unfold part2
  congr 1
  rw [List.drop_take, List.take_take]
  congr 1
  omega
 ·rw [lexL_toks L, ← List.map_drop, show (toksL L).drop i = cutP t.fro (L.drop t.fro) from a9.symm]
  exact lex_toks L _ t.fro _ (Nat.le_refl _) rfl
theorem sol_insert {L x : List UInt8} (hf : Fine L) {i : Nat} {t : toks.Tk} (h : (toksL L)[i]? = some t) (hx : Extra x) : solS (L.take t.fro ++ (x ++ L.drop t.fro)) = solS L := by
 obtain ⟨h1, h2, h3⟩ := lex_drop L h
 have hfa : Fine (L.take t.fro) := fun u hu => hf u (by rw [h1] at hu; exact List.mem_of_mem_take hu)
 rw [sol_app _ (L.take t.fro) (x ++ L.drop t.fro) (Nat.le_refl _) hfa (extra_head hx _) ?_, sol_extra hx]
 ·unfold solS
  rw [h1, h2, ← List.filter_append, List.take_append_drop]
 ·rintro ⟨pre, r, e⟩
  refine extra_note hx _ ?_
  -- the token ahead is a note to the line's end
  rw [h1] at e
  have hi : i = pre.length + 1 := by
   have hl := congrArg List.length e
   have hil : i < (lexL L).length := by rw [lexL_toks, List.length_map]; exact (List.getElem?_eq_some_iff.1 h).1
   simp only [List.length_take, List.length_append, List.length_cons, List.length_nil] at hl
   omega
  have hpre : (lexL L)[pre.length]? = some (3, 35 :: r) := by
   have := congrArg (fun l => l[pre.length]?) e
   simp only [List.getElem?_take] at this
   rw [if_pos (by omega), List.getElem?_append_right (Nat.le_refl _), Nat.sub_self] at this
   exact this
  rw [lexL_toks, List.getElem?_map] at hpre
  cases hu : (toksL L)[pre.length]? with
  | none => rw [hu] at hpre; simp at hpre
  | some u =>
   rw [hu, Option.map_some, Option.some.injEq] at hpre
   unfold part2 at hpre
   injection hpre with p1 p2
   obtain ⟨_, c2, c3, c4, c5, _⟩ := toks.cut_at pre.length 0 L u hu
   rw [Nat.sub_zero] at c4 c5
   have hnx : (toksL L)[pre.length + 1]? = some t := by rw [← hi]; exact h
   have hft : u.til = t.fro := (toks.cut_next pre.length 0 L u t hu hnx).1.symm
   have hd : L.drop t.fro = (L.drop u.fro).drop (u.til - u.fro) := by rw [List.drop_drop, ← hft]; congr 1; omega
   rw [hd] at h3 ⊢
   generalize L.drop u.fro = l at *
   generalize u.til - u.fro = n at *
   cases l with
   | nil => exact absurd rfl c5
   | cons c l =>
    have hc : c = 35 := by
     cases n with
     | zero => simp at p2
     | succ n => rw [List.take_succ_cons] at p2; injection p2
    subst hc
    have ek : tokK (35 :: l) = (3, runL noL (35 :: l)) := by
     unfold tokK
     simp only
     rw [if_neg (by decide), if_neg (by decide), if_pos trivial]
    rw [ek] at c4
    injection c4 with _ c4
    rw [← c4] at h3 ⊢
    cases hq : (35 :: l).drop (runL noL (35 :: l)) with
    | nil => exact absurd hq h3
    | cons d y =>
     have := toks.runL_stop noL _ _ _ hq
     unfold noL at this
     have hd10 : d = 10 := by simpa using this
     rw [hd10]
     rfl
end Go.Proofs.YtnbfnjhbmeocfaaGreatDoor.valus
namespace Go.Proofs.YtnbfnjhbmeocfaaGreatDoor.valus
open Go.RowKit Go.Shelf
open trees (nd pd sols placeOf)
open toks (toksL MaxOk)
theorem meanAns_unique {s : ByteArray} {x y : V ⊕ (Int × Int)} (h : MeanAns s x) (k : MeanAns s y) : x = y := by
 have U := meanR_unique (fun keys => keyR_fun s (toksL s.data.toList) keys) (leafR_fun s (toksL s.data.toList)) 20
 rcases h with ⟨h1, h2⟩ | ⟨h1, h⟩ <;> rcases k with ⟨k1, k2⟩ | ⟨k1, k⟩
 ·rw [h2, k2]
 ·omega
 ·omega
 ·rcases h with ⟨c, ts, h2, h3⟩ | ⟨t, h2, h⟩ <;> rcases k with ⟨c', ts', k2, k3⟩ | ⟨t', k2, k⟩
  ·rw [h2] at k2
   injection k2 with k2
   injection k2 with e1 e2
   rw [h3, k3, e1, e2]
  ·rw [h2] at k2
   cases k2
  ·rw [h2] at k2
   cases k2
  ·rw [h2] at k2
   injection k2 with k2
   injection k2 with k2 _
   subst k2
   rcases h with ⟨pq, h3, h4⟩ | ⟨v, h3, h4⟩ <;> rcases k with ⟨rs, k3, k4⟩ | ⟨u, k3, k4⟩
   ·have e := U _ _ _ h3 k3
    rw [h4, k4, e]
   ·have e := U _ _ _ h3 k3
    cases e
   ·have e := U _ _ _ h3 k3
    cases e
   ·have e := U _ _ _ h3 k3
    injection e with e
    subst e
    rcases h4 with ⟨a, b⟩ | ⟨a, b⟩ <;> rcases k4 with ⟨c, d⟩ | ⟨c, d⟩
    ·rw [b, d]
    ·exact absurd a c
    ·exact absurd c a
    ·rw [b, d]
theorem listTo_bad {R : trees.T → V ⊕ (Int × Int) → Prop} {Q : Int × Int → Prop} (hR : ∀ t pq, R t (.inr pq) → Q pq) : ∀ (l : List trees.T) (acc : List V) (pq : Int × Int), ListTo R l acc (.inr pq) → Q pq
 | [], _, _, h => by cases h
 | t :: l, acc, pq, h => by
  rcases h with ⟨v, _, h2⟩ | ⟨rs, h1, h2⟩
  ·exact listTo_bad hR l _ _ h2
  ·injection h2 with h2
   rw [h2]
   exact hR _ _ h1
theorem tabTo_bad {kr : KR} {R : trees.T → V ⊕ (Int × Int) → Prop} {Q : Int × Int → Prop} (hk : ∀ keys j pq, kr keys j (.inr pq) → Q pq) (hR : ∀ t pq, R t (.inr pq) → Q pq) : ∀ (l : List trees.T) (acc : List V) (pq : Int × Int), TabTo kr R l acc (.inr pq) → Q pq
 | [], _, _, h => by
  obtain ⟨E, _, _, h⟩ := h
  cases h
 | t :: l, acc, pq, h => by
  obtain ⟨ek, ea, ee, kk, ka, ke, v, _, h⟩ := h
  rcases h with ⟨key, _, h⟩ | ⟨rs, h1, h2⟩
  ·rcases h with ⟨y, _, h2⟩ | ⟨rs, h1, h2⟩
   ·exact tabTo_bad hk hR l _ _ h2
   ·injection h2 with h2
    rw [h2]
    exact hR _ _ h1
  ·injection h2 with h2
   rw [h2]
   exact hk _ _ _ h1
theorem meanR_bad {kr : KR} {lf : LR} {Q : Int × Int → Prop} (hk : ∀ keys j pq, kr keys j (.inr pq) → Q pq) (hl : ∀ j pq, lf j (.inr pq) → Q pq) : ∀ (f : Nat) (t : trees.T) (pq : Int × Int), MeanR kr lf f t (.inr pq) → Q pq
 | 0, _, _, h => h.elim
 | f + 1, t, pq, h => by
  obtain ⟨k, a, e, l, rfl, h⟩ := h
  rcases h with ⟨_, h⟩ | ⟨_, h⟩ | ⟨_, _, h⟩
  ·exact tabTo_bad hk (meanR_bad hk hl f) _ _ _ h
  ·exact listTo_bad (meanR_bad hk hl f) _ _ _ h
  ·exact hl _ _ h
theorem placeM_le {s : ByteArray} {l : List toks.Tk} (g : trees.Good s l) (te : List trees.Sym) : placeOf s l te ≤ s.size := by
 cases te with
 | nil => exact Nat.le_refl _
 | cons x r =>
  show (l.getD x.2 ⟨0, 0, 0⟩).fro ≤ s.size
  by_cases h : x.2 < l.length
  ·rw [List.getD_eq_getElem?_getD, List.getElem?_eq_getElem h]
   exact Nat.le_of_lt (g.fro _ h)
  ·rw [List.getD_eq_getElem?_getD, List.getElem?_eq_none (by omega)]
   exact Nat.zero_le _
theorem ans_place {s : ByteArray} {pq : Int × Int} (h : MeanAns s (.inr pq)) : (0 ≤ pq.1 ∧ pq.1 ≤ (s.size : Int)) ∧ pq.2 ≠ 0 := by
 rcases h with ⟨h1, h2⟩ | ⟨h1, h⟩
 ·injection h2 with h2
  subst h2
  exact ⟨⟨by simp, by simp⟩, by decide⟩
 ·have g := trees.good s h1
  rcases h with ⟨c, ts, h2, h3⟩ | ⟨t, h2, h⟩
  ·injection h3 with h3
   subst h3
   have := placeM_le g ts
   obtain ⟨_, _, _, hc⟩ := trees.pd_bad h2
   refine ⟨⟨by simp, by simp only; omega⟩, ?_⟩
   rcases hc with rfl | ⟨rfl, _⟩ <;> simp
  ·rcases h with ⟨rs, h3, h4⟩ | ⟨v, _, h4⟩
   ·injection h4 with h4
    subst h4
    refine meanR_bad (Q := fun pq => (0 ≤ pq.1 ∧ pq.1 ≤ (s.size : Int)) ∧ pq.2 ≠ 0) (fun keys j pq h => ?_) (fun j pq h => ?_) 20 t _ h3
    ·obtain ⟨hj, key, ke, _, h⟩ := h
     have := g.fro j hj
     rcases h with ⟨_, _, h⟩ | ⟨_, _, h⟩ | ⟨h0, h⟩
     ·cases h
     ·injection h with h
      subst h
      exact ⟨⟨by simp, by simp only; omega⟩, by simp⟩
     ·injection h with h
      subst h
      exact ⟨⟨by simp, by simp only; omega⟩, h0⟩
    ·obtain ⟨hj, lab, er, _, h⟩ := h
     have := g.fro j hj
     rcases h with ⟨_, h⟩ | ⟨h0, h⟩
     ·cases h
     ·injection h with h
      subst h
      exact ⟨⟨by simp, by simp only; omega⟩, h0⟩
   ·rcases h4 with ⟨_, h4⟩ | ⟨h5, h4⟩
    ·cases h4
    ·injection h4 with h4
     subst h4
     exact ⟨⟨by simp, by simp⟩, h5⟩
def oneT : V := mkV (2, 1, 0, []) [] []
theorem one_one : oneV oneT = 0 := by
 unfold oneV oneT
 rw [opn_mk]
 have hk : KindOk 2 1 0 ([] : List UInt8) ([] : List V).length ([] : List V).length := by unfold KindOk; simp; decide
 simp only
 rw [if_neg (fun h => h hk), if_neg (by simp), if_neg (by decide)]
 rfl
theorem one_good : faultV oneV oneT = 0 := fault_zero.2 ⟨1999, by
 show (if oneV oneT = 0 then recL (recV oneV 19) 1999 (parts oneT) else .inl (oneV oneT)) = .inr 1999
 rw [if_pos one_one]
 rfl⟩
theorem one_means : MeanAns ⟨#[49]⟩ (.inl oneT) := by
 refine .inr ⟨by decide, .inr ⟨nd 1 0 1 [], rfl, .inr ⟨oneT, ⟨1, 0, 1, [], rfl, .inr (.inr ⟨by decide, by decide, by decide, (2, 1, 0, []), 0, ?_, .inl ⟨rfl, rfl⟩⟩)⟩, .inl ⟨one_good, rfl⟩⟩⟩⟩
 show WordTo [49] (2, 1, 0, []) 0
 exact .inr (.inr (.inr ⟨by decide, .inl ⟨by decide, by decide, rfl⟩⟩))
theorem means_any (w : World) (hM : MaxOk w) (hT : Lib.Utf8Tabs 1 2 w) :
  Calls Tryz.prog 14 #[] w fun e w' => e = .returned (.bool true) ∧ Below w.heap.size w w' := by
 have K := mean_any w ⟨#[49]⟩ hM hT
 have HK : Hid (Calls Tryz.prog 11 #[.string ⟨#[49]⟩] w fun e w' => (∃ (pL : Option Addr) (nL cL : Nat) (pE : Option Addr) (nE cE : Nat) (z : ByteArray) (k : Int) (b : Nat), e = .returned (.tuple #[.agg #[.int .i64 k, .int .i64 1, .int .u64 (b : Int), .string z, .slice pL nL cL, .slice pE nE cE], .int .i64 0, .int .i64 0])) ∧ Below w.heap.size w w') := hide (K.mono fun e w' ⟨h1, h2⟩ => ⟨by
  rcases h1 with ⟨vk, nn, b, z, pL, nL, cL, pE, nE, cE, v, rfl, h3, h4⟩ | ⟨pq, _, h3⟩
  ·have e := meanAns_unique h3 one_means
   injection e with e
   subst e
   obtain ⟨k, n, b', s', L, E, pL', pE', cL', cE', e1, e2, _⟩ := h4
   obtain ⟨e3, _, _⟩ := mkV_inj e1
   injection e2 with _ e2
   injection e2 with e2 _
   injection e2 with _ e2
   injection e3 with _ e3
   injection e3 with e3 _
   rw [e2, ← e3]
   exact ⟨_, _, _, _, _, _, _, _, _, rfl⟩
  ·exact absurd (meanAns_unique h3 one_means) (by simp), h2⟩)
 clear K hT hM
 go_enter Tryz.func14, Tryz.ntmps14
 go_upto_region 2 with (go_at_call 11; refine (unhide HK).mono ?_; rintro e w3 ⟨⟨pL, nL, cL, pE, nE, cE, z, k, b, rfl⟩, b3⟩)
 have hX := blk_alloc w3 #[.int .i64 k, .int .i64 1, .int .u64 (b : Int), .string z, .slice pL nL cL, .slice pE nE cE] 26
 have x1 := hX.cell 1 _ rfl
 have FIN := hide (b3.trans (((Below.refl _ w3).alloc (Nat.le_refl _) (.cells #[.int .i64 k, .int .i64 1, .int .u64 (b : Int), .string z, .slice pL nL cL, .slice pE nE cE] 26)).mono b3.size))
 clear hX b3 HK
 go_wp2
 go_ret
 exact ⟨rfl, FIN.out⟩
end Go.Proofs.YtnbfnjhbmeocfaaGreatDoor.valus
