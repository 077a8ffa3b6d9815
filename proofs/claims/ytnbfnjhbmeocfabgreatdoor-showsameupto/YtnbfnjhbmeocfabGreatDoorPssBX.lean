/- Of our texts, what this claim reaches. -/
import Derived.Test.YtnbfnjhbmeocfabGreatDoorPssBV
import Derived.Test.YtnbfnjhbmeocfabGreatDoorPssBW
set_option linter.unusedVariables false
set_option maxHeartbeats 4000000
set_option maxRecDepth 100000
namespace Go.Proofs.YtnbfnjhbmeocfabGreatDoor.valus
open Go.RowKit Go.Shelf
attribute [local go_sem] Oper.semAt_some
def KeysAt (K : Nat → Prop) (W : World) (p : Option Addr) (ks : List (List UInt8)) : Prop :=
 ks.length ≠ 0 → ∃ b o, p = some ⟨b, o, none⟩ ∧ K b ∧ b < W.heap.size ∧ ∀ j, j < ks.length → ∃ key : ByteArray, ks[j]? = some key.data.toList ∧ W.cell? ⟨b, o + j * 7, none⟩ = some (.string key)
theorem ents_in (l A a B b : Nat) (pE qE : Option Addr) (cE dE : Nat) (ks ks' : List (List UInt8)) (h1 : ks.length ≤ 9223372036854775807) (h2 : ks'.length ≤ 9223372036854775807)
  (K : Nat → Prop) (J : (Nat → Prop) → List Pr → World → Prop) (hJ : Abide J) (N : Nat)
  (hY : ∀ M pre x X, J M pre X → (∀ b, M b → b < X.heap.size) → pre.length < N → YieldAt Fence.wide 9 Tryz.prog l #[encP x] X fun e X' => e = .returned (.bool true) ∧ Turns (fun b => ¬ M b ∧ ¬ K b) X X' ∧ J M (pre ++ [x]) X')
  (M0 : Nat → Prop) (pre0 : List Pr) (W : World) (hM0 : ∀ b, M0 b → b < W.heap.size) (kA : K A) (kB : K B) (hA : A < W.heap.size) (hB : B < W.heap.size)
  (v5 : W.cell? ⟨A, a + 5, none⟩ = some (.slice pE ks.length cE)) (u5 : W.cell? ⟨B, b + 5, none⟩ = some (.slice qE ks'.length dE)) (hE : KeysAt K W pE ks) (hE' : KeysAt K W qE ks') (h0 : J M0 pre0 W) (hN : pre0.length + (entsP pE qE 0 ks ks').length ≤ N) :
  CallsIn Fence.wide 8 Tryz.prog 105 #[.agg #[.pointer (some ⟨A, a, none⟩), .pointer (some ⟨B, b, none⟩), .int .i64 0], .func (.yield l) #[] #[]] W fun e W' =>
   (∃ v, e = .returned v) ∧ ∃ M', J M' (pre0 ++ entsP pE qE 0 ks ks') W' := by
 obtain ⟨W1, hW1⟩ : ∃ W1, W1 = W.alloc (.cells #[.pointer (some ⟨A, a, none⟩), .pointer (some ⟨B, b, none⟩), .int .i64 0] 89) := ⟨_, rfl⟩
 obtain ⟨M1, hM1⟩ : ∃ M1 : Nat → Prop, M1 = fun b => M0 b ∨ b = W.heap.size := ⟨_, rfl⟩
 have s1 : W1.heap.size = W.heap.size + 1 := by rw [hW1]; simp
 have t1 : Turns (fun _ => False) W W1 := by rw [hW1]; exact Turns.alloc _ _ _
 have j1 : J M1 pre0 W1 := hJ M0 M1 pre0 W W1 h0 (t1.mono fun _ _ h => h.elim) (fun b h => by rw [hM1] at h; exact h.elim .inl (fun e => .inr (by omega)))
 have l1 : ∀ b, M1 b → b < W1.heap.size := fun b h => by rw [hM1] at h; rcases h with h | h; (have := hM0 b h; omega); omega
 have bp : Blk W1 W.heap.size #[.pointer (some ⟨A, a, none⟩), .pointer (some ⟨B, b, none⟩), .int .i64 0] 89 := by rw [hW1]; exact blk_alloc _ _ _
 have kp : ∀ wr, Turns (fun b => ¬ M1 b ∧ ¬ K b) W1 wr → wr.cell? ⟨W.heap.size, 0, none⟩ = some (.pointer (some ⟨A, a, none⟩)) ∧ wr.cell? ⟨W.heap.size, 1, none⟩ = some (.pointer (some ⟨B, b, none⟩)) ∧ wr.cell? ⟨A, a + 5, none⟩ = some (.slice pE ks.length cE) ∧ wr.cell? ⟨B, b + 5, none⟩ = some (.slice qE ks'.length dE) ∧ ∀ b, M1 b → b < wr.heap.size := fun wr h => by
  have m1 : M1 W.heap.size := by rw [hM1]; exact .inr rfl
  refine ⟨(h.cell (p := ⟨W.heap.size, 0, none⟩) (by simp only; omega) (fun x => x.1 m1)).trans (bp.cell 0 _ rfl), (h.cell (p := ⟨W.heap.size, 1, none⟩) (by simp only; omega) (fun x => x.1 m1)).trans (bp.cell 1 _ rfl), ?_, ?_, fun b hb => Nat.lt_of_lt_of_le (l1 b hb) h.size⟩
  ·exact (h.cell (p := ⟨A, a + 5, none⟩) (by simp only; omega) (fun x => x.2 kA)).trans ((t1.cell (p := ⟨A, a + 5, none⟩) hA (fun h => h)).trans v5)
  ·exact (h.cell (p := ⟨B, b + 5, none⟩) (by simp only; omega) (fun x => x.2 kB)).trans ((t1.cell (p := ⟨B, b + 5, none⟩) hB (fun h => h)).trans u5)
 have kk : ∀ wr, Turns (fun b => ¬ M1 b ∧ ¬ K b) W1 wr → ∀ (p : Option Addr) (l : List (List UInt8)), KeysAt K W p l → KeysAt K wr p l := fun wr h p l hk hn => by
  obtain ⟨b, o, hp, kb, hb, hj⟩ := hk hn
  refine ⟨b, o, hp, kb, Nat.lt_of_lt_of_le (by omega) h.size, fun j hlt => ?_⟩
  obtain ⟨key, e1, e2⟩ := hj j hlt
  exact ⟨key, e1, (h.cell (p := ⟨b, o + j * 7, none⟩) (by simp only; omega) (fun x => x.2 kb)).trans ((t1.cell (p := ⟨b, o + j * 7, none⟩) hb (fun h => h)).trans e2)⟩
 refine callsIn_of_wp Tryz.func105 rfl trivial ?_ rfl
 simp only [Tryz.ntmps105, List.size_toArray, List.length_cons, List.length_nil, Nat.reduceAdd, Nat.reduceSub, Array.replicate_succ, Array.replicate_zero, List.push_toArray, List.append_toArray, List.nil_append, List.cons_append]
 gi_wp2
 rw [← hW1]
 obtain ⟨c0, c1, c2, c3, _⟩ := kp W1 (Turns.refl _ _)
 refine wpIn_wide.2 ?_
 go_quiet (fail)
 gi_wp2
 obtain ⟨mn, hmn⟩ : ∃ mn : Nat, mn = min ks.length ks'.length := ⟨_, rfl⟩
 have emn : min (ks.length : Int) (ks'.length : Int) = (mn : Int) := by omega
 rw [emn]
 obtain ⟨W2, hW2⟩ : ∃ W2, W2 = W1.drewN nq := ⟨_, rfl⟩
 have t2 : Turns (fun b => ¬ M1 b ∧ ¬ K b) W1 W2 := by rw [hW2]; exact ⟨rfl, rfl, rfl, Nat.le_refl _, fun _ _ _ => rfl⟩
 rw [← hW2]
 have j2 : J M1 pre0 W2 := hJ M1 M1 pre0 W1 W2 j1 (by rw [hW2]; exact ⟨rfl, rfl, rfl, Nat.le_refl _, fun _ _ _ => rfl⟩) (fun _ h => .inl h)
 clear hW2 c0 c1 c2 c3
 have bmn : mn ≤ ks.length ∧ mn ≤ ks'.length := by omega
 have een : entsP pE qE mn (ks.drop mn) (ks'.drop mn) = told (ordI (cmpI (ks.length : Int) (ks'.length : Int))) := entsP_end hmn
 have Hmn := hide hmn
 clear hmn emn
 obtain ⟨n1, hn1⟩ : ∃ n1, n1 = ks.length := ⟨_, rfl⟩
 obtain ⟨n2, hn2⟩ : ∃ n2, n2 = ks'.length := ⟨_, rfl⟩
 gi_loopw [22] (fun i wr => ∃ k : Nat, k ≤ mn ∧ i = .int .i64 k ∧ J M1 (pre0 ++ pairsTo pE qE 7 1 k) wr ∧ Turns (fun b => ¬ M1 b ∧ ¬ K b) W1 wr ∧ entsP pE qE 0 ks ks' = pairsTo pE qE 7 1 k ++ entsP pE qE k (ks.drop k) (ks'.drop k))
  (fun i _ => mn - (intOf i).toNat)
 case atStart => exact ⟨0, Nat.zero_le _, rfl, by simpa [pairsTo] using j2, t2, by simp [pairsTo]⟩
 case round =>
  obtain ⟨k, hk, rfl, hJs, hT, hents⟩ := hrel
  obtain ⟨c0, c1, c2, c3, hm⟩ := kp wr hT
  have hlen := congrArg List.length hents
  rw [List.length_append, pairsTo_len] at hlen
  by_cases hlt : k < mn
  ·obtain ⟨bE, oE, rfl, _, _, g1⟩ := kk wr hT pE ks hE (by omega)
   obtain ⟨bQ, oQ, rfl, _, _, g2⟩ := kk wr hT qE ks' hE' (by omega)
   obtain ⟨key, e1, y1⟩ := g1 k (by omega)
   obtain ⟨key', e2, y2⟩ := g2 k (by omega)
   clear g1 g2
   have hat := entsP_at (p := some ⟨bE, oE, none⟩) (q := some ⟨bQ, oQ, none⟩) (i := k) e1 e2
   have hlN : k < ks.length := by omega
   have hlM : k < ks'.length := by omega
   gi_wp2
   refine wpIn_wide.2 ?_
   go_quiet (fail)
   gi_wp2
   obtain ⟨W4, hW4⟩ : ∃ W4, W4 = wr.drewN nq := ⟨_, rfl⟩
   have t4 : Turns (fun _ => False) wr W4 := by rw [hW4]; exact ⟨rfl, rfl, rfl, Nat.le_refl _, fun _ _ _ => rfl⟩
   have z1 : W4.cell? ⟨bE, oE + k * 7, none⟩ = some (.string key) := by rw [hW4]; exact y1
   have z2 : W4.cell? ⟨bQ, oQ + k * 7, none⟩ = some (.string key') := by rw [hW4]; exact y2
   rw [← hW4]
   clear hW4
   refine wpIn_wide.2 ?_
   go_quiet (first | (go_at_call 54; refine Calls.quiet_of_same (Tryz.strings_Compare _ _ _)))
   obtain ⟨W5, hW5⟩ : ∃ W5, W5 = W4.drewN nq := ⟨_, rfl⟩
   have t5 : Turns (fun _ => False) wr W5 := by rw [hW5]; exact t4.trans (N := fun _ => False) ⟨rfl, rfl, rfl, Nat.le_refl _, fun _ _ _ => rfl⟩ (fun _ _ h => h)
   rw [← hW5]
   clear hW5
   have j5 := hJ M1 M1 _ wr W5 hJs (t5.mono fun _ _ h => h.elim) (fun _ h => .inl h)
   have T5 := hT.trans t5 (fun _ _ h => h.elim)
   have hm5 := (kp W5 T5).2.2.2.2
   rw [strs_cmp]
   by_cases ho : ordI (cmpB key.data.toList key'.data.toList) = 0
   ·rw [if_pos ho] at hat
    rw [ho]
    have hlt2 : (pre0 ++ pairsTo (some ⟨bE, oE, none⟩) (some ⟨bQ, oQ, none⟩) 7 1 k).length < N := by
     rw [hat, List.length_cons] at hlen
     rw [List.length_append, pairsTo_len]
     omega
    obtain ⟨fn, tmps, assign, body, hy, hR⟩ := YieldAt.any 7 (hY M1 _ (pairAt (some ⟨bE, oE, none⟩) (some ⟨bQ, oQ, none⟩) 7 1 k) W5.drew (hJ M1 M1 _ W5 _ j5 (Turns.drew _ _) (fun _ h => .inl h)) hm5 hlt2)
    simp only [encP, pairAt, Option.getD_some] at hy
    clear hlen
    have HA := hide hat
    have HE := hide hents
    clear hat hents
    gi_wp2
    have hmix : (Tryz.prog).follows .mixedOrders = true := by kernel_rfl
    gi_region_with_o (refine hR.mono ?_; intro e W6 hres; obtain ⟨he, hT6, hJ6⟩ := hres; subst he)
    all_goals
     gi_wp2
     go_roundw
     case rel => exact ⟨k + 1, by omega, by simp, by rw [pairsTo_succ, ← List.append_assoc]; exact hJ6, (T5.trans (Turns.drew _ _) (fun _ _ h => h)).trans hT6 (fun _ _ h => h), by rw [HE.out, HA.out, pairsTo_succ, List.append_assoc]; rfl⟩
     case measure => simp [intOf]; omega
   ·rw [if_neg ho] at hat
    rw [hat] at hents hlen
    simp only [List.length_singleton] at hlen
    generalize ordI (cmpB key.data.toList key'.data.toList) = oo at *
    obtain ⟨fn, tmps, assign, body, hy, hR⟩ := YieldAt.any 7 (hY M1 _ (none, none, oo) W5 j5 hm5 (by rw [List.length_append, pairsTo_len]; omega))
    simp only [encP] at hy
    have HE := hide hents
    clear hents hlen hat
    gi_wp2
    refine hR.mono ?_
    rintro e W6 ⟨rfl, T6, J6⟩
    gi_wp2
    refine bodyPost_ret (results_none rfl _ _ _) rfl ?_
    refine ⟨⟨_, rfl⟩, M1, ?_⟩
    rw [HE.out, ← List.append_assoc]
    exact J6
  ·obtain rfl : k = mn := by omega
   rw [een] at hents hlen
   gi_wp2
   refine wpIn_wide.2 ?_
   go_quiet (first | (go_at_call 65; refine Calls.quiet_of_same (compI_any _ _ _)))
   obtain ⟨W4, hW4⟩ : ∃ W4, W4 = wr.drewN nq := ⟨_, rfl⟩
   have t4 : Turns (fun _ => False) wr W4 := by rw [hW4]; exact ⟨rfl, rfl, rfl, Nat.le_refl _, fun _ _ _ => rfl⟩
   rw [← hW4]
   have j4 := hJ M1 M1 _ wr W4 hJs (t4.mono fun _ _ h => h.elim) (fun _ h => .inl h)
   have T4 := hT.trans t4 (fun _ _ h => h.elim)
   clear hW4 t4
   by_cases ho : ordI (cmpI (ks.length : Int) (ks'.length : Int)) = 0
   ·rw [ho] at hents ⊢
    have HE := hide hents
    clear hents hlen een
    gi_wp2
    go_end0
    refine ⟨⟨_, rfl⟩, M1, ?_⟩
    rw [HE.out, show told 0 = [] from rfl, List.append_nil]
    exact j4
   ·have et : told (ordI (cmpI (ks.length : Int) (ks'.length : Int))) = [(none, none, ordI (cmpI (ks.length : Int) (ks'.length : Int)))] := by unfold told; rw [if_neg ho]
    rw [et] at hents hlen
    simp only [List.length_singleton] at hlen
    clear een
    generalize ordI (cmpI (ks.length : Int) (ks'.length : Int)) = oo at *
    obtain ⟨fn, tmps, assign, body, hy, hR⟩ := YieldAt.any 7 (hY M1 _ (none, none, oo) W4 j4 (kp W4 T4).2.2.2.2 (by rw [List.length_append, pairsTo_len]; omega))
    simp only [encP] at hy
    have HE := hide hents
    clear hents hlen
    gi_wp2
    refine hR.mono ?_
    rintro e W5 ⟨rfl, T5, J5⟩
    gi_wp2
    go_end0
    refine ⟨⟨_, rfl⟩, M1, ?_⟩
    rw [HE.out, ← List.append_assoc]
    exact J5
end Go.Proofs.YtnbfnjhbmeocfabGreatDoor.valus
namespace Go.Proofs.YtnbfnjhbmeocfabGreatDoor.valus
open Go.RowKit Go.Shelf
attribute [local go_sem] Oper.semAt_some
theorem KeysAt.kept {K : Nat → Prop} {W W' : World} {p : Option Addr} {ks : List (List UInt8)} (h : KeysAt K W p ks) (hs : W.heap.size ≤ W'.heap.size) (hb : ∀ b, K b → b < W.heap.size → W'.heap[b]? = W.heap[b]?) : KeysAt K W' p ks := fun hn => by
 obtain ⟨b, o, hp, kb, hlt, hj⟩ := h hn
 refine ⟨b, o, hp, kb, Nat.lt_of_lt_of_le hlt hs, fun j hj' => ?_⟩
 obtain ⟨key, e1, e2⟩ := hj j hj'
 exact ⟨key, e1, (World.cell?_of_block (w := W) (w' := W') (a := ⟨b, o + j * 7, none⟩) (hb b kb hlt)).trans e2⟩
theorem partsP_walks (Bp A a B b : Nat) (pL qL : Option Addr) (nL cL mL dL : Nat) (hL : nL ≠ 0 → ∃ b q, pL = some ⟨b, q, none⟩) (hL' : mL ≠ 0 → ∃ b q, qL = some ⟨b, q, none⟩) (h1 : nL ≤ 9223372036854775807) (h2 : mL ≤ 9223372036854775807)
  (pE qE : Option Addr) (cE dE : Nat) (ks ks' : List (List UInt8)) (h3 : ks.length ≤ 9223372036854775807) (h4 : ks'.length ≤ 9223372036854775807) (K : Nat → Prop) (w : World)
  (bp : w.heap[Bp]? = some (.cells #[.pointer (some ⟨A, a, none⟩), .pointer (some ⟨B, b, none⟩), .int .i64 0] 89)) (kA : K A) (kB : K B) (hA : A < w.heap.size) (hB : B < w.heap.size) (hK : ∀ b, K b → b < w.heap.size)
  (v4 : w.cell? ⟨A, a + 4, none⟩ = some (.slice pL nL cL)) (u4 : w.cell? ⟨B, b + 4, none⟩ = some (.slice qL mL dL)) (v5 : w.cell? ⟨A, a + 5, none⟩ = some (.slice pE ks.length cE)) (u5 : w.cell? ⟨B, b + 5, none⟩ = some (.slice qE ks'.length dE)) (hE : KeysAt K w pE ks) (hE' : KeysAt K w qE ks') :
  WalksK Tryz.prog 103 #[.pointer (some ⟨Bp, 0, none⟩)] encP (kidsP pL qL pE qE nL mL ks ks') K (fun b => b = Bp) w := by
 intro l J W hJ hY hW h0
 have lp : Bp < w.heap.size := (Array.getElem?_eq_some_iff.1 bp).1
 have hsz := hW.size
 have bp1 : Blk W Bp #[.pointer (some ⟨A, a, none⟩), .pointer (some ⟨B, b, none⟩), .int .i64 0] 89 := (hW.block Bp lp).trans bp
 have c0 := bp1.cell 0 _ rfl
 have c1 := bp1.cell 1 _ rfl
 have c2 := bp1.cell 2 _ rfl
 have hle : (elemsP pL qL nL mL).length ≤ (kidsP pL qL pE qE nL mL ks ks').length := by unfold kidsP; rw [List.length_append]; omega
 have E := elems_in l A a B b pL qL nL cL mL dL hL hL' h1 h2 K J hJ (kidsP pL qL pE qE nL mL ks ks').length hY (fun b => b = Bp) [] W (fun b h => by omega) kA kB (by omega) (by omega) ((hW.cell (p := ⟨A, a + 4, none⟩) hA).trans v4) ((hW.cell (p := ⟨B, b + 4, none⟩) hB).trans u4) h0 (by simpa using hle)
 refine callsIn_of_wp Tryz.func103 rfl trivial ?_ rfl
 simp only [Tryz.ntmps103, List.size_toArray, List.length_cons, List.length_nil, Nat.reduceAdd, Nat.reduceSub, Array.replicate_succ, Array.replicate_zero, List.push_toArray, List.append_toArray, List.nil_append, List.cons_append]
 gi_wp2
 refine ⟨trivial, E.mono ?_⟩
 rintro e W2 ⟨rfl, M2, j2, l2, m2, t2⟩
 rw [List.nil_append] at j2
 have hz2 := t2.size
 by_cases ho : nL = mL
 ·have bp2 : Blk W2 Bp #[.pointer (some ⟨A, a, none⟩), .pointer (some ⟨B, b, none⟩), .int .i64 0] 89 := (t2.block Bp (by omega) (fun h => h.1 rfl)).trans bp1
  have d0 := bp2.cell 0 _ rfl
  have d1 := bp2.cell 1 _ rfl
  have d2 := bp2.cell 2 _ rfl
  have kb : ∀ b, K b → b < w.heap.size → W2.heap[b]? = w.heap[b]? := fun b hk hb => (t2.block b (by omega) (fun h => h.2 hk)).trans (hW.block b hb)
  have eq : kidsP pL qL pE qE nL mL ks ks' = elemsP pL qL nL mL ++ entsP pE qE 0 ks ks' := by unfold kidsP; rw [if_pos ho]
  have G := ents_in l A a B b pE qE cE dE ks ks' h3 h4 K J hJ (kidsP pL qL pE qE nL mL ks ks').length hY M2 (elemsP pL qL nL mL) W2 l2 kA kB (by omega) (by omega) ((World.cell?_of_block (a := ⟨A, a + 5, none⟩) (kb A kA hA)).trans v5) ((World.cell?_of_block (a := ⟨B, b + 5, none⟩) (kb B kB hB)).trans u5) (hE.kept (by omega) kb) (hE'.kept (by omega) kb) j2 (by rw [eq, List.length_append]; exact Nat.le_refl _)
  have hd : decide (nL = mL) = true := decide_eq_true ho
  rw [hd]
  clear ho
  gi_wp2
  refine ⟨trivial, G.mono ?_⟩
  rintro e W3 ⟨⟨v, rfl⟩, M3, j3⟩
  gi_wp2
  go_end0
  exact ⟨⟨_, rfl⟩, M3, by rw [eq]; exact j3⟩
 ·have eq : kidsP pL qL pE qE nL mL ks ks' = elemsP pL qL nL mL := by unfold kidsP; rw [if_neg ho, List.append_nil]
  have hd : decide (nL = mL) = false := decide_eq_false ho
  rw [hd]
  clear ho
  gi_wp2
  go_end0
  exact ⟨⟨_, rfl⟩, M2, by rw [eq]; exact j2⟩
theorem partsP_in (x : Pr) (w : World) :
  CallsIn Fence.wide 8 Tryz.prog 63 #[encP x] w fun e w' => e = .returned (.func (.func 103) #[] #[.pointer (some ⟨w.heap.size, 0, none⟩)]) ∧ w' = w.alloc (.cells #[.pointer x.1, .pointer x.2.1, .int .i64 x.2.2] 89) := by
 unfold encP
 refine callsIn_of_wp Tryz.func63 rfl trivial ?_ rfl
 simp only [Tryz.ntmps63, List.size_toArray, List.length_cons, List.length_nil, Nat.reduceAdd, Nat.reduceSub, Array.replicate_succ, Array.replicate_zero, List.push_toArray, List.append_toArray, List.nil_append, List.cons_append]
 gi_wp2
 go_ret
 exact ⟨rfl, rfl⟩
def revP_ren : Ren := ⟨fun | 35 => 102 | n => n, fun | 22 => 153 | 23 => 89 | n => n, fun n => n⟩
theorem revP_lays : SlLaysE0.n35 Tryz.prog revP_ren := {
 mixed := by kernel_rfl
 f35 := ⟨Tryz.f102.name, by kernel_rfl, Tryz.func102.trans (congrArg some (by kernel_rfl))⟩
 t0 := Tryz.underlying0
 a0 := Tryz.isAgg0
 z0 := Tryz.sizeOf0
 v0 := Tryz.zeroValue0
 t3 := Tryz.underlying3
 a3 := Tryz.isAgg3
 z3 := Tryz.sizeOf3
 v3 := Tryz.zeroValue3
 t4 := Tryz.underlying4
 a4 := Tryz.isAgg4
 z4 := Tryz.sizeOf4
 v4 := Tryz.zeroValue4
 t22 := Tryz.underlying153
 a22 := Tryz.isAgg153
 z22 := Tryz.sizeOf153
 v22 := Tryz.zeroValue153 }
def cellsP (x : Pr) : List Value := [.pointer x.1, .pointer x.2.1, .int .i64 x.2.2]
theorem cellsP_one (x : Pr) : ∀ v ∈ cellsP x, Value.oneCell' v = true := fun v hv => by simp [cellsP] at hv; rcases hv with rfl | rfl | rfl <;> rfl
theorem revP_any (w : World) (g cap ca : Nat) (A B : List Pr) (hn : B.length ≤ 9223372036854775807) (h : w.ownsRow 0 89 3 (.slice (some ⟨g, 0, none⟩) (A.length + B.length) cap) (A.length + B.length) ((A ++ B).flatMap cellsP)) :
  Calls Tryz.prog 102 #[.slice (some ⟨g, A.length * 3, none⟩) B.length ca] w fun e w' => e = .returned (.tuple #[]) ∧ w'.ownsRow 0 89 3 (.slice (some ⟨g, 0, none⟩) (A.length + B.length) cap) (A.length + B.length) ((A ++ B.reverse).flatMap cellsP) ∧ w.grownBy w' (some g) := by
 obtain ⟨hH, hp⟩ := own_turn cellsP 3 (by decide) (fun _ => rfl) A B B.reverse (by simp) h
 have := AnyQ.slices_Reverse revP_lays 3 Tryz.isAgg89 Tryz.sizeOf89 cellsP (fun _ => rfl) cellsP_one g (A.length * 3) ca B.toArray w hH (by simpa using hn)
 simp only [List.size_toArray] at this
 refine this.mono ?_
 rintro e w' ⟨he, n, rfl⟩
 refine ⟨he, ?_⟩
 have e2 : B.toArray.reverse = B.reverse.toArray := by simp
 rw [e2]
 exact hp n
end Go.Proofs.YtnbfnjhbmeocfabGreatDoor.valus
