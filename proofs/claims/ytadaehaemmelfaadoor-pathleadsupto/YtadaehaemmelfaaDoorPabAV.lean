/- Of our texts, what this claim reaches. -/
import Derived.Test.YtadaehaemmelfaaDoorPabAF
import Derived.Test.YtadaehaemmelfaaDoorPabAO
import Derived.Test.YtadaehaemmelfaaDoorPabAD
import Derived.Test.YtadaehaemmelfaaDoorPabAE
import Derived.Deep.QuietTactic
import Derived.BigQuiet
set_option linter.unusedVariables false
set_option maxHeartbeats 8000000
set_option maxRecDepth 100000
namespace Go.Proofs.YtadaehaemmelfaaDoor.paths
open Go.RowKit Go.Shelf
open utfs (hide unhide)
open valus (Blk blk_alloc Abide Turns YieldAt.any WalksKs)
attribute [local go_sem] Oper.semAt_some
abbrev Kid : Type := SK × (Nat × Nat)
def encK (x : Kid) : Array Value := #[.agg #[.string x.1.1, .int .i64 x.1.2], .pointer (some ⟨x.2.1, x.2.2, none⟩)]
def kidE (p : Option Addr) (i : Nat) : Kid := ((⟨#[]⟩, (i : Int)), ((p.getD ⟨0, 0, none⟩).block, (p.getD ⟨0, 0, none⟩).off + i * 6))
def kidsE (p : Option Addr) (n : Nat) : List Kid := (List.range n).map (kidE p)
def kidT (ks : List ByteArray) (p : Option Addr) (i : Nat) : Kid := ((ks.getD i ⟨#[]⟩, -1), ((p.getD ⟨0, 0, none⟩).block, (p.getD ⟨0, 0, none⟩).off + i * 7 + 1))
def kidsT (ks : List ByteArray) (p : Option Addr) (n : Nat) : List Kid := (List.range n).map (kidT ks p)
theorem kidsE_succ (p : Option Addr) (n : Nat) : kidsE p (n + 1) = kidsE p n ++ [kidE p n] := by simp [kidsE, List.range_succ]
theorem kidsT_succ (ks : List ByteArray) (p : Option Addr) (n : Nat) : kidsT ks p (n + 1) = kidsT ks p n ++ [kidT ks p n] := by simp [kidsT, List.range_succ]
theorem kidsE_len (p : Option Addr) (n : Nat) : (kidsE p n).length = n := by simp [kidsE]
theorem kidsT_len (ks : List ByteArray) (p : Option Addr) (n : Nat) : (kidsT ks p n).length = n := by simp [kidsT]
theorem kid_first (p : Option Addr) {n k : Nat} (l : List Kid) (hk : k < n) : (kidsE p n ++ l)[k]? = some (kidE p k) := by
 rw [List.getElem?_append_left (by rw [kidsE_len]; exact hk)]
 unfold kidsE
 rw [List.getElem?_map, List.getElem?_range hk]
 rfl
theorem kid_next (p q : Option Addr) (ks : List ByteArray) {m : Nat} (n : Nat) {k : Nat} (hk : k < m) : (kidsE p n ++ kidsT ks q m)[n + k]? = some (kidT ks q k) := by
 rw [List.getElem?_append_right (by rw [kidsE_len]; omega), kidsE_len, Nat.add_sub_cancel_left]
 unfold kidsT
 rw [List.getElem?_map, List.getElem?_range hk]
 rfl
theorem kids_in (l Bp B o : Nat) (pL pE : Option Addr) (nL cL nE cE : Nat) (hL : nL ≠ 0 → ∃ b q, pL = some ⟨b, q, none⟩) (hE : nE ≠ 0 → ∃ b q, pE = some ⟨b, q, none⟩) (h2 : nL ≤ 9223372036854775807) (h4 : nE ≤ 9223372036854775807) (ks : List ByteArray)
  (K : Nat → Prop) (J : (Nat → Prop) → List Kid → World → Prop) (hJ : Abide J)
  (hY : ∀ M pre x X, J M pre X → (∀ b, M b → b < X.heap.size) → (kidsE pL nL ++ kidsT ks pE nE)[pre.length]? = some x → YieldAt Fence.wide 9 Tryd.prog l (encK x) X fun e X' => e = .returned (.bool true) ∧ Turns (fun b => ¬ M b ∧ ¬ K b) X X' ∧ J M (pre ++ [x]) X')
  (W : World) (kP : K Bp) (kB : K B) (hP : Bp < W.heap.size) (hB : B < W.heap.size)
  (v0 : W.cell? ⟨Bp, 0, none⟩ = some (.pointer (some ⟨B, o, none⟩))) (v4 : W.cell? ⟨B, o + 4, none⟩ = some (.slice pL nL cL)) (v5 : W.cell? ⟨B, o + 5, none⟩ = some (.slice pE nE cE))
  (hks : ∀ i, i < nE → ∀ b q, pE = some ⟨b, q, none⟩ → K b ∧ b < W.heap.size ∧ W.cell? ⟨b, q + i * 7, none⟩ = some (.string (ks.getD i ⟨#[]⟩))) (h0 : J (fun _ => False) [] W) :
  CallsIn Fence.wide 9 Tryd.prog 66 #[.func (.yield l) #[] #[], .pointer (some ⟨Bp, 0, none⟩)] W fun e W' => (∃ v, e = .returned v) ∧ ∃ M, J M (kidsE pL nL ++ kidsT ks pE nE) W' := by
 have kp : ∀ wr, Turns (fun b => ¬ K b) W wr → wr.cell? ⟨Bp, 0, none⟩ = some (.pointer (some ⟨B, o, none⟩)) ∧ wr.cell? ⟨B, o + 4, none⟩ = some (.slice pL nL cL) ∧ wr.cell? ⟨B, o + 5, none⟩ = some (.slice pE nE cE) := fun wr h =>
  ⟨(h.cell (p := ⟨Bp, 0, none⟩) hP (fun x => x kP)).trans v0, (h.cell (p := ⟨B, o + 4, none⟩) hB (fun x => x kB)).trans v4, (h.cell (p := ⟨B, o + 5, none⟩) hB (fun x => x kB)).trans v5⟩
 refine callsIn_of_wp Tryd.func66 rfl trivial ?_ rfl
 simp only [Tryd.ntmps66, List.size_toArray, List.length_cons, List.length_nil, Nat.reduceAdd, Nat.reduceSub, Array.replicate_succ, Array.replicate_zero, List.push_toArray, List.append_toArray, List.nil_append, List.cons_append]
 have Hks := hide hks
 clear hks
 gi_wp2
 gi_loopw [10] (fun i wr => ∃ k : Nat, k ≤ nL ∧ i = .int .i64 k ∧ J (fun _ => False) (kidsE pL k) wr ∧ Turns (fun b => ¬ K b) W wr) (fun i _ => nL - (intOf i).toNat)
 case atStart => exact ⟨0, Nat.zero_le _, rfl, h0, Turns.refl _ _⟩
 case round =>
  obtain ⟨k, hk, rfl, hJs, hT⟩ := hrel
  obtain ⟨c0, c4, c5⟩ := kp wr hT
  by_cases hlt : k < nL
  ·obtain ⟨bL, qL, rfl⟩ := hL (by omega)
   obtain ⟨fn, tmps, assign, body, hy, hR⟩ := YieldAt.any 8 (hY (fun _ => False) _ (kidE (some ⟨bL, qL, none⟩) k) wr hJs (fun _ h => h.elim) (by rw [kidsE_len]; exact kid_first _ _ hlt))
   simp only [encK, kidE, Option.getD_some] at hy
   gi_wp2
   refine hR.mono ?_
   rintro e W3 ⟨rfl, hT3, hJ3⟩
   have hT4 := hT.trans (hT3.mono fun _ _ h => h.2) (fun _ _ h => h)
   have hJ4 : J (fun _ => False) (kidsE (some ⟨bL, qL, none⟩) (k + 1)) W3 := by rw [kidsE_succ]; exact hJ3
   clear hT3 hJ3 hR hy hJs hT
   gi_wp2
   go_roundw
   case rel => exact ⟨k + 1, by omega, by simp, hJ4, hT4⟩
   case measure => simp [intOf]; omega
  ·obtain rfl : k = nL := by omega
   gi_wp2
   gi_loopw [30] (fun i ws => ∃ j : Nat, j ≤ nE ∧ i = .int .i64 j ∧ J (fun _ => False) (kidsE pL k ++ kidsT ks pE j) ws ∧ Turns (fun b => ¬ K b) W ws) (fun i _ => nE - (intOf i).toNat)
   case atStart => exact ⟨0, Nat.zero_le _, rfl, by simpa [kidsT] using hJs, hT⟩
   case round =>
    obtain ⟨j, hj, rfl, hJt, hTt⟩ := hrel
    obtain ⟨d0, d4, d5⟩ := kp wr hTt
    by_cases hlt' : j < nE
    ·obtain ⟨bE, qE, rfl⟩ := hE (by omega)
     obtain ⟨kE, lE, cK⟩ := Hks.out j hlt' bE qE rfl
     have dk := (hTt.cell (p := ⟨bE, qE + j * 7, none⟩) lE (fun x => x kE)).trans cK
     obtain ⟨fn, tmps, assign, body, hy, hR⟩ := YieldAt.any 8 (hY (fun _ => False) _ (kidT ks (some ⟨bE, qE, none⟩) j) wr.drew (hJ _ _ _ wr _ hJt (Turns.drew _ _) (fun _ h => .inl h)) (fun _ h => h.elim) (by rw [List.length_append, kidsE_len, kidsT_len]; exact kid_next _ _ _ _ hlt'))
     simp only [encK, kidT, Option.getD_some] at hy
     generalize ks.getD j ⟨#[]⟩ = key at *
     gi_wp2
     have hmix : (Tryd.prog).follows .mixedOrders = true := by kernel_rfl
     gi_region_with_o (refine hR.mono ?_; intro e W3 hres; obtain ⟨he, hT3, hJ3⟩ := hres; subst he)
     all_goals
      have hT4 := (hTt.trans (Turns.drew _ _) (fun _ _ h => h)).trans (hT3.mono fun _ _ h => h.2) (fun _ _ h => h)
      have hJ4 : J (fun _ => False) (kidsE pL k ++ kidsT ks (some ⟨bE, qE, none⟩) (j + 1)) W3 := by rw [kidsT_succ, ← List.append_assoc]; exact hJ3
      clear hT3 hJ3 hR hy hJt hTt
      gi_wp2
      go_roundw
      case rel => exact ⟨j + 1, by omega, by simp, hJ4, hT4⟩
      case measure => simp [intOf]; omega
    ·obtain rfl : j = nE := by omega
     gi_wp2
     go_end0
     exact ⟨⟨_, rfl⟩, _, hJt⟩
end Go.Proofs.YtadaehaemmelfaaDoor.paths
namespace Go.Proofs.YtadaehaemmelfaaDoor.paths
open Go.RowKit Go.Shelf
open utfs (hide unhide)
open valus (Blk blk_alloc Abide Turns YieldAt.any WalksKs)
theorem kids_walk (Bp B o : Nat) (pL pE : Option Addr) (nL cL nE cE : Nat) (hL : nL ≠ 0 → ∃ b q, pL = some ⟨b, q, none⟩) (hE : nE ≠ 0 → ∃ b q, pE = some ⟨b, q, none⟩) (h2 : nL ≤ 9223372036854775807) (h4 : nE ≤ 9223372036854775807) (ks : List ByteArray)
  (K : Nat → Prop) (W : World) (kP : K Bp) (kB : K B) (hP : Bp < W.heap.size) (hB : B < W.heap.size)
  (v0 : W.cell? ⟨Bp, 0, none⟩ = some (.pointer (some ⟨B, o, none⟩))) (v4 : W.cell? ⟨B, o + 4, none⟩ = some (.slice pL nL cL)) (v5 : W.cell? ⟨B, o + 5, none⟩ = some (.slice pE nE cE))
  (hks : ∀ i, i < nE → ∀ b q, pE = some ⟨b, q, none⟩ → K b ∧ b < W.heap.size ∧ W.cell? ⟨b, q + i * 7, none⟩ = some (.string (ks.getD i ⟨#[]⟩))) :
  WalksKs Tryd.prog 66 #[.pointer (some ⟨Bp, 0, none⟩)] encK (kidsE pL nL ++ kidsT ks pE nE) K (fun _ => False) W := fun l J W' hJ hY hW h0 =>
 kids_in l Bp B o pL pE nL cL nE cE hL hE h2 h4 ks K J hJ hY W' kP kB (Nat.lt_of_lt_of_le hP hW.size) (Nat.lt_of_lt_of_le hB hW.size)
  ((hW.cell (p := ⟨Bp, 0, none⟩) hP).trans v0) ((hW.cell (p := ⟨B, o + 4, none⟩) hB).trans v4) ((hW.cell (p := ⟨B, o + 5, none⟩) hB).trans v5)
  (fun i hi b q e => by obtain ⟨k1, k2, k3⟩ := hks i hi b q e; exact ⟨k1, Nat.lt_of_lt_of_le k2 hW.size, (hW.cell (p := ⟨b, q + i * 7, none⟩) k2).trans k3⟩) h0
end Go.Proofs.YtadaehaemmelfaaDoor.paths
