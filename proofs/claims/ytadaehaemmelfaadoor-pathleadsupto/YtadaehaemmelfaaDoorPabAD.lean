/- Of our texts, what this claim reaches. -/
import Derived.Test.YtadaehaemmelfaaDoorPabAB
import Derived.RangeFuncNested
import Derived.RangeFuncBound
import Derived.RangeFuncCalls
import Derived.RangeFuncLeaves
import Derived.Shelf.Abstract
import Derived.Shelf.RegionOpen
import Derived.WalkKit
import Derived.OwnWalkIn
import Derived.TacticsInMore
import Derived.LoopNIn
import Derived.LoopIn
import Derived.Test.YtadaehaemmelfaaDoorChecked
set_option linter.unusedVariables false
set_option maxHeartbeats 4000000
set_option maxRecDepth 100000
namespace Go.Proofs.YtadaehaemmelfaaDoor.valus
open Go.RowKit Go.Shelf
attribute [local go_sem] Oper.semAt_some
abbrev Nd := Nat × Nat × Int
def encN (x : Nd) : Value := .agg #[.pointer (some ⟨x.1, x.2.1, none⟩), .int .i64 x.2.2]
def kidAt (p : Option Addr) (d k : Nat) (a : Int) (i : Nat) : Nd := ((p.getD ⟨0, 0, none⟩).block, (p.getD ⟨0, 0, none⟩).off + i * d + k, a)
def kidsTo (p : Option Addr) (d k : Nat) (a : Int) (n : Nat) : List Nd := (List.range n).map (kidAt p d k a)
theorem kidsTo_succ (p : Option Addr) (d k : Nat) (a : Int) (n : Nat) : kidsTo p d k a (n + 1) = kidsTo p d k a n ++ [kidAt p d k a n] := by simp [kidsTo, List.range_succ]
theorem kidsTo_len (p : Option Addr) (d k : Nat) (a : Int) (n : Nat) : (kidsTo p d k a n).length = n := by simp [kidsTo]
theorem room_none {F : Fence} (hd : F.depth = none) (k : Nat) : F.room k := fun d h => by rw [hd] at h; cases h
theorem YieldAt.any {m : Nat} (m' : Nat) {P : Program} {l : Nat} {args : Array Value} {W : World} {R : Ending → World → Prop} (h : YieldAt Fence.wide m P l args W R) : YieldAt Fence.wide m' P l args W R := by
 obtain ⟨fn, tmps, assign, body, hy, hR⟩ := h
 exact ⟨fn, tmps, assign, body, hy, ⟨hR.1, fun c cs _ => hR.2 c cs (room_none rfl _)⟩⟩
theorem YieldAt.oneWay {m : Nat} {P : Program} {l : Nat} {args : Array Value} {W : World} {A B : World → Prop} (h : YieldAt Fence.wide m P l args W fun e W' => (e = .returned (.bool true) ∧ A W') ∨ (e = .returned (.bool false) ∧ B W')) :
  YieldAt Fence.wide m P l args W fun e W' => ∃ bb : Bool, e = .returned (.bool bb) ∧ ((bb = true ∧ A W') ∨ (bb = false ∧ B W')) :=
 h.mono fun e W' hr => hr.elim (fun hr => ⟨true, hr.1, .inl ⟨rfl, hr.2⟩⟩) (fun hr => ⟨false, hr.1, .inr ⟨rfl, hr.2⟩⟩)
theorem parts1_in (l Bn B o : Nat) (ab : Int) (pL pE : Option Addr) (nL cL nE cE : Nat) (hL : nL ≠ 0 → ∃ b q, pL = some ⟨b, q, none⟩) (hE : nE ≠ 0 → ∃ b q, pE = some ⟨b, q, none⟩) (h2 : nL ≤ 9223372036854775807) (h4 : nE ≤ 9223372036854775807)
  (Kp : World → World → Prop) (hKp : ∀ X Y, Kp X Y → Y.heap[Bn]? = X.heap[Bn]? ∧ Y.heap[B]? = X.heap[B]?) (J Jx : List Nd → World → Prop) (hJd : ∀ pre W, J pre W → J pre W.drew)
  (hY : ∀ pre x W, J pre W → pre.length < nL + nE → YieldAt Fence.wide 9 Tryd.prog l #[encN x] W fun e W' =>
   (e = .returned (.bool true) ∧ J (pre ++ [x]) W' ∧ Kp W W') ∨ (e = .returned (.bool false) ∧ Jx (pre ++ [x]) W'))
  (W : World) (hB0 : W.cell? ⟨Bn, 0, none⟩ = some (.pointer (some ⟨B, o, none⟩))) (hB1 : W.cell? ⟨Bn, 1, none⟩ = some (.int .i64 ab)) (hv4 : W.cell? ⟨B, o + 4, none⟩ = some (.slice pL nL cL)) (hv5 : W.cell? ⟨B, o + 5, none⟩ = some (.slice pE nE cE)) (h0 : J [] W) :
  CallsIn Fence.wide 9 Tryd.prog 73 #[.func (.yield l) #[] #[], .pointer (some ⟨Bn, 0, none⟩)] W fun e W' => (∃ v, e = .returned v) ∧
   ((∃ ys, ys = kidsTo pL 6 0 (IntKind.i64.wrap (ab + 1)) nL ++ kidsTo pE 7 1 (IntKind.i64.wrap (ab + 1)) nE ∧ J ys W') ∨ (∃ pre, Jx pre W')) := by
 refine callsIn_of_wp Tryd.func73 rfl trivial ?_ rfl
 simp only [Tryd.ntmps73, List.size_toArray, List.length_cons, List.length_nil, Nat.reduceAdd, Nat.reduceSub, Array.replicate_succ, Array.replicate_zero, List.push_toArray, List.append_toArray, List.nil_append, List.cons_append]
 gi_wp2
 gi_loopw [11] (fun i wr => ∃ k : Nat, k ≤ nL ∧ i = .int .i64 k ∧ J (kidsTo pL 6 0 (IntKind.i64.wrap (ab + 1)) k) wr ∧ wr.heap[Bn]? = W.heap[Bn]? ∧ wr.heap[B]? = W.heap[B]?)
  (fun i _ => nL - (intOf i).toNat)
 case atStart => exact ⟨0, Nat.zero_le _, rfl, h0, rfl, rfl⟩
 case round =>
  obtain ⟨k, hk, rfl, hJs, hk1, hk2⟩ := hrel
  have b0 : wr.cell? ⟨Bn, 0, none⟩ = some (.pointer (some ⟨B, o, none⟩)) := (World.cell?_of_block hk1).trans hB0
  have b1 : wr.cell? ⟨Bn, 1, none⟩ = some (.int .i64 ab) := (World.cell?_of_block hk1).trans hB1
  have v4 : wr.cell? ⟨B, o + 4, none⟩ = some (.slice pL nL cL) := (World.cell?_of_block hk2).trans hv4
  by_cases hlt : k < nL
  ·obtain ⟨bL, qL, rfl⟩ := hL (by omega)
   obtain ⟨fn, tmps, assign, body, hy, hR⟩ := YieldAt.any 8 (YieldAt.oneWay (hY _ (kidAt (some ⟨bL, qL, none⟩) 6 0 (IntKind.i64.wrap (ab + 1)) k) wr.drew (hJd _ _ hJs) (by rw [kidsTo_len]; omega)))
   simp only [encN, kidAt, Option.getD_some, Nat.add_zero] at hy
   gi_wp2
   have hmix : (Tryd.prog).follows .mixedOrders = true := by kernel_rfl
   gi_region_with_o (refine hR.mono ?_; intro e W3 hres; obtain ⟨bb, he, hres⟩ := hres; subst he)
   all_goals
    rcases hres with ⟨rfl, hJ3, hk3⟩ | ⟨rfl, hJx3⟩
    ·gi_wp2
     go_roundw
     case rel => exact ⟨k + 1, by omega, by simp, by rw [kidsTo_succ]; exact hJ3, (hKp _ _ hk3).1.trans hk1, (hKp _ _ hk3).2.trans hk2⟩
     case measure => simp [intOf]; omega
    ·gi_wp2
     refine bodyPost_ret (results_none rfl _ _ _) rfl ?_
     exact ⟨⟨_, rfl⟩, .inr ⟨_, hJx3⟩⟩
  ·obtain rfl : k = nL := by omega
   have v5 : wr.cell? ⟨B, o + 5, none⟩ = some (.slice pE nE cE) := (World.cell?_of_block hk2).trans hv5
   gi_wp2
   gi_loopw [35] (fun i ws => ∃ j : Nat, j ≤ nE ∧ i = .int .i64 j ∧ J (kidsTo pL 6 0 (IntKind.i64.wrap (ab + 1)) k ++ kidsTo pE 7 1 (IntKind.i64.wrap (ab + 1)) j) ws ∧ ws.heap[Bn]? = W.heap[Bn]? ∧ ws.heap[B]? = W.heap[B]?)
    (fun i _ => nE - (intOf i).toNat)
   case atStart => exact ⟨0, Nat.zero_le _, rfl, by simpa [kidsTo] using hJs, hk1, hk2⟩
   case round =>
    obtain ⟨j, hj, rfl, hJt, hj1, hj2⟩ := hrel
    have c0 : wr.cell? ⟨Bn, 0, none⟩ = some (.pointer (some ⟨B, o, none⟩)) := (World.cell?_of_block hj1).trans hB0
    have c1 : wr.cell? ⟨Bn, 1, none⟩ = some (.int .i64 ab) := (World.cell?_of_block hj1).trans hB1
    have c5 : wr.cell? ⟨B, o + 5, none⟩ = some (.slice pE nE cE) := (World.cell?_of_block hj2).trans hv5
    by_cases hlt' : j < nE
    ·obtain ⟨bE, qE, rfl⟩ := hE (by omega)
     obtain ⟨fn, tmps, assign, body, hy, hR⟩ := YieldAt.any 8 (YieldAt.oneWay (hY _ (kidAt (some ⟨bE, qE, none⟩) 7 1 (IntKind.i64.wrap (ab + 1)) j) wr.drew (hJd _ _ hJt) (by rw [List.length_append, kidsTo_len, kidsTo_len]; omega)))
     simp only [encN, kidAt, Option.getD_some] at hy
     gi_wp2
     have hmix : (Tryd.prog).follows .mixedOrders = true := by kernel_rfl
     gi_region_with_o (refine hR.mono ?_; intro e W3 hres; obtain ⟨bb, he, hres⟩ := hres; subst he)
     all_goals
      rcases hres with ⟨rfl, hJ3, hk3⟩ | ⟨rfl, hJx3⟩
      ·gi_wp2
       go_roundw
       case rel => exact ⟨j + 1, by omega, by simp, by rw [kidsTo_succ, ← List.append_assoc]; exact hJ3, (hKp _ _ hk3).1.trans hj1, (hKp _ _ hk3).2.trans hj2⟩
       case measure => simp [intOf]; omega
      ·gi_wp2
       refine bodyPost_ret (results_none rfl _ _ _) rfl ?_
       exact ⟨⟨_, rfl⟩, .inr ⟨_, hJx3⟩⟩
    ·obtain rfl : j = nE := by omega
     gi_wp2
     go_end0
     exact ⟨⟨_, rfl⟩, .inl ⟨_, rfl, hJt⟩⟩
theorem parts_stops (Bn B o : Nat) (ab : Int) (pL pE : Option Addr) (nL cL nE cE : Nat) (hL : nL ≠ 0 → ∃ b q, pL = some ⟨b, q, none⟩) (hE : nE ≠ 0 → ∃ b q, pE = some ⟨b, q, none⟩) (h2 : nL ≤ 9223372036854775807) (h4 : nE ≤ 9223372036854775807)
  (Kp : World → World → Prop) (hKp : ∀ X Y, Kp X Y → Y.heap[Bn]? = X.heap[Bn]? ∧ Y.heap[B]? = X.heap[B]?) (w : World) (hBn : Bn < w.heap.size) (hB : B < w.heap.size)
  (hB0 : w.cell? ⟨Bn, 0, none⟩ = some (.pointer (some ⟨B, o, none⟩))) (hB1 : w.cell? ⟨Bn, 1, none⟩ = some (.int .i64 ab)) (hv4 : w.cell? ⟨B, o + 4, none⟩ = some (.slice pL nL cL)) (hv5 : w.cell? ⟨B, o + 5, none⟩ = some (.slice pE nE cE)) :
  SeqStopsK Fence.wide 8 Tryd.prog 73 #[.pointer (some ⟨Bn, 0, none⟩)] (fun x : Nd => #[encN x]) Kp (fun ys => ys = kidsTo pL 6 0 (IntKind.i64.wrap (ab + 1)) nL ++ kidsTo pE 7 1 (IntKind.i64.wrap (ab + 1)) nE) (fun _ => True) (nL + nE) w := fun l J Jx W hW hJ _ hY h0 => by
 refine (callsIn_wide.2 (callsIn_wide.1 (parts1_in l Bn B o ab pL pE nL cL nE cE hL hE h2 h4 Kp hKp J Jx (fun pre X hX => hJ pre X X.drew none hX ⟨rfl, rfl, rfl, Nat.le_refl _, fun _ _ _ => rfl⟩ (fun r e => by cases e)) (fun pre x X hX hl => YieldAt.any 9 (hY pre x X hX hl)) W ((hW.cell (p := ⟨Bn, 0, none⟩) hBn).trans hB0) ((hW.cell (p := ⟨Bn, 1, none⟩) hBn).trans hB1) ((hW.cell (p := ⟨B, o + 4, none⟩) hB).trans hv4) ((hW.cell (p := ⟨B, o + 5, none⟩) hB).trans hv5) h0))).mono ?_
 rintro e W' ⟨hv, h | ⟨pre, h⟩⟩
 ·exact ⟨hv, .inl h⟩
 ·exact ⟨hv, .inr ⟨pre, trivial, h⟩⟩
end Go.Proofs.YtadaehaemmelfaaDoor.valus
