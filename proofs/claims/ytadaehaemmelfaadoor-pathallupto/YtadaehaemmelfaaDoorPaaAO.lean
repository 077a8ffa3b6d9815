/- Of our texts, what this claim reaches. -/
import Derived.Test.YtadaehaemmelfaaDoorPaaAJ
import Derived.Test.YtadaehaemmelfaaDoorPaaAE
import Derived.Lib.AppendIntMem
import Derived.Lib.Walk
import Derived.BigCall
import Derived.BigGuard
set_option linter.unusedVariables false
set_option maxHeartbeats 8000000
set_option maxRecDepth 100000
namespace Go.Proofs.YtadaehaemmelfaaDoor.bigs
open Go.RowKit Go.Sort
def bru64 : List Int := [0, 1, 56, 2, 57, 49, 28, 3, 61, 58, 42, 50, 38, 29, 17, 4, 62, 47, 59, 36, 45, 43, 51, 22, 53, 39, 33, 30, 24, 18, 12, 5, 63, 55, 48, 27, 60, 41, 37, 16, 46, 35, 44, 21, 52, 32, 23, 11, 54, 26, 40, 15, 34, 20, 31, 10, 25, 14, 19, 9, 13, 8, 7, 6]
structure NumTabs (w : World) : Prop where
 pow : Lib.TabIs Tryd.prog w "internal/strconv.uint64pow10" .u64 Lib.pow10Tab
 bru : Lib.TabIs Tryd.prog w "math/bits.deBruijn64tab" .u8 bru64
theorem tabKeep {P : Program} {w w' : World} {name : String} {k : IntKind} {zs : List Int} (h : Lib.TabIs P w name k zs) (hb : Below w.heap.size w w') : Lib.TabIs P w' name k zs := by
 unfold Lib.TabIs World.var? at *
 cases hg : P.globalNamed name with
 | none => simp [hg] at h
 | some g =>
  simp only [hg, Option.bind_some] at h ⊢
  have hlt : g < w.heap.size := by
   rcases Nat.lt_or_ge g w.heap.size with k | k
   ·exact k
   ·rw [Array.getElem?_eq_none k] at h
    simp at h
  rw [hb.block g hlt]
  exact h
theorem NumTabs.below {w w' : World} (h : NumTabs w) (hb : Below w.heap.size w w') : NumTabs w' := ⟨tabKeep h.pow hb, tabKeep h.bru hb⟩
def Pow2 (b s : Nat) : Prop := (b = 2 ∧ s = 1) ∨ (b = 8 ∧ s = 3) ∨ (b = 16 ∧ s = 4)
theorem isPow_any (w : World) (b s : Nat) (h : Pow2 b s) : Calls Tryd.prog 127 #[.int .i64 (b : Int)] w fun e w' => e = .returned (.bool true) ∧ w' = w := by
 rcases h with ⟨rfl, rfl⟩ | ⟨rfl, rfl⟩ | ⟨rfl, rfl⟩
 ·have a0 : Go.bits .and .i64 2 1 = 0 := by decide
  go_enter Tryd.func127, Tryd.ntmps127
  go_wp2
  go_ret
  exact ⟨rfl, rfl⟩
 ·have a0 : Go.bits .and .i64 8 7 = 0 := by decide
  go_enter Tryd.func127, Tryd.ntmps127
  go_wp2
  go_ret
  exact ⟨rfl, rfl⟩
 ·have a0 : Go.bits .and .i64 16 15 = 0 := by decide
  go_enter Tryd.func127, Tryd.ntmps127
  go_wp2
  go_ret
  exact ⟨rfl, rfl⟩
theorem tz64_any (w : World) (b s : Nat) (h : Pow2 b s) (ht : Lib.TabIs Tryd.prog w "math/bits.deBruijn64tab" .u8 bru64) : Calls Tryd.prog 133 #[.int .u64 (b : Int)] w fun e w' => e = .returned (.int .i64 (s : Int)) ∧ w' = w := by
 have hg : Tryd.prog.globalNamed "math/bits.deBruijn64tab" = some 4 := by kernel_rfl
 have c1 : w.cell? ⟨4, 1, none⟩ = some (.int .u8 1) := ht.cell hg 1 (by decide)
 have c7 : w.cell? ⟨4, 7, none⟩ = some (.int .u8 3) := ht.cell hg 7 (by decide)
 have c15 : w.cell? ⟨4, 15, none⟩ = some (.int .u8 4) := ht.cell hg 15 (by decide)
 clear ht hg
 rcases h with ⟨rfl, rfl⟩ | ⟨rfl, rfl⟩ | ⟨rfl, rfl⟩
 ·have a0 : Go.bits .and .u64 2 (IntKind.u64.wrap (-2)) = 2 := by decide
  have a1 : IntKind.u64.wrap (2 * 285870213051353865) = 571740426102707730 := by decide
  have a2 : (571740426102707730 : Int) / 288230376151711744 = 1 := by decide
  go_enter Tryd.func133, Tryd.ntmps133
  go_wp2
  go_ret
  exact ⟨rfl, rfl⟩
 ·have a0 : Go.bits .and .u64 8 (IntKind.u64.wrap (-8)) = 8 := by decide
  have a1 : IntKind.u64.wrap (8 * 285870213051353865) = 2286961704410830920 := by decide
  have a2 : (2286961704410830920 : Int) / 288230376151711744 = 7 := by decide
  go_enter Tryd.func133, Tryd.ntmps133
  go_wp2
  go_ret
  exact ⟨rfl, rfl⟩
 ·have a0 : Go.bits .and .u64 16 (IntKind.u64.wrap (-16)) = 16 := by decide
  have a1 : IntKind.u64.wrap (16 * 285870213051353865) = 4573923408821661840 := by decide
  have a2 : (4573923408821661840 : Int) / 288230376151711744 = 15 := by decide
  go_enter Tryd.func133, Tryd.ntmps133
  go_wp2
  go_ret
  exact ⟨rfl, rfl⟩
theorem tz_any (w : World) (b s : Nat) (h : Pow2 b s) (ht : Lib.TabIs Tryd.prog w "math/bits.deBruijn64tab" .u8 bru64) : Calls Tryd.prog 128 #[.int .u64 (b : Int)] w fun e w' => e = .returned (.int .i64 (s : Int)) ∧ w' = w := by
 have K := hide (tz64_any w b s h ht)
 have hb : b < 17 := by unfold Pow2 at h; omega
 clear ht h
 go_enter Tryd.func128, Tryd.ntmps128
 go_wp2_with fail
 refine (unhide K).mono ?_
 rintro _ w1 ⟨rfl, rfl⟩
 go_wp2
 go_ret
 exact ⟨rfl, rfl⟩
def Tail (w : World) (g t i : Nat) (W : List UInt8) : Prop := ∃ cs, w.heap[g]? = some (.cells cs t) ∧ cs.size = 65 ∧ i + W.length = 65 ∧ ∀ j, j < W.length → cs[i + j]? = some (.int .u8 ((W.getD j 0).toNat : Int))
theorem Tail.store {w : World} {g t i : Nat} {W : List UInt8} (h : Tail w g t (i + 1) W) (c : UInt8) : Tail (w.setCell ⟨g, i, none⟩ (.int .u8 (c.toNat : Int))) g t i (c :: W) := by
 obtain ⟨cs, h1, h2, h3, h4⟩ := h
 refine ⟨cs.setIfInBounds i (.int .u8 (c.toNat : Int)), ?_, by simp [h2], by simp; omega, fun j hj => ?_⟩
 ·simp only [World.setCell, Array.getElem?_modify, h1]
  simp
 ·rw [Array.getElem?_setIfInBounds]
  cases j with
  | zero => simp; omega
  | succ j =>
   rw [if_neg (by omega), show i + (j + 1) = i + 1 + j by omega, h4 j (by simpa using hj)]
   rfl
theorem Tail.froz {w : World} {g t i : Nat} {W : List UInt8} (h : Tail w g t i W) (j : Nat) : w.frozen? ⟨g, j, none⟩ = false := by
 obtain ⟨cs, h1, _⟩ := h
 simp [World.frozen?, h1]
theorem Tail.there {w : World} {g t i : Nat} {W : List UInt8} (h : Tail w g t i W) (j : Nat) (hj : j < 65) : ∃ v, w.cell? ⟨g, j, none⟩ = some v := by
 obtain ⟨cs, h1, h2, _⟩ := h
 refine ⟨cs[j]'(by omega), ?_⟩
 simp only [World.cell?, h1]
 exact Array.getElem?_eq_getElem (by omega)
end Go.Proofs.YtadaehaemmelfaaDoor.bigs
namespace Go.Proofs.YtadaehaemmelfaaDoor.bigs
open Go.RowKit Go.Sort
def dgs : ByteArray := ⟨#[48, 49, 50, 51, 52, 53, 54, 55, 56, 57, 97, 98, 99, 100, 101, 102, 103, 104, 105, 106, 107, 108, 109, 110, 111, 112, 113, 114, 115, 116, 117, 118, 119, 120, 121, 122]⟩
theorem dgs_at (d : Nat) (h : d < 16) (W : World) : (Instr.index 9 (.string ⟨#[48, 49, 50, 51, 52, 53, 54, 55, 56, 57, 97, 98, 99, 100, 101, 102, 103, 104, 105, 106, 107, 108, 109, 110, 111, 112, 113, 114, 115, 116, 117, 118, 119, 120, 121, 122]⟩) (.int .u64 (d : Int))).run Tryd.prog W = .ok (.int .u8 ((hexc d).toNat : Int)) W := by
 rw [run_index_string W 9 _ .u64 (d : Int) Tryd.underlying9]
 have hs : (⟨#[48, 49, 50, 51, 52, 53, 54, 55, 56, 57, 97, 98, 99, 100, 101, 102, 103, 104, 105, 106, 107, 108, 109, 110, 111, 112, 113, 114, 115, 116, 117, 118, 119, 120, 121, 122]⟩ : ByteArray).size = 36 := rfl
 rw [dif_pos (by rw [hs]; omega)]
 congr 2
 have : ∀ k : Fin 16, ((dgs.data[k.1]!).toNat : Int) = ((hexc k.1).toNat : Int) := by decide +kernel
 have e := this ⟨d, h⟩
 rw [← e]
 have hd : d < dgs.data.size := by have : dgs.data.size = 36 := rfl; omega
 rw [getElem!_pos dgs.data d hd]
 rfl
theorem sliceT (W : World) (g i : Nat) (hi : i < 65) : (Instr.sliceAt 165 (.pointer (some ⟨g, 0, none⟩)) (some (.int .i64 (i : Int))) none none).run Tryd.prog W = .ok (.slice (some ⟨g, i, none⟩) (65 - i) (65 - i)) W := by
 have hal : (Tryd.prog).arrayLen 165 = 65 := by simp [Program.arrayLen, Tryd.underlying165]
 rw [run_sliceAt_array_l W 165 ⟨g, 0, none⟩ (by simp [Program.arrayLen, Program.elem, Tryd.underlying165]) .i64 (i : Int) (by omega) (by rw [hal]; omega)]
 go_simp
 omega
theorem tail_text (W : World) (g i : Nat) (l : List UInt8) (h : Tail W g 165 i l) : (convert 97 9 (.slice (some ⟨g, i, none⟩) (65 - i) (65 - i))).run Tryd.prog W = .ok (.string ⟨l.toArray⟩) W := by
 obtain ⟨cs, h1, h2, h3, h4⟩ := h
 have e := run_convert_bytes_back (P := Tryd.prog) W 97 9 5 ⟨g, i, none⟩ (65 - i) l Tryd.underlying97 Tryd.underlying5 Tryd.underlying9 (fun j hj => by
  have c : W.cell? ⟨g, i + j, none⟩ = some (.int .u8 ((l.getD j 0).toNat : Int)) := by
   simp only [World.cell?, h1]
   exact h4 j hj
  rw [Lib.add_plain, c]
  simp [List.getD, hj])
 rwa [show l.length = 65 - i by omega] at e
theorem w64 : ∀ n : Int, 0 ≤ n → n < 2 ^ 64 → IntKind.u64.wrap n = n := fun n h1 h2 => by
 simp [IntKind.wrap, IntKind.bits, IntKind.signed]
 omega
theorem zero_of (P : Program) (t : TypeId) (z : Value) (h : (P.info? t).map (fun i => i.zero) = some (some z)) : ∀ W : World, (zeroValue t).run P W = .ok z W := by
 intro W
 cases hi : P.info? t with
 | none => rw [hi] at h; cases h
 | some i =>
  rw [hi] at h
  have h0 : i.zero = some z := by injection h
  simp [zeroValue, typeInfo, hi, h0]
theorem zero65 : ∃ Z : Array Value, Z.size = 65 ∧ ∀ W : World, (zeroValue 165).run Tryd.prog W = .ok (.agg Z) W := by
 have h : ((Tryd.prog).info? 165).map (fun i => i.zero) = some (some (.agg (Array.replicate 65 (.int .u8 0)))) := by kernel_rfl
 exact ⟨Array.replicate 65 (.int .u8 0), by simp, zero_of _ _ _ h⟩
theorem tail_new (w : World) (cs : Array Value) (h : cs.size = 65) : Tail (w.alloc (.cells cs 165)) w.heap.size 165 65 [] := by
 refine ⟨cs, ?_, h, rfl, fun j hj => absurd hj (by simp)⟩
 show (w.heap.push _)[w.heap.size]? = _
 simp
theorem and_2 (x : Nat) (hx : x < 18446744073709551616) : Go.bits .and .u64 (x : Int) 1 = ((x % 2 : Nat) : Int) := by
 have h := bits_mask .u64 64 (by decide) w64 1 (by decide) (x : Int) (by omega) (by omega)
 have e : ((2 : Int) ^ 1 - 1) = 1 := by decide
 rw [e] at h
 rw [h]
 omega
theorem formatBits_2 (w : World) (u : Nat) (hu : u < 18446744073709551616) (ht : Lib.TabIs Tryd.prog w "math/bits.deBruijn64tab" .u8 bru64) :
  Calls Tryd.prog 117 #[.slice none 0 0, .int .u64 (u : Int), .int .i64 2, .bool false, .bool false] w fun e w' => e = .returned (.tuple #[.slice none 0 0, .string ⟨(digB 2 u).toArray⟩]) ∧ Below w.heap.size w w' := by
 have hp : Pow2 2 1 := by unfold Pow2; omega
 have KP : ∀ W, Hid (Calls Tryd.prog 127 #[.int .i64 2] W fun e w' => e = .returned (.bool true) ∧ w' = W) := fun W => hide (isPow_any W 2 1 hp)
 have KT : ∀ W, Lib.TabIs Tryd.prog W "math/bits.deBruijn64tab" .u8 bru64 → Hid (Calls Tryd.prog 128 #[.int .u64 2] W fun e w' => e = .returned (.int .i64 1) ∧ w' = W) := fun W h => hide (tz_any W 2 1 hp h)
 have HT := hide ht
 obtain ⟨Z, hZ, hz⟩ := zero65
 clear ht hp
 go_enter Tryd.func117, Tryd.ntmps117
 go_wp2_with fail
 refine (unhide (KP _)).mono ?_
 rintro _ w1 ⟨rfl, hw1⟩
 have T0 : Hid (Tail w1 w.heap.size 165 65 []) := hide (by rw [hw1]; exact tail_new w _ hZ)
 have B1 : Hid (Below w.heap.size w w1) := hide (by rw [hw1]; exact (Below.refl _ _).alloc (Nat.le_refl _) _)
 clear hw1 KP
 go_wp2_with fail
 refine (unhide (KT _ (tabKeep (unhide HT) (unhide B1)))).mono ?_
 rintro _ w2 ⟨rfl, rfl⟩
 clear KT HT
 go_wp2_with fail
 go_loopw [1, 13] (fun v i wr => ∃ (x m k : Nat) (W : List UInt8), v = .int .u64 (x : Int) ∧ i = .int .i64 (m : Int) ∧ Hid (m = k + 1) ∧ m ≤ 65 ∧ x < 18446744073709551616 ∧ Hid (x < 2 ^ k) ∧ Hid (digB 2 u = digB 2 x ++ W) ∧ Hid (Tail wr w.heap.size 165 m W) ∧ Hid (Below w.heap.size w wr)) (fun v _ _ => (intOf v).toNat)
 case atStart => exact ⟨u, 65, 64, [], rfl, rfl, hide rfl, by omega, hu, hide hu, hide (by simp), T0, B1⟩
 case round =>
  obtain ⟨x, m, k, W, rfl, rfl, hm, m65, hx, hxk, hd, hT, hB⟩ := hrel
  clear T0
  have hmk := unhide hm
  have y1 : IntKind.i64.wrap ((m : Int) - 1) = (k : Int) := by simp [IntKind.wrap, IntKind.bits, IntKind.signed]; omega
  have fz : wr.frozen? ⟨w.heap.size, k, none⟩ = false := (unhide hT).froz k
  obtain ⟨v0, hv0⟩ := (unhide hT).there k (by omega)
  have k1 : (k : Int) < 65 := by omega
  have k0 : (0 : Int) ≤ (k : Int) := by omega
  by_cases c : 2 ≤ x
  ·have c1 : (x : Int) ≥ 2 := by omega
   have ha := and_2 x hx
   have hd16 : x % 2 < 16 := by omega
   have hix := dgs_at (x % 2) hd16
   have hn : digB 2 x = digB 2 (x / 2) ++ [hexc (x % 2)] := digB_high (by decide) c
   have HN : Hid (digB 2 u = digB 2 (x / 2) ++ hexc (x % 2) :: W) := hide (by rw [unhide hd, hn, List.append_assoc]; rfl)
   have hk1 : Hid (∃ k', k = k' + 1 ∧ x / 2 < 2 ^ k') := hide (by
    cases k with
    | zero => have := unhide hxk; simp at this; omega
    | succ k' =>
     refine ⟨k', rfl, ?_⟩
     have := unhide hxk
     rw [Nat.pow_succ] at this
     omega)
   have hT' := unhide hT
   rw [hmk] at hT'
   have ST : Hid (Tail (wr.setCell ⟨w.heap.size, k, none⟩ (.int .u8 ((hexc (x % 2)).toNat : Int))) w.heap.size 165 k (hexc (x % 2) :: W)) := hide (hT'.store (hexc (x % 2)))
   have SB : Hid (Below w.heap.size w (wr.setCell ⟨w.heap.size, k, none⟩ (.int .u8 ((hexc (x % 2)).toNat : Int)))) := hide ((unhide hB).setCell (p := ⟨w.heap.size, k, none⟩) (Nat.le_refl _) _)
   have hdiv : (x : Int) / 2 = ((x / 2 : Nat) : Int) := by omega
   have MS : Hid (x / 2 < x) := hide (by omega)
   have hq : x / 2 < 18446744073709551616 := by omega
   clear hm hxk hd hT hB hmk hn hT'
   generalize x / 2 = q at *
   generalize hexc (x % 2) = ch at *
   generalize x % 2 = d at *
   go_wp2
   go_roundw
   case rel =>
    obtain ⟨k', hk', hk''⟩ := unhide hk1
    exact ⟨q, k, k', ch :: W, by first | rfl | simp, by first | rfl | simp, hide hk', by omega, hq, hide hk'', HN, ST, SB⟩
   case measure => have := unhide MS; simp only [intOf]; omega
  ·have c1 : ¬ (x : Int) ≥ 2 := by omega
   have hd16 : x < 16 := by omega
   have hix := dgs_at x hd16
   have HN : Hid (digB 2 u = hexc x :: W) := hide (by rw [unhide hd, digB_low (by omega)]; rfl)
   have hT' := unhide hT
   rw [hmk] at hT'
   have ST : Tail (wr.setCell ⟨w.heap.size, k, none⟩ (.int .u8 ((hexc x).toNat : Int))) w.heap.size 165 k (hexc x :: W) := hT'.store (hexc x)
   have SB : Hid (Below w.heap.size w (wr.setCell ⟨w.heap.size, k, none⟩ (.int .u8 ((hexc x).toNat : Int)))) := hide ((unhide hB).setCell (p := ⟨w.heap.size, k, none⟩) (Nat.le_refl _) _)
   have hcv := tail_text _ _ _ _ ST
   have hsl : ∀ W, (Instr.sliceAt 165 (.pointer (some ⟨w.heap.size, 0, none⟩)) (some (.int .i64 (k : Int))) none none).run Tryd.prog W = .ok (.slice (some ⟨w.heap.size, k, none⟩) (65 - k) (65 - k)) W := fun W => sliceT W _ k (by omega)
   clear hm hxk hd hT hB hmk hT' ST
   generalize hexc x = ch at *
   generalize 65 - k = n65 at *
   go_wp2
   refine bodyPost_ret (v := .tuple #[.slice none 0 0, .string ⟨(ch :: W).toArray⟩]) (by simp [results, Tryd.results117, go_sem]) rfl ?_
   rw [unhide HN]
   exact ⟨rfl, unhide SB⟩
theorem and_16 (x : Nat) (hx : x < 18446744073709551616) : Go.bits .and .u64 (x : Int) 15 = ((x % 16 : Nat) : Int) := by
 have h := bits_mask .u64 64 (by decide) w64 4 (by decide) (x : Int) (by omega) (by omega)
 have e : ((2 : Int) ^ 4 - 1) = 15 := by decide
 rw [e] at h
 rw [h]
 omega
theorem formatBits_16 (w : World) (u : Nat) (hu : u < 18446744073709551616) (ht : Lib.TabIs Tryd.prog w "math/bits.deBruijn64tab" .u8 bru64) :
  Calls Tryd.prog 117 #[.slice none 0 0, .int .u64 (u : Int), .int .i64 16, .bool false, .bool false] w fun e w' => e = .returned (.tuple #[.slice none 0 0, .string ⟨(digB 16 u).toArray⟩]) ∧ Below w.heap.size w w' := by
 have hp : Pow2 16 4 := by unfold Pow2; omega
 have KP : ∀ W, Hid (Calls Tryd.prog 127 #[.int .i64 16] W fun e w' => e = .returned (.bool true) ∧ w' = W) := fun W => hide (isPow_any W 16 4 hp)
 have KT : ∀ W, Lib.TabIs Tryd.prog W "math/bits.deBruijn64tab" .u8 bru64 → Hid (Calls Tryd.prog 128 #[.int .u64 16] W fun e w' => e = .returned (.int .i64 4) ∧ w' = W) := fun W h => hide (tz_any W 16 4 hp h)
 have HT := hide ht
 obtain ⟨Z, hZ, hz⟩ := zero65
 clear ht hp
 go_enter Tryd.func117, Tryd.ntmps117
 go_wp2_with fail
 refine (unhide (KP _)).mono ?_
 rintro _ w1 ⟨rfl, hw1⟩
 have T0 : Hid (Tail w1 w.heap.size 165 65 []) := hide (by rw [hw1]; exact tail_new w _ hZ)
 have B1 : Hid (Below w.heap.size w w1) := hide (by rw [hw1]; exact (Below.refl _ _).alloc (Nat.le_refl _) _)
 clear hw1 KP
 go_wp2_with fail
 refine (unhide (KT _ (tabKeep (unhide HT) (unhide B1)))).mono ?_
 rintro _ w2 ⟨rfl, rfl⟩
 clear KT HT
 go_wp2_with fail
 go_loopw [1, 13] (fun v i wr => ∃ (x m k : Nat) (W : List UInt8), v = .int .u64 (x : Int) ∧ i = .int .i64 (m : Int) ∧ Hid (m = k + 1) ∧ m ≤ 65 ∧ x < 18446744073709551616 ∧ Hid (x < 2 ^ k) ∧ Hid (digB 16 u = digB 16 x ++ W) ∧ Hid (Tail wr w.heap.size 165 m W) ∧ Hid (Below w.heap.size w wr)) (fun v _ _ => (intOf v).toNat)
 case atStart => exact ⟨u, 65, 64, [], rfl, rfl, hide rfl, by omega, hu, hide hu, hide (by simp), T0, B1⟩
 case round =>
  obtain ⟨x, m, k, W, rfl, rfl, hm, m65, hx, hxk, hd, hT, hB⟩ := hrel
  clear T0
  have hmk := unhide hm
  have y1 : IntKind.i64.wrap ((m : Int) - 1) = (k : Int) := by simp [IntKind.wrap, IntKind.bits, IntKind.signed]; omega
  have fz : wr.frozen? ⟨w.heap.size, k, none⟩ = false := (unhide hT).froz k
  obtain ⟨v0, hv0⟩ := (unhide hT).there k (by omega)
  have k1 : (k : Int) < 65 := by omega
  have k0 : (0 : Int) ≤ (k : Int) := by omega
  by_cases c : 16 ≤ x
  ·have c1 : (x : Int) ≥ 16 := by omega
   have ha := and_16 x hx
   have hd16 : x % 16 < 16 := by omega
   have hix := dgs_at (x % 16) hd16
   have hn : digB 16 x = digB 16 (x / 16) ++ [hexc (x % 16)] := digB_high (by decide) c
   have HN : Hid (digB 16 u = digB 16 (x / 16) ++ hexc (x % 16) :: W) := hide (by rw [unhide hd, hn, List.append_assoc]; rfl)
   have hk1 : Hid (∃ k', k = k' + 1 ∧ x / 16 < 2 ^ k') := hide (by
    cases k with
    | zero => have := unhide hxk; simp at this; omega
    | succ k' =>
     refine ⟨k', rfl, ?_⟩
     have := unhide hxk
     rw [Nat.pow_succ] at this
     omega)
   have hT' := unhide hT
   rw [hmk] at hT'
   have ST : Hid (Tail (wr.setCell ⟨w.heap.size, k, none⟩ (.int .u8 ((hexc (x % 16)).toNat : Int))) w.heap.size 165 k (hexc (x % 16) :: W)) := hide (hT'.store (hexc (x % 16)))
   have SB : Hid (Below w.heap.size w (wr.setCell ⟨w.heap.size, k, none⟩ (.int .u8 ((hexc (x % 16)).toNat : Int)))) := hide ((unhide hB).setCell (p := ⟨w.heap.size, k, none⟩) (Nat.le_refl _) _)
   have hdiv : (x : Int) / 16 = ((x / 16 : Nat) : Int) := by omega
   have MS : Hid (x / 16 < x) := hide (by omega)
   have hq : x / 16 < 18446744073709551616 := by omega
   clear hm hxk hd hT hB hmk hn hT'
   generalize x / 16 = q at *
   generalize hexc (x % 16) = ch at *
   generalize x % 16 = d at *
   go_wp2
   go_roundw
   case rel =>
    obtain ⟨k', hk', hk''⟩ := unhide hk1
    exact ⟨q, k, k', ch :: W, by first | rfl | simp, by first | rfl | simp, hide hk', by omega, hq, hide hk'', HN, ST, SB⟩
   case measure => have := unhide MS; simp only [intOf]; omega
  ·have c1 : ¬ (x : Int) ≥ 16 := by omega
   have hd16 : x < 16 := by omega
   have hix := dgs_at x hd16
   have HN : Hid (digB 16 u = hexc x :: W) := hide (by rw [unhide hd, digB_low (by omega)]; rfl)
   have hT' := unhide hT
   rw [hmk] at hT'
   have ST : Tail (wr.setCell ⟨w.heap.size, k, none⟩ (.int .u8 ((hexc x).toNat : Int))) w.heap.size 165 k (hexc x :: W) := hT'.store (hexc x)
   have SB : Hid (Below w.heap.size w (wr.setCell ⟨w.heap.size, k, none⟩ (.int .u8 ((hexc x).toNat : Int)))) := hide ((unhide hB).setCell (p := ⟨w.heap.size, k, none⟩) (Nat.le_refl _) _)
   have hcv := tail_text _ _ _ _ ST
   have hsl : ∀ W, (Instr.sliceAt 165 (.pointer (some ⟨w.heap.size, 0, none⟩)) (some (.int .i64 (k : Int))) none none).run Tryd.prog W = .ok (.slice (some ⟨w.heap.size, k, none⟩) (65 - k) (65 - k)) W := fun W => sliceT W _ k (by omega)
   clear hm hxk hd hT hB hmk hT' ST
   generalize hexc x = ch at *
   generalize 65 - k = n65 at *
   go_wp2
   refine bodyPost_ret (v := .tuple #[.slice none 0 0, .string ⟨(ch :: W).toArray⟩]) (by simp [results, Tryd.results117, go_sem]) rfl ?_
   rw [unhide HN]
   exact ⟨rfl, unhide SB⟩
end Go.Proofs.YtadaehaemmelfaaDoor.bigs
namespace Go.Proofs.YtadaehaemmelfaaDoor.bigs
open Go.RowKit Go.Sort
theorem itoa_tell (n : Int) : Lib.itoa n = tellB 10 n := by
 unfold Lib.itoa tellB
 rw [show preB 10 = [] by rfl, List.nil_append, digB_ten]
 split
 ·rfl
 ·rw [List.nil_append]
  congr 1
  omega
theorem textN_any (w : World) (n : Int) (h0 : -9223372036854775808 ≤ n) (h1 : n ≤ 9223372036854775807) (ht : NumTabs w) :
  Calls Tryd.prog 70 #[.int .i64 n] w fun e w' => e = .returned (.string ⟨(tellB 10 n).toArray⟩) ∧ Below w.heap.size w w' := by
 have k := Tryd.strconv_FormatInt_10 n h0 h1 w ht.pow
 rw [itoa_tell] at k
 have K := hide k
 clear k ht
 go_enter Tryd.func70, Tryd.ntmps70
 go_wp2_with fail
 refine (unhide K).mono ?_
 rintro e w' ⟨rfl, k, os, hw⟩
 have B : Hid (Below w.heap.size w w') := hide (by rw [hw]; exact Lib.below_grow w.heap.size w (Nat.le_refl _) k os)
 clear hw K
 go_wp2
 go_ret
 exact ⟨rfl, unhide B⟩
end Go.Proofs.YtadaehaemmelfaaDoor.bigs
