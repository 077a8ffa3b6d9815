/- The document's numbers and texts as bytes. -/
import Derived.Test.YtdpoiagnjdajbaaDoorPtelAY
import Derived.Test.YtdpoiagnjdajbaaDoorPtelBD
import Derived.Test.YtdpoiagnjdajbaaDoorPtelAF
import Derived.Test.YtdpoiagnjdajbaaDoorPtelBC
set_option linter.unusedVariables false
namespace Go.Proofs.YtdpoiagnjdajbaaDoor.valus
open Go.RowKit Go.Shelf

theorem lenB (s : ByteArray) : s.data.toList.length = s.size := by simp
theorem catV (a b : ByteArray) (h : a.size + b.size ≤ 1000000000) (u : World) : (Op.stringOp .add a b).run Tryd.prog u = .ok (.string (a ++ b)) u := run_string_add_sum _ _ _ (by omega)
theorem catL (a b : ByteArray) : (a ++ b).data.toList = a.data.toList ++ b.data.toList := by simp
theorem sliceV (s : ByteArray) (a b : Nat) (x y : Int) (hx : x = (a : Int)) (hy : y = (b : Int)) (h1 : a ≤ b) (h2 : b ≤ s.size) (W : World) : (Instr.slice 9 (.string s) (some (.int .i64 x)) (some (.int .i64 y)) none).run Tryd.prog W = .ok (.string (s.extract a b)) W := by
  subst hx
  subst hy
  rw [run_slice_string W 9 s .i64 .i64 (a : Int) (b : Int) Tryd.underlying9 (by omega) (by omega) (by omega)]
  simp
theorem extL (s : ByteArray) (a b : Nat) : (s.extract a b).data.toList = (s.data.toList.take b).drop a := by
  rw [ByteArray.data_extract, Array.toList_extract]
  simp [List.extract, List.drop_take]
theorem take_next {l : List UInt8} {k : Nat} (h : k < l.length) : (l.take (k + 1)).drop k = [l[k]] := by
  rw [List.take_succ_eq_append_getElem h, List.drop_append_of_le_length (by simp; omega)]
  simp
set_option maxHeartbeats 4000000 in
set_option maxRecDepth 100000 in
theorem numberD_any (w : World) (s : ByteArray) (h8 : 8 ≤ s.size) : Calls Tryd.prog 46 #[.string s] w fun e w' => e = .returned (.int .u64 (num8 s.data.toList : Int)) ∧ w' = w := by
  have step : ∀ k, (h : k < s.size) → (numM (k + 1) 0 (s.data.toList, false, 0)).1 = (numM k 0 (s.data.toList, false, 0)).1 * 256 + (s[k]'h).toNat := fun k h => by
    rw [numM_snoc, numM_rest k 0 s.data.toList (false, 0) (by rw [lenB]; omega)]
    have hl : k < s.data.toList.length := by rw [lenB]; exact h
    rw [List.drop_eq_getElem_cons hl]
    rfl
  have bnd : ∀ k, k ≤ 7 → (numM k 0 (s.data.toList, false, 0)).1 < 72057594037927936 := fun k hk => by
    have h := numM_lt k 0 (s.data.toList, false, 0)
    have h2 : (256 : Nat) ^ k ≤ 256 ^ 7 := Nat.pow_le_pow_right (by omega) hk
    have h3 : (256 : Nat) ^ 7 = 72057594037927936 := by decide
    omega
  have HS := hide step
  have HB := hide bnd
  clear step bnd
  go_enter Tryd.func46, Tryd.ntmps46
  go_wp2
  go_loopw [3, 5] (fun x i wr => ∃ (k n : Nat), k ≤ 8 ∧ i = .int .i64 k ∧ x = .int .u64 (n : Int) ∧ Hid (n = (numM k 0 (s.data.toList, false, 0)).1) ∧ wr = w) (fun _ i _ => 8 - (intOf i).toNat)
  case atStart => exact ⟨0, 0, by omega, rfl, rfl, hide rfl, rfl⟩
  case round =>
    obtain ⟨k, n, hk, rfl, rfl, hn, hw⟩ := hrel
    subst hw
    by_cases hlt : k < 8
    · have i1 : (k : Int) < 8 := by omega
      have h1 : k < s.size := by omega
      have st := HS.out k h1
      have bd := HB.out k (by omega)
      rw [← hn.out] at st bd
      have cb := (s[k]'h1).toNat_lt
      have bI1 : (0 : Int) ≤ (n : Int) * 256 := by omega
      have bI2 : (n : Int) * 256 ≤ 18446744073709551615 := by omega
      have bI3 : (n : Int) * 256 + ((s[k]'h1).toNat : Int) ≤ 18446744073709551615 := by omega
      have ST := hide st
      clear st hn
      go_wp2
      go_roundw
      case rel => exact ⟨k + 1, n * 256 + (s[k]'h1).toNat, by omega, by go_num, by first | rfl | (congr 1) | go_num, hide (by rw [ST.out]), by first | rfl | trivial⟩
      case measure => simp only [intOf]; omega
    · obtain rfl : k = 8 := by omega
      have E := hide (show n = num8 s.data.toList from hn.out)
      clear hn
      go_wp2
      go_ret
      rw [E.out]
      exact ⟨rfl, rfl⟩
end Go.Proofs.YtdpoiagnjdajbaaDoor.valus
/- The document's numbers and texts as bytes: written. -/
set_option linter.unusedVariables false
namespace Go.Proofs.YtdpoiagnjdajbaaDoor.valus
open Go.RowKit Go.Shelf

theorem conv_one (w : World) (c : UInt8) (y : Int) (hy : y = (c.toNat : Int)) : (convert 27 9 (.slice (some ⟨w.heap.size, 0, none⟩) 1 1)).run Tryd.prog (w.alloc (.cells #[.int .u8 y] 5)) = .ok (.string ⟨#[c]⟩) (w.alloc (.cells #[.int .u8 y] 5)) := by
  subst hy
  have h := conv_bytes (w.alloc (.cells #[.int .u8 (c.toNat : Int)] 5)) (some ⟨w.heap.size, 0, none⟩) [c] 1 (w.heap.size + 1) (by simp) (fun _ => ⟨w.heap.size, 0, rfl, by omega, fun j u hj => by
    rw [Nat.zero_add]
    exact Blk.cell (blk_alloc w #[.int .u8 (c.toNat : Int)] 5) j u (by simpa [cellB] using hj)⟩)
  have e : strOfNums ([c].map fun x => (x.toNat : Int)) = ⟨#[c]⟩ := by simp [strOfNums]
  rw [e] at h
  exact h
set_option maxHeartbeats 4000000 in
set_option maxRecDepth 100000 in
theorem eight_any (w : World) (n : Nat) (hn : n < 18446744073709551616) : Calls Tryd.prog 26 #[.int .u64 (n : Int)] w fun e w' => (∃ s : ByteArray, e = .returned (.string s) ∧ s.data.toList = encB 8 n) ∧ Below w.heap.size w w' := by
  go_enter Tryd.func26, Tryd.ntmps26
  go_wp2
  go_loopw [0, 3, 4] (fun x y i wr => ∃ (k q : Nat) (s : ByteArray), k ≤ 8 ∧ i = .int .i64 k ∧ x = .int .u64 (q : Int) ∧ y = .string s ∧ Hid (q = n / 256 ^ k ∧ s.data.toList = encB k n) ∧ Hid (Below w.heap.size w wr)) (fun _ _ i _ => 8 - (intOf i).toNat)
  case atStart => exact ⟨0, n, ⟨#[]⟩, by omega, rfl, rfl, rfl, hide ⟨by rw [Nat.pow_zero, Nat.div_one], rfl⟩, hide (Below.refl _ _)⟩
  case round =>
    obtain ⟨k, q, s, hk, rfl, rfl, rfl, hq, hb⟩ := hrel
    by_cases hlt : k < 8
    · have i1 : (k : Int) < 8 := by omega
      obtain ⟨q1, q2⟩ := hq.out
      have qb : q < 18446744073709551616 := by rw [q1]; exact Nat.lt_of_le_of_lt (Nat.div_le_self _ _) hn
      obtain ⟨c, hc⟩ : ∃ c : UInt8, c = UInt8.ofNat (q % 256) := ⟨_, rfl⟩
      have hcn : c.toNat = q % 256 := by rw [hc, u8_small (Nat.mod_lt _ (by omega))]
      obtain ⟨p, hp⟩ : ∃ p, p = q / 256 := ⟨_, rfl⟩
      have m1 : ((q : Int)).tmod 256 = (c.toNat : Int) := by rw [hcn, Int.tmod_eq_emod_of_nonneg (by omega)]; omega
      have m2 : (q : Int) % 256 = (c.toNat : Int) := by rw [hcn]; omega
      have d1 : ((q : Int)).tdiv 256 = (p : Int) := by rw [hp, Int.tdiv_eq_ediv_of_nonneg (by omega)]; omega
      have d2 : (q : Int) / 256 = (p : Int) := by rw [hp]; omega
      have cb := c.toNat_lt
      have pb : (p : Int) ≤ 18446744073709551615 := by omega
      have hcv := conv_one wr c (c.toNat : Int) rfl
      have hsz : s.size ≤ 8 := by rw [← lenB, q2, encB_len]; omega
      have cat := catV ⟨#[c]⟩ s (by have : (⟨#[c]⟩ : ByteArray).size = 1 := rfl; omega)
      have NX : Hid (p = n / 256 ^ (k + 1) ∧ ((⟨#[c]⟩ : ByteArray) ++ s).data.toList = encB (k + 1) n) := hide (by
        refine ⟨by rw [hp, q1, Nat.pow_succ, Nat.div_div_eq_div_mul], ?_⟩
        rw [catL, q2]
        show c :: encB k n = UInt8.ofNat (n / 256 ^ k % 256) :: encB k n
        rw [hc, q1])
      have NB := hide (hb.out.trans (((Below.refl _ wr).alloc (Nat.le_refl _) (.cells #[.int .u8 (c.toNat : Int)] 5)).mono hb.out.size))
      clear hq hb hc hcn hp q1 q2 hsz
      generalize (⟨#[c]⟩ : ByteArray) ++ s = s' at *
      go_wp2
      go_roundw
      case rel => exact ⟨k + 1, p, s', by omega, by go_num, by first | rfl | go_num, rfl, NX, NB⟩
      case measure => simp only [intOf]; omega
    · obtain rfl : k = 8 := by omega
      have E := hide hq.out.2
      have NB := hide hb.out
      clear hq hb
      go_wp2
      go_ret
      exact ⟨⟨s, rfl, E.out⟩, NB.out⟩
theorem chainF_app : ∀ a b : List UInt8, chainF (a ++ b) = chainF a ++ chainF b
  | [], b => rfl
  | c :: a, b => by
    show chainF (c :: (a ++ b)) = _
    rw [chainF_cons, chainF_cons, chainF_app a b]
    split <;> rfl
set_option maxHeartbeats 4000000 in
set_option maxRecDepth 100000 in
theorem chainD_any (w : World) (s : ByteArray) (hs : s.size ≤ 10000000) : Calls Tryd.prog 27 #[.string s] w fun e w' => (∃ t : ByteArray, e = .returned (.string t) ∧ t.data.toList = chainL s.data.toList) ∧ w' = w := by
  go_enter Tryd.func27, Tryd.ntmps27
  go_wp2
  go_loopw [3, 4] (fun y i wr => ∃ (k : Nat) (t : ByteArray), k ≤ s.size ∧ i = .int .i64 k ∧ y = .string t ∧ Hid (t.data.toList = chainF (s.data.toList.take k)) ∧ wr = w) (fun _ i _ => s.size - (intOf i).toNat)
  case atStart => exact ⟨0, ⟨#[]⟩, Nat.zero_le _, rfl, rfl, hide rfl, rfl⟩
  case round =>
    obtain ⟨k, t, hk, rfl, rfl, ht, hw⟩ := hrel
    subst hw
    have tl := chainF_len (s.data.toList.take k)
    rw [← ht.out, lenB, List.length_take] at tl
    by_cases hlt : k < s.size
    · have i1 : (k : Int) < (s.size : Int) := by omega
      have hl : k < s.data.toList.length := by rw [lenB]; exact hlt
      have sl := sliceV s k (k + 1) (k : Int) ((k : Int) + 1) rfl (by omega) (by omega) (by omega)
      have hx : (s.extract k (k + 1)).data.toList = [s[k]'hlt] := by rw [extL, take_next hl]; rfl
      have hxs : (s.extract k (k + 1)).size = 1 := by rw [← lenB, hx]; rfl
      have c1 := catV t (s.extract k (k + 1)) (by omega)
      have c2 := catV (t ++ s.extract k (k + 1)) ⟨#[255]⟩ (by rw [ByteArray.size_append, hxs]; have : (⟨#[255]⟩ : ByteArray).size = 1 := rfl; omega)
      have tk : s.data.toList.take (k + 1) = s.data.toList.take k ++ [s[k]'hlt] := by rw [List.take_succ_eq_append_getElem hl]; rfl
      have L1 : (t ++ s.extract k (k + 1)).data.toList = chainF (s.data.toList.take k) ++ [s[k]'hlt] := by rw [catL, ht.out, hx]
      have cb := (s[k]'hlt).toNat_lt
      by_cases hc : s[k]'hlt = 0
      · have j1 : (((s[k]'hlt).toNat : Int) == 0) = true := by rw [hc]; rfl
        have j2 : ((s[k]'hlt).toNat : Int) = 0 := by rw [hc]; rfl
        have NX : Hid (((t ++ s.extract k (k + 1)) ++ ⟨#[255]⟩).data.toList = chainF (s.data.toList.take (k + 1))) := hide (by
          rw [catL, L1, tk, chainF_app, hc, List.append_assoc]
          rfl)
        clear ht hx hxs tk L1 hc
        generalize (t ++ s.extract k (k + 1)) ++ ⟨#[255]⟩ = t2 at *
        generalize t ++ s.extract k (k + 1) = t1 at *
        go_wp2
        go_roundw
        case rel => exact ⟨k + 1, t2, by omega, by go_num, rfl, NX, by first | rfl | trivial⟩
        case measure => simp only [intOf]; omega
      · have j1 : (((s[k]'hlt).toNat : Int) == 0) = false := beq_false_of_ne (fun e => hc (UInt8.toNat_inj.1 (by have : (0 : UInt8).toNat = 0 := rfl; omega)))
        have j2 : ¬ ((s[k]'hlt).toNat : Int) = 0 := fun e => hc (UInt8.toNat_inj.1 (by have : (0 : UInt8).toNat = 0 := rfl; omega))
        have NX : Hid ((t ++ s.extract k (k + 1)).data.toList = chainF (s.data.toList.take (k + 1))) := hide (by
          rw [L1, tk, chainF_app]
          have e : chainF [s[k]'hlt] = [s[k]'hlt] := by rw [chainF_cons, if_neg hc]; rfl
          rw [e])
        clear ht hx hxs tk L1 hc c2
        generalize t ++ s.extract k (k + 1) = t1 at *
        go_wp2
        go_roundw
        case rel => exact ⟨k + 1, t1, by omega, by go_num, rfl, NX, by first | rfl | trivial⟩
        case measure => simp only [intOf]; omega
    · obtain rfl : k = s.size := by omega
      have c1 := catV t ⟨#[0, 0]⟩ (by have : (⟨#[0, 0]⟩ : ByteArray).size = 2 := rfl; omega)
      have E : Hid ((t ++ ⟨#[0, 0]⟩).data.toList = chainL s.data.toList) := hide (by
        rw [catL, ht.out, ← lenB, List.take_length]
        rfl)
      clear ht tl
      generalize t ++ ⟨#[0, 0]⟩ = t1 at *
      go_wp2
      go_ret
      exact ⟨⟨t1, rfl, E.out⟩, rfl⟩
end Go.Proofs.YtdpoiagnjdajbaaDoor.valus
/- The document's Packed: what it answers. -/
set_option linter.unusedVariables false
namespace Go.Proofs.YtdpoiagnjdajbaaDoor.valus
open Go.RowKit Go.Shelf

/-- A text of these bytes. -/
abbrev strL (l : List UInt8) : ByteArray := ⟨l.toArray⟩
theorem strL_of {t : ByteArray} {l : List UInt8} (h : t.data.toList = l) : t = strL l := bytes_one (by rw [h])
theorem strL_cat (a b : List UInt8) : strL a ++ strL b = strL (a ++ b) := bytes_one (by rw [catL])
theorem strL_size (a : List UInt8) : (strL a).size = a.length := by simp [ByteArray.size]
/-- A value, written. -/
def PkD (f : Nat) (t : V) : Prop := ∀ (w : World) (a0 a1 a2 a3 a4 a5 : Value), LiesV (fun q => q < w.heap.size) f w [a0, a1, a2, a3, a4, a5] t →
  Calls Tryd.prog 12 #[.agg #[a0, a1, a2, a3, a4, a5]] w fun e w' => e = .returned (.string (strL (encV f t))) ∧ Below w.heap.size w w'
theorem catS (a b : List UInt8) (h : a.length + b.length ≤ 1000000000) (u : World) : (Op.stringOp .add (strL a) (strL b)).run Tryd.prog u = .ok (.string (strL (a ++ b))) u := by
  rw [catV (strL a) (strL b) (by rw [strL_size, strL_size]; exact h) u, strL_cat]
theorem eightS (w : World) (n : Nat) (hn : n < 18446744073709551616) : Calls Tryd.prog 26 #[.int .u64 (n : Int)] w fun e w' => e = .returned (.string (strL (encB 8 n))) ∧ Below w.heap.size w w' :=
  (eight_any w n hn).mono fun e w' ⟨⟨s, e1, e2⟩, e3⟩ => ⟨by rw [e1, strL_of e2], e3⟩
theorem chainS (w : World) (s : ByteArray) (hs : s.size ≤ 10000000) : Calls Tryd.prog 27 #[.string s] w fun e w' => e = .returned (.string (strL (chainL s.data.toList))) ∧ w' = w :=
  (chainD_any w s hs).mono fun e w' ⟨⟨t, e1, e2⟩, e3⟩ => ⟨by rw [e1, strL_of e2], e3⟩
theorem convS (w : World) (c : UInt8) (y : Int) (hy : y = (c.toNat : Int)) : (convert 27 9 (.slice (some ⟨w.heap.size, 0, none⟩) 1 1)).run Tryd.prog (w.alloc (.cells #[.int .u8 y] 5)) = .ok (.string (strL [c])) (w.alloc (.cells #[.int .u8 y] 5)) := conv_one w c y hy
end Go.Proofs.YtdpoiagnjdajbaaDoor.valus
/- The document's Packed. -/
set_option linter.unusedVariables false
namespace Go.Proofs.YtdpoiagnjdajbaaDoor.valus
open Go.RowKit Go.Shelf
set_option maxHeartbeats 8000000 in
set_option maxRecDepth 100000 in
theorem pk0 (w : World) (n : Int) (b : Nat) (s : ByteArray) (pL : Option Addr) (nL cL : Nat) (pE : Option Addr) (nE cE : Nat) :
    Calls Tryd.prog 12 #[.agg #[.int .i64 0, .int .i64 n, .int .u64 (b : Int), .string s, .slice pL nL cL, .slice pE nE cE]] w fun e w' => e = .returned (.string (strL ([1]))) ∧ Below w.heap.size w w' := by
  have hcv := convS (w.alloc (.cells #[.int .i64 0, .int .i64 n, .int .u64 (b : Int), .string s, .slice pL nL cL, .slice pE nE cE] 26)) 1 1 rfl
  rw [World.size_alloc] at hcv
  have bP : Below w.heap.size w ((w.alloc (.cells #[.int .i64 0, .int .i64 n, .int .u64 (b : Int), .string s, .slice pL nL cL, .slice pE nE cE] 26)).alloc (.cells #[.int .u8 1] 5)) := ((Below.refl _ w).alloc (Nat.le_refl _) _).alloc (by simp) _
  have sP : ((w.alloc (.cells #[.int .i64 0, .int .i64 n, .int .u64 (b : Int), .string s, .slice pL nL cL, .slice pE nE cE] 26)).alloc (.cells #[.int .u8 1] 5)).heap.size = w.heap.size + 2 := by simp
  have h1 := blk_alloc w #[.int .i64 0, .int .i64 n, .int .u64 (b : Int), .string s, .slice pL nL cL, .slice pE nE cE] 26
  have hbx : Blk ((w.alloc (.cells #[.int .i64 0, .int .i64 n, .int .u64 (b : Int), .string s, .slice pL nL cL, .slice pE nE cE] 26)).alloc (.cells #[.int .u8 1] 5)) w.heap.size #[.int .i64 0, .int .i64 n, .int .u64 (b : Int), .string s, .slice pL nL cL, .slice pE nE cE] 26 := h1.alloc _
  have u0 := h1.cell 0 _ rfl
  have y0 := hbx.cell 0 _ rfl
  clear h1
  go_enter Tryd.func12, Tryd.ntmps12
  go_upto_region 3 with fail
  clear hcv u0 y0
  generalize (w.alloc (.cells #[.int .i64 0, .int .i64 n, .int .u64 (b : Int), .string s, .slice pL nL cL, .slice pE nE cE] 26)).alloc (.cells #[.int .u8 1] 5) = P at *
  go_wp2
  go_ret
  exact ⟨rfl, bP⟩
set_option maxHeartbeats 8000000 in
set_option maxRecDepth 100000 in
theorem pk1_0 (w : World) (n : Int) (b : Nat) (s : ByteArray) (pL : Option Addr) (nL cL : Nat) (pE : Option Addr) (nE cE : Nat) (hn : n = 0) :
    Calls Tryd.prog 12 #[.agg #[.int .i64 1, .int .i64 n, .int .u64 (b : Int), .string s, .slice pL nL cL, .slice pE nE cE]] w fun e w' => e = .returned (.string (strL ([2, 0]))) ∧ Below w.heap.size w w' := by
  subst hn
  have hcv := convS (w.alloc (.cells #[.int .i64 1, .int .i64 0, .int .u64 (b : Int), .string s, .slice pL nL cL, .slice pE nE cE] 26)) 2 2 rfl
  rw [World.size_alloc] at hcv
  have bP : Below w.heap.size w ((w.alloc (.cells #[.int .i64 1, .int .i64 0, .int .u64 (b : Int), .string s, .slice pL nL cL, .slice pE nE cE] 26)).alloc (.cells #[.int .u8 2] 5)) := ((Below.refl _ w).alloc (Nat.le_refl _) _).alloc (by simp) _
  have sP : ((w.alloc (.cells #[.int .i64 1, .int .i64 0, .int .u64 (b : Int), .string s, .slice pL nL cL, .slice pE nE cE] 26)).alloc (.cells #[.int .u8 2] 5)).heap.size = w.heap.size + 2 := by simp
  have h1 := blk_alloc w #[.int .i64 1, .int .i64 0, .int .u64 (b : Int), .string s, .slice pL nL cL, .slice pE nE cE] 26
  have hbx : Blk ((w.alloc (.cells #[.int .i64 1, .int .i64 0, .int .u64 (b : Int), .string s, .slice pL nL cL, .slice pE nE cE] 26)).alloc (.cells #[.int .u8 2] 5)) w.heap.size #[.int .i64 1, .int .i64 0, .int .u64 (b : Int), .string s, .slice pL nL cL, .slice pE nE cE] 26 := h1.alloc _
  have u0 := h1.cell 0 _ rfl
  have y0 := hbx.cell 0 _ rfl
  clear h1
  go_enter Tryd.func12, Tryd.ntmps12
  go_upto_region 3 with fail
  clear hcv u0 y0
  generalize (w.alloc (.cells #[.int .i64 1, .int .i64 0, .int .u64 (b : Int), .string s, .slice pL nL cL, .slice pE nE cE] 26)).alloc (.cells #[.int .u8 2] 5) = P at *
  have q1 := hbx.cell 1 _ rfl
  have b3 : Below P.heap.size P (P.alloc (.cells #[.int .u8 0] 5)) := (Below.refl _ P).alloc (Nat.le_refl _) _
  have hB := bP.trans (b3.mono bP.size)
  have hcv := convS P 0 0 rfl
  rw [sP] at hcv
  have c1 : ∀ u, (Op.stringOp .add (strL [2]) (strL [0])).run Tryd.prog u = .ok (.string (strL [2, 0])) u := catS [2] [0] (by decide)
  have HB := hide hB
  clear hB b3 bP
  go_wp2
  go_ret
  exact ⟨rfl, HB.out⟩
set_option maxHeartbeats 8000000 in
set_option maxRecDepth 100000 in
theorem pk1_1 (w : World) (n : Int) (b : Nat) (s : ByteArray) (pL : Option Addr) (nL cL : Nat) (pE : Option Addr) (nE cE : Nat) (hn : n = 1) :
    Calls Tryd.prog 12 #[.agg #[.int .i64 1, .int .i64 n, .int .u64 (b : Int), .string s, .slice pL nL cL, .slice pE nE cE]] w fun e w' => e = .returned (.string (strL ([2, 1]))) ∧ Below w.heap.size w w' := by
  subst hn
  have hcv := convS (w.alloc (.cells #[.int .i64 1, .int .i64 1, .int .u64 (b : Int), .string s, .slice pL nL cL, .slice pE nE cE] 26)) 2 2 rfl
  rw [World.size_alloc] at hcv
  have bP : Below w.heap.size w ((w.alloc (.cells #[.int .i64 1, .int .i64 1, .int .u64 (b : Int), .string s, .slice pL nL cL, .slice pE nE cE] 26)).alloc (.cells #[.int .u8 2] 5)) := ((Below.refl _ w).alloc (Nat.le_refl _) _).alloc (by simp) _
  have sP : ((w.alloc (.cells #[.int .i64 1, .int .i64 1, .int .u64 (b : Int), .string s, .slice pL nL cL, .slice pE nE cE] 26)).alloc (.cells #[.int .u8 2] 5)).heap.size = w.heap.size + 2 := by simp
  have h1 := blk_alloc w #[.int .i64 1, .int .i64 1, .int .u64 (b : Int), .string s, .slice pL nL cL, .slice pE nE cE] 26
  have hbx : Blk ((w.alloc (.cells #[.int .i64 1, .int .i64 1, .int .u64 (b : Int), .string s, .slice pL nL cL, .slice pE nE cE] 26)).alloc (.cells #[.int .u8 2] 5)) w.heap.size #[.int .i64 1, .int .i64 1, .int .u64 (b : Int), .string s, .slice pL nL cL, .slice pE nE cE] 26 := h1.alloc _
  have u0 := h1.cell 0 _ rfl
  have y0 := hbx.cell 0 _ rfl
  clear h1
  go_enter Tryd.func12, Tryd.ntmps12
  go_upto_region 3 with fail
  clear hcv u0 y0
  generalize (w.alloc (.cells #[.int .i64 1, .int .i64 1, .int .u64 (b : Int), .string s, .slice pL nL cL, .slice pE nE cE] 26)).alloc (.cells #[.int .u8 2] 5) = P at *
  have q1 := hbx.cell 1 _ rfl
  have b3 : Below P.heap.size P (P.alloc (.cells #[.int .u8 1] 5)) := (Below.refl _ P).alloc (Nat.le_refl _) _
  have hB := bP.trans (b3.mono bP.size)
  have hcv := convS P 1 1 rfl
  rw [sP] at hcv
  have c1 : ∀ u, (Op.stringOp .add (strL [2]) (strL [1])).run Tryd.prog u = .ok (.string (strL [2, 1])) u := catS [2] [1] (by decide)
  have HB := hide hB
  clear hB b3 bP
  go_wp2
  go_ret
  exact ⟨rfl, HB.out⟩
set_option maxHeartbeats 8000000 in
set_option maxRecDepth 100000 in
theorem pk2 (w : World) (n : Int) (b : Nat) (s : ByteArray) (pL : Option Addr) (nL cL : Nat) (pE : Option Addr) (nE cE : Nat) (hn : -9223372036854775808 ≤ n ∧ n ≤ 9223372036854775807) :
    Calls Tryd.prog 12 #[.agg #[.int .i64 2, .int .i64 n, .int .u64 (b : Int), .string s, .slice pL nL cL, .slice pE nE cE]] w fun e w' => e = .returned (.string (strL (3 :: encB 8 (n + 9223372036854775808).toNat))) ∧ Below w.heap.size w w' := by
  obtain ⟨m, hm⟩ : ∃ m : Nat, m = (n + 9223372036854775808).toNat := ⟨_, rfl⟩
  rw [← hm]
  obtain ⟨em, hem⟩ : ∃ em, em = encB 8 m := ⟨_, rfl⟩
  rw [← hem]
  have hcv := convS (w.alloc (.cells #[.int .i64 2, .int .i64 n, .int .u64 (b : Int), .string s, .slice pL nL cL, .slice pE nE cE] 26)) 3 3 rfl
  rw [World.size_alloc] at hcv
  have bP : Below w.heap.size w ((w.alloc (.cells #[.int .i64 2, .int .i64 n, .int .u64 (b : Int), .string s, .slice pL nL cL, .slice pE nE cE] 26)).alloc (.cells #[.int .u8 3] 5)) := ((Below.refl _ w).alloc (Nat.le_refl _) _).alloc (by simp) _
  have sP : ((w.alloc (.cells #[.int .i64 2, .int .i64 n, .int .u64 (b : Int), .string s, .slice pL nL cL, .slice pE nE cE] 26)).alloc (.cells #[.int .u8 3] 5)).heap.size = w.heap.size + 2 := by simp
  have h1 := blk_alloc w #[.int .i64 2, .int .i64 n, .int .u64 (b : Int), .string s, .slice pL nL cL, .slice pE nE cE] 26
  have hbx : Blk ((w.alloc (.cells #[.int .i64 2, .int .i64 n, .int .u64 (b : Int), .string s, .slice pL nL cL, .slice pE nE cE] 26)).alloc (.cells #[.int .u8 3] 5)) w.heap.size #[.int .i64 2, .int .i64 n, .int .u64 (b : Int), .string s, .slice pL nL cL, .slice pE nE cE] 26 := h1.alloc _
  have u0 := h1.cell 0 _ rfl
  have y0 := hbx.cell 0 _ rfl
  clear h1
  go_enter Tryd.func12, Tryd.ntmps12
  go_upto_region 3 with fail
  clear hcv u0 y0
  generalize (w.alloc (.cells #[.int .i64 2, .int .i64 n, .int .u64 (b : Int), .string s, .slice pL nL cL, .slice pE nE cE] 26)).alloc (.cells #[.int .u8 3] 5) = P at *
  obtain ⟨X, hX⟩ : ∃ X, X = IntKind.u64.wrap n := ⟨_, rfl⟩
  have hX2 : X = n ∨ X = n + 18446744073709551616 := by
    rw [hX]
    simp [IntKind.wrap, IntKind.bits, IntKind.signed]
    omega
  have hX0 : 0 ≤ X ∧ X ≤ 18446744073709551615 := by
    rw [hX]
    simp [IntKind.wrap, IntKind.bits, IntKind.signed]
    omega
  have hw : IntKind.u64.wrap (X + 9223372036854775808) = (m : Int) := by
    rw [hm]
    simp [IntKind.wrap, IntKind.bits, IntKind.signed]
    omega
  have hml : m < 18446744073709551616 := by omega
  have q1 := hbx.cell 1 _ rfl
  have HE := hide (eightS P m hml)
  have c1 : ∀ u, (Op.stringOp .add (strL [3]) (strL (encB 8 m))).run Tryd.prog u = .ok (.string (strL (3 :: encB 8 m))) u := catS [3] (encB 8 m) (by rw [encB_len]; decide)
  have HB := hide bP
  have hXe := hX.symm
  have hx1 := hX0.1
  have hx2 := hX0.2
  clear hX hX2 hX0 hm hml bP hn
  rw [← hem] at HE c1
  clear hem
  generalize (m : Int) = M at *
  go_wp2_with (go_at_call 26; refine (unhide HE).mono ?_; rintro e w3 ⟨rfl, b3⟩)
  go_ret
  exact ⟨rfl, HB.out.trans (b3.mono HB.out.size)⟩
set_option maxHeartbeats 8000000 in
set_option maxRecDepth 100000 in
theorem pk3l (w : World) (n : Int) (b : Nat) (s : ByteArray) (pL : Option Addr) (nL cL : Nat) (pE : Option Addr) (nE cE : Nat) (hb : b < 9223372036854775808) :
    Calls Tryd.prog 12 #[.agg #[.int .i64 3, .int .i64 n, .int .u64 (b : Int), .string s, .slice pL nL cL, .slice pE nE cE]] w fun e w' => e = .returned (.string (strL (4 :: encB 8 (turnF b)))) ∧ Below w.heap.size w w' := by
  obtain ⟨m, hm⟩ : ∃ m : Nat, m = turnF b := ⟨_, rfl⟩
  rw [← hm]
  obtain ⟨em, hem⟩ : ∃ em, em = encB 8 m := ⟨_, rfl⟩
  rw [← hem]
  have hcv := convS (w.alloc (.cells #[.int .i64 3, .int .i64 n, .int .u64 (b : Int), .string s, .slice pL nL cL, .slice pE nE cE] 26)) 4 4 rfl
  rw [World.size_alloc] at hcv
  have bP : Below w.heap.size w ((w.alloc (.cells #[.int .i64 3, .int .i64 n, .int .u64 (b : Int), .string s, .slice pL nL cL, .slice pE nE cE] 26)).alloc (.cells #[.int .u8 4] 5)) := ((Below.refl _ w).alloc (Nat.le_refl _) _).alloc (by simp) _
  have sP : ((w.alloc (.cells #[.int .i64 3, .int .i64 n, .int .u64 (b : Int), .string s, .slice pL nL cL, .slice pE nE cE] 26)).alloc (.cells #[.int .u8 4] 5)).heap.size = w.heap.size + 2 := by simp
  have h1 := blk_alloc w #[.int .i64 3, .int .i64 n, .int .u64 (b : Int), .string s, .slice pL nL cL, .slice pE nE cE] 26
  have hbx : Blk ((w.alloc (.cells #[.int .i64 3, .int .i64 n, .int .u64 (b : Int), .string s, .slice pL nL cL, .slice pE nE cE] 26)).alloc (.cells #[.int .u8 4] 5)) w.heap.size #[.int .i64 3, .int .i64 n, .int .u64 (b : Int), .string s, .slice pL nL cL, .slice pE nE cE] 26 := h1.alloc _
  have u0 := h1.cell 0 _ rfl
  have y0 := hbx.cell 0 _ rfl
  clear h1
  go_enter Tryd.func12, Tryd.ntmps12
  go_upto_region 3 with fail
  clear hcv u0 y0
  generalize (w.alloc (.cells #[.int .i64 3, .int .i64 n, .int .u64 (b : Int), .string s, .slice pL nL cL, .slice pE nE cE] 26)).alloc (.cells #[.int .u8 4] 5) = P at *
  have hml : m < 18446744073709551616 := by rw [hm]; exact turnF_lt (by omega)
  have q2 := hbx.cell 2 _ rfl
  have HE := hide (eightS P m hml)
  have he : (b : Int) + 9223372036854775808 = (m : Int) := by rw [hm]; unfold turnF; rw [if_pos hb]; omega
  have hlt : (b : Int) < 9223372036854775808 := by omega
  have hbl : (0 : Int) ≤ (b : Int) := by omega
  have hmI : (m : Int) ≤ 18446744073709551615 := by omega
  have c1 : ∀ u, (Op.stringOp .add (strL [4]) (strL (encB 8 m))).run Tryd.prog u = .ok (.string (strL (4 :: encB 8 m))) u := catS [4] (encB 8 m) (by rw [encB_len]; decide)
  have HB := hide bP
  simp only [List.getElem_toArray, List.getElem_cons_zero, List.getElem_cons_succ] at q2
  clear hm hml bP hb hbx
  rw [← hem] at HE c1
  clear hem
  generalize (b : Int) = F at *
  generalize (m : Int) = M at *
  go_wp2_with (go_at_call 26; refine (unhide HE).mono ?_; rintro e w3 ⟨rfl, b3⟩)
  go_ret
  exact ⟨rfl, HB.out.trans (b3.mono HB.out.size)⟩
set_option maxHeartbeats 8000000 in
set_option maxRecDepth 100000 in
theorem pk3h (w : World) (n : Int) (b : Nat) (s : ByteArray) (pL : Option Addr) (nL cL : Nat) (pE : Option Addr) (nE cE : Nat) (hb : 9223372036854775808 ≤ b) (hb2 : b < 18446744073709551616) :
    Calls Tryd.prog 12 #[.agg #[.int .i64 3, .int .i64 n, .int .u64 (b : Int), .string s, .slice pL nL cL, .slice pE nE cE]] w fun e w' => e = .returned (.string (strL (4 :: encB 8 (turnF b)))) ∧ Below w.heap.size w w' := by
  obtain ⟨m, hm⟩ : ∃ m : Nat, m = turnF b := ⟨_, rfl⟩
  rw [← hm]
  obtain ⟨em, hem⟩ : ∃ em, em = encB 8 m := ⟨_, rfl⟩
  rw [← hem]
  have hcv := convS (w.alloc (.cells #[.int .i64 3, .int .i64 n, .int .u64 (b : Int), .string s, .slice pL nL cL, .slice pE nE cE] 26)) 4 4 rfl
  rw [World.size_alloc] at hcv
  have bP : Below w.heap.size w ((w.alloc (.cells #[.int .i64 3, .int .i64 n, .int .u64 (b : Int), .string s, .slice pL nL cL, .slice pE nE cE] 26)).alloc (.cells #[.int .u8 4] 5)) := ((Below.refl _ w).alloc (Nat.le_refl _) _).alloc (by simp) _
  have sP : ((w.alloc (.cells #[.int .i64 3, .int .i64 n, .int .u64 (b : Int), .string s, .slice pL nL cL, .slice pE nE cE] 26)).alloc (.cells #[.int .u8 4] 5)).heap.size = w.heap.size + 2 := by simp
  have h1 := blk_alloc w #[.int .i64 3, .int .i64 n, .int .u64 (b : Int), .string s, .slice pL nL cL, .slice pE nE cE] 26
  have hbx : Blk ((w.alloc (.cells #[.int .i64 3, .int .i64 n, .int .u64 (b : Int), .string s, .slice pL nL cL, .slice pE nE cE] 26)).alloc (.cells #[.int .u8 4] 5)) w.heap.size #[.int .i64 3, .int .i64 n, .int .u64 (b : Int), .string s, .slice pL nL cL, .slice pE nE cE] 26 := h1.alloc _
  have u0 := h1.cell 0 _ rfl
  have y0 := hbx.cell 0 _ rfl
  clear h1
  go_enter Tryd.func12, Tryd.ntmps12
  go_upto_region 3 with fail
  clear hcv u0 y0
  generalize (w.alloc (.cells #[.int .i64 3, .int .i64 n, .int .u64 (b : Int), .string s, .slice pL nL cL, .slice pE nE cE] 26)).alloc (.cells #[.int .u8 4] 5) = P at *
  have hml : m < 18446744073709551616 := by rw [hm]; exact turnF_lt (by omega)
  have q2 := hbx.cell 2 _ rfl
  have HE := hide (eightS P m hml)
  have he : 18446744073709551615 - (b : Int) = (m : Int) := by rw [hm]; unfold turnF; rw [if_neg (by omega)]; omega
  have hlt : ¬ (b : Int) < 9223372036854775808 := by omega
  have hub : (b : Int) ≤ 18446744073709551615 := by omega
  have hbl : (0 : Int) ≤ (b : Int) := by omega
  have hmI : (m : Int) ≤ 18446744073709551615 := by omega
  have c1 : ∀ u, (Op.stringOp .add (strL [4]) (strL (encB 8 m))).run Tryd.prog u = .ok (.string (strL (4 :: encB 8 m))) u := catS [4] (encB 8 m) (by rw [encB_len]; decide)
  have HB := hide bP
  simp only [List.getElem_toArray, List.getElem_cons_zero, List.getElem_cons_succ] at q2
  clear hm hml bP hb hb2 hbx
  rw [← hem] at HE c1
  clear hem
  generalize (b : Int) = F at *
  generalize (m : Int) = M at *
  go_wp2_with (go_at_call 26; refine (unhide HE).mono ?_; rintro e w3 ⟨rfl, b3⟩)
  go_ret
  exact ⟨rfl, HB.out.trans (b3.mono HB.out.size)⟩
set_option maxHeartbeats 8000000 in
set_option maxRecDepth 100000 in
theorem pk4 (w : World) (n : Int) (b : Nat) (s : ByteArray) (pL : Option Addr) (nL cL : Nat) (pE : Option Addr) (nE cE : Nat) (hs : s.size ≤ 4000) :
    Calls Tryd.prog 12 #[.agg #[.int .i64 4, .int .i64 n, .int .u64 (b : Int), .string s, .slice pL nL cL, .slice pE nE cE]] w fun e w' => e = .returned (.string (strL (5 :: chainL s.data.toList))) ∧ Below w.heap.size w w' := by
  obtain ⟨em, hem⟩ : ∃ em, em = chainL s.data.toList := ⟨_, rfl⟩
  rw [← hem]
  have hcv := convS (w.alloc (.cells #[.int .i64 4, .int .i64 n, .int .u64 (b : Int), .string s, .slice pL nL cL, .slice pE nE cE] 26)) 5 5 rfl
  rw [World.size_alloc] at hcv
  have bP : Below w.heap.size w ((w.alloc (.cells #[.int .i64 4, .int .i64 n, .int .u64 (b : Int), .string s, .slice pL nL cL, .slice pE nE cE] 26)).alloc (.cells #[.int .u8 5] 5)) := ((Below.refl _ w).alloc (Nat.le_refl _) _).alloc (by simp) _
  have sP : ((w.alloc (.cells #[.int .i64 4, .int .i64 n, .int .u64 (b : Int), .string s, .slice pL nL cL, .slice pE nE cE] 26)).alloc (.cells #[.int .u8 5] 5)).heap.size = w.heap.size + 2 := by simp
  have h1 := blk_alloc w #[.int .i64 4, .int .i64 n, .int .u64 (b : Int), .string s, .slice pL nL cL, .slice pE nE cE] 26
  have hbx : Blk ((w.alloc (.cells #[.int .i64 4, .int .i64 n, .int .u64 (b : Int), .string s, .slice pL nL cL, .slice pE nE cE] 26)).alloc (.cells #[.int .u8 5] 5)) w.heap.size #[.int .i64 4, .int .i64 n, .int .u64 (b : Int), .string s, .slice pL nL cL, .slice pE nE cE] 26 := h1.alloc _
  have u0 := h1.cell 0 _ rfl
  have y0 := hbx.cell 0 _ rfl
  clear h1
  go_enter Tryd.func12, Tryd.ntmps12
  go_upto_region 3 with fail
  clear hcv u0 y0
  generalize (w.alloc (.cells #[.int .i64 4, .int .i64 n, .int .u64 (b : Int), .string s, .slice pL nL cL, .slice pE nE cE] 26)).alloc (.cells #[.int .u8 5] 5) = P at *
  have q3 := hbx.cell 3 _ rfl
  have HE := hide (chainS P s (by omega))
  have hcl := chainL_len s.data.toList
  rw [lenB] at hcl
  have c1 : ∀ u, (Op.stringOp .add (strL [5]) (strL (chainL s.data.toList))).run Tryd.prog u = .ok (.string (strL (5 :: chainL s.data.toList))) u := catS [5] (chainL s.data.toList) (by simp only [List.length_cons, List.length_nil]; omega)
  have HB := hide bP
  clear bP hcl
  rw [← hem] at HE c1
  clear hem
  go_wp2_with (go_at_call 27; refine (unhide HE).mono ?_; rintro e w3 ⟨rfl, h3⟩; rw [h3]; clear h3)
  go_ret
  exact ⟨rfl, HB.out⟩
end Go.Proofs.YtdpoiagnjdajbaaDoor.valus
/- The document's Packed. -/
set_option linter.unusedVariables false
namespace Go.Proofs.YtdpoiagnjdajbaaDoor.valus
open Go.RowKit Go.Shelf
set_option maxHeartbeats 8000000 in
set_option maxRecDepth 100000 in
theorem pk5 (f : Nat) (w : World) (n : Int) (b : Nat) (s : ByteArray) (pL : Option Addr) (nL cL : Nat) (pE : Option Addr) (nE cE : Nat) (L : List V) (hlen : nL = L.length) (hcl : L.length ≤ cL ∧ cL ≤ maxLen) (rL : RowIn (fun q => q < w.heap.size) w pL 6 L.length (fun j us => ∃ y, L[j]? = some y ∧ LiesV (fun q => q < w.heap.size) f w us y)) (ih : ∀ y ∈ L, PkD f y) (hsz : ∀ j, (preL (encV f) (L.take j)).length ≤ 100000000) (hel : ∀ y ∈ L, (encV f y).length ≤ 100000000) :
    Calls Tryd.prog 12 #[.agg #[.int .i64 5, .int .i64 n, .int .u64 (b : Int), .string s, .slice pL nL cL, .slice pE nE cE]] w fun e w' => e = .returned (.string (strL (6 :: listL (encV f) L))) ∧ Below w.heap.size w w' := by
  subst hlen
  rw [listL_pre]
  have hcv := convS (w.alloc (.cells #[.int .i64 5, .int .i64 n, .int .u64 (b : Int), .string s, .slice pL L.length cL, .slice pE nE cE] 26)) 6 6 rfl
  rw [World.size_alloc] at hcv
  have bP : Below w.heap.size w ((w.alloc (.cells #[.int .i64 5, .int .i64 n, .int .u64 (b : Int), .string s, .slice pL L.length cL, .slice pE nE cE] 26)).alloc (.cells #[.int .u8 6] 5)) := ((Below.refl _ w).alloc (Nat.le_refl _) _).alloc (by simp) _
  have sP : ((w.alloc (.cells #[.int .i64 5, .int .i64 n, .int .u64 (b : Int), .string s, .slice pL L.length cL, .slice pE nE cE] 26)).alloc (.cells #[.int .u8 6] 5)).heap.size = w.heap.size + 2 := by simp
  have h1 := blk_alloc w #[.int .i64 5, .int .i64 n, .int .u64 (b : Int), .string s, .slice pL L.length cL, .slice pE nE cE] 26
  have hbx : Blk ((w.alloc (.cells #[.int .i64 5, .int .i64 n, .int .u64 (b : Int), .string s, .slice pL L.length cL, .slice pE nE cE] 26)).alloc (.cells #[.int .u8 6] 5)) w.heap.size #[.int .i64 5, .int .i64 n, .int .u64 (b : Int), .string s, .slice pL L.length cL, .slice pE nE cE] 26 := h1.alloc _
  have u0 := h1.cell 0 _ rfl
  have y0 := hbx.cell 0 _ rfl
  clear h1
  go_enter Tryd.func12, Tryd.ntmps12
  go_upto_region 3 with fail
  clear hcv u0 y0
  generalize (w.alloc (.cells #[.int .i64 5, .int .i64 n, .int .u64 (b : Int), .string s, .slice pL L.length cL, .slice pE nE cE] 26)).alloc (.cells #[.int .u8 6] 5) = P at *
  have q4 := hbx.cell 4 _ rfl
  have hn63 : L.length ≤ 9223372036854775807 := by have := hcl.2; unfold maxLen at this; omega
  have HB := hide bP
  have HS := hide hsz
  have HE := hide hel
  have HIH := hide ih
  have HR := hide rL
  have SW : Hid (w.heap.size ≤ P.heap.size) := hide bP.size
  clear bP sP hsz hel ih rL hbx hcl
  go_wp2
  clear q4
  go_loopw [3, 63] (fun y i wr => ∃ j : Nat, i = .int .i64 j ∧ j ≤ L.length ∧ y = .string (strL (6 :: preL (encV f) (L.take j))) ∧ Hid (Below w.heap.size w wr)) (fun _ i _ => L.length - (intOf i).toNat)
  case atStart => exact ⟨0, rfl, Nat.zero_le _, rfl, HB⟩
  case round =>
    obtain ⟨j, rfl, hj, rfl, hG⟩ := hrel
    by_cases hlt : j < L.length
    · have hltI : (j : Int) < (L.length : Int) := by omega
      obtain ⟨B, o, rfl, hBok, hBl, u0, u1, u2, u3, u4, u5, ⟨y, hy, hly⟩, k0, k1, k2, k3, k4, k5⟩ := HR.out.six hlt
      have hyL : y ∈ L := List.mem_iff_getElem?.2 ⟨j, hy⟩
      obtain ⟨yk, yn, yb, ys, ypL, ynL, ycL, ypE, ynE, ycE, rfl, rfl, rfl, rfl, rfl, rfl⟩ := hly.form
      have hg := hG.out
      have r0 := (hg.cell (p := ⟨B, o + j * 6, none⟩) hBok).trans k0
      have r1 := (hg.cell (p := ⟨B, o + j * 6 + 1, none⟩) hBok).trans k1
      have r2 := (hg.cell (p := ⟨B, o + j * 6 + 2, none⟩) hBok).trans k2
      have r3 := (hg.cell (p := ⟨B, o + j * 6 + 3, none⟩) hBok).trans k3
      have r4 := (hg.cell (p := ⟨B, o + j * 6 + 4, none⟩) hBok).trans k4
      have r5 := (hg.cell (p := ⟨B, o + j * 6 + 5, none⟩) hBok).trans k5
      have bA : Below wr.heap.size wr (wr.alloc (.cells #[.int .i64 yk, .int .i64 yn, .int .u64 (yb : Int), .string ys, .slice ypL ynL ycL, .slice ypE ynE ycE] 26)) := (Below.refl _ wr).alloc (Nat.le_refl _) _
      have hgA := hg.trans (bA.mono hg.size)
      have HC := hide (HIH.out y hyL (wr.alloc (.cells #[.int .i64 yk, .int .i64 yn, .int .u64 (yb : Int), .string ys, .slice ypL ynL ycL, .slice ypE ynE ycE] 26)) _ _ _ _ _ _ (hly.kept (fun q hq => Nat.lt_of_lt_of_le hq hgA.size) hgA.size (fun q hq _ => hgA.block q hq)))
      have HA := hide hgA
      have h1 := HS.out j
      have h2 := HE.out y hyL
      obtain ⟨ey, hey⟩ : ∃ ey, ey = encV f y := ⟨_, rfl⟩
      obtain ⟨S, hS⟩ : ∃ S, S = 6 :: preL (encV f) (L.take j) := ⟨_, rfl⟩
      rw [← hey] at HC h2
      rw [← hS]
      have hSl : S.length ≤ 100000001 := by rw [hS, List.length_cons]; omega
      have c1 : ∀ u, (Op.stringOp .add (strL [1]) (strL ey)).run Tryd.prog u = .ok (.string (strL (1 :: ey))) u := catS [1] ey (by simp only [List.length_cons, List.length_nil]; omega)
      have c2 := catS S (1 :: ey) (by simp only [List.length_cons]; omega)
      have NX : Hid (S ++ (1 :: ey) = 6 :: preL (encV f) (L.take (j + 1))) := hide (by rw [hS, hey, preL_succ hy]; rfl)
      clear k0 k1 k2 k3 k4 k5 hG hg hgA bA hly hBok hBl hy hyL hey hS hSl h1 h2
      generalize S ++ (1 :: ey) = S2 at *
      go_wp2_with (go_at_call 12; refine (unhide HC).mono ?_; rintro e w3 ⟨rfl, b3⟩)
      go_roundw
      case rel => exact ⟨j + 1, by go_num, hlt, by rw [NX.out], hide (HA.out.trans (b3.mono HA.out.size))⟩
      case measure => simp only [intOf]; omega
    · obtain rfl : j = L.length := by omega
      have h1 := HS.out L.length
      rw [List.take_length] at h1 ⊢
      have c1 : ∀ u, (Op.stringOp .add (strL (6 :: preL (encV f) L)) (strL [0])).run Tryd.prog u = .ok (.string (strL (6 :: (preL (encV f) L ++ [0])))) u := catS (6 :: preL (encV f) L) [0] (by simp only [List.length_cons, List.length_nil]; omega)
      have HG := hide hG.out
      clear hG h1 hlt hj
      generalize (6 :: preL (encV f) L) = S at *
      go_wp2
      go_ret
      exact ⟨rfl, HG.out⟩
end Go.Proofs.YtdpoiagnjdajbaaDoor.valus
/- The document's Packed. -/
set_option linter.unusedVariables false
namespace Go.Proofs.YtdpoiagnjdajbaaDoor.valus
open Go.RowKit Go.Shelf
set_option maxHeartbeats 8000000 in
set_option maxRecDepth 100000 in
theorem pk6 (f : Nat) (w : World) (n : Int) (b : Nat) (s : ByteArray) (pL : Option Addr) (nL cL : Nat) (pE : Option Addr) (nE cE : Nat) (L : List V) (hlen : nE = L.length) (hcl : L.length ≤ cE ∧ cE ≤ maxLen) (rL : RowIn (fun q => q < w.heap.size) w pE 7 L.length (fun j us => ∃ (key : ByteArray) (y : V) (xs : List Value), L[j]? = some (ent key.data.toList y) ∧ us = .string key :: xs ∧ key.size ≤ maxLen ∧ LiesV (fun q => q < w.heap.size) f w xs y)) (ih : ∀ e ∈ L, PkD f (opnE e).2) (hsz : ∀ j, (preE (encV f) (L.take j)).length ≤ 100000000) (hel : ∀ e ∈ L, (opnE e).1.length ≤ 100 ∧ (encV f (opnE e).2).length ≤ 100000000) :
    Calls Tryd.prog 12 #[.agg #[.int .i64 6, .int .i64 n, .int .u64 (b : Int), .string s, .slice pL nL cL, .slice pE nE cE]] w fun e w' => e = .returned (.string (strL (7 :: tabL (encV f) L))) ∧ Below w.heap.size w w' := by
  subst hlen
  rw [tabL_pre]
  have hcv := convS (w.alloc (.cells #[.int .i64 6, .int .i64 n, .int .u64 (b : Int), .string s, .slice pL nL cL, .slice pE L.length cE] 26)) 7 7 rfl
  rw [World.size_alloc] at hcv
  have bP : Below w.heap.size w ((w.alloc (.cells #[.int .i64 6, .int .i64 n, .int .u64 (b : Int), .string s, .slice pL nL cL, .slice pE L.length cE] 26)).alloc (.cells #[.int .u8 7] 5)) := ((Below.refl _ w).alloc (Nat.le_refl _) _).alloc (by simp) _
  have sP : ((w.alloc (.cells #[.int .i64 6, .int .i64 n, .int .u64 (b : Int), .string s, .slice pL nL cL, .slice pE L.length cE] 26)).alloc (.cells #[.int .u8 7] 5)).heap.size = w.heap.size + 2 := by simp
  have h1 := blk_alloc w #[.int .i64 6, .int .i64 n, .int .u64 (b : Int), .string s, .slice pL nL cL, .slice pE L.length cE] 26
  have hbx : Blk ((w.alloc (.cells #[.int .i64 6, .int .i64 n, .int .u64 (b : Int), .string s, .slice pL nL cL, .slice pE L.length cE] 26)).alloc (.cells #[.int .u8 7] 5)) w.heap.size #[.int .i64 6, .int .i64 n, .int .u64 (b : Int), .string s, .slice pL nL cL, .slice pE L.length cE] 26 := h1.alloc _
  have u0 := h1.cell 0 _ rfl
  have y0 := hbx.cell 0 _ rfl
  clear h1
  go_enter Tryd.func12, Tryd.ntmps12
  go_upto_region 3 with fail
  clear hcv u0 y0
  generalize (w.alloc (.cells #[.int .i64 6, .int .i64 n, .int .u64 (b : Int), .string s, .slice pL nL cL, .slice pE L.length cE] 26)).alloc (.cells #[.int .u8 7] 5) = P at *
  have q5 := hbx.cell 5 _ rfl
  have hn63 : L.length ≤ 9223372036854775807 := by have := hcl.2; unfold maxLen at this; omega
  have HB := hide bP
  have HS := hide hsz
  have HE := hide hel
  have HIH := hide ih
  have HR := hide rL
  clear bP sP hsz hel ih rL hbx hcl
  go_wp2
  clear q5
  go_loopw [3, 80] (fun y i wr => ∃ j : Nat, i = .int .i64 j ∧ j ≤ L.length ∧ y = .string (strL (7 :: preE (encV f) (L.take j))) ∧ Hid (Below w.heap.size w wr)) (fun _ i _ => L.length - (intOf i).toNat)
  case atStart => exact ⟨0, rfl, Nat.zero_le _, rfl, HB⟩
  case round =>
    obtain ⟨j, rfl, hj, rfl, hG⟩ := hrel
    by_cases hlt : j < L.length
    · have hltI : (j : Int) < (L.length : Int) := by omega
      obtain ⟨B, o, rfl, hBok, hBl, u0, u1, u2, u3, u4, u5, u6, ⟨key, y, ys', hy, eu, hks, hly⟩, k0, k1, k2, k3, k4, k5, k6⟩ := HR.out.seven hlt
      simp only [List.cons.injEq] at eu
      obtain ⟨rfl, rfl⟩ := eu
      have hyL : ent key.data.toList y ∈ L := List.mem_iff_getElem?.2 ⟨j, hy⟩
      obtain ⟨yk, yn, yb, ys, ypL, ynL, ycL, ypE, ynE, ycE, rfl, rfl, rfl, rfl, rfl, rfl⟩ := hly.form
      have hg := hG.out
      have r0 := (hg.cell (p := ⟨B, o + j * 7, none⟩) hBok).trans k0
      have r1 := (hg.cell (p := ⟨B, o + j * 7 + 1, none⟩) hBok).trans k1
      have r2 := (hg.cell (p := ⟨B, o + j * 7 + 2, none⟩) hBok).trans k2
      have r3 := (hg.cell (p := ⟨B, o + j * 7 + 3, none⟩) hBok).trans k3
      have r4 := (hg.cell (p := ⟨B, o + j * 7 + 4, none⟩) hBok).trans k4
      have r5 := (hg.cell (p := ⟨B, o + j * 7 + 5, none⟩) hBok).trans k5
      have r6 := (hg.cell (p := ⟨B, o + j * 7 + 6, none⟩) hBok).trans k6
      obtain ⟨W, hW⟩ : ∃ W, W = wr.alloc (.cells #[.string key, .int .i64 yk, .int .i64 yn, .int .u64 (yb : Int), .string ys, .slice ypL ynL ycL, .slice ypE ynE ycE] 54) := ⟨_, rfl⟩
      have bA : Below wr.heap.size wr W := by rw [hW]; exact (Below.refl _ wr).alloc (Nat.le_refl _) _
      have sW : W.heap.size = wr.heap.size + 1 := by rw [hW]; simp
      have hE : Blk W wr.heap.size #[.string key, .int .i64 yk, .int .i64 yn, .int .u64 (yb : Int), .string ys, .slice ypL ynL ycL, .slice ypE ynE ycE] 54 := by rw [hW]; exact blk_alloc _ _ _
      have hgA := hg.trans (bA.mono hg.size)
      obtain ⟨C, hC⟩ : ∃ C : World → Prop, C = Below (wr.heap.size + 1) W := ⟨_, rfl⟩
      obtain ⟨h3, h4⟩ := HE.out _ hyL
      have IH := HIH.out _ hyL
      rw [opnE_ent] at h3 h4 IH
      dsimp only at h3 h4 IH
      have hkl : key.size ≤ 100 := by rw [← lenB]; exact h3
      have h1 := HS.out j
      obtain ⟨ey, hey⟩ : ∃ ey, ey = encV f y := ⟨_, rfl⟩
      obtain ⟨ck, hck⟩ : ∃ ck, ck = chainL key.data.toList := ⟨_, rfl⟩
      obtain ⟨S, hS⟩ : ∃ S, S = 7 :: preE (encV f) (L.take j) := ⟨_, rfl⟩
      have hckl : ck.length ≤ 202 := by have := chainL_len key.data.toList; rw [hck]; omega
      have HEN : Hid (∀ w', C w' → w'.cell? ⟨wr.heap.size, 0, none⟩ = some (.string key) ∧ w'.cell? ⟨wr.heap.size, 1, none⟩ = some (.int .i64 yk) ∧ w'.cell? ⟨wr.heap.size, 2, none⟩ = some (.int .i64 yn) ∧ w'.cell? ⟨wr.heap.size, 3, none⟩ = some (.int .u64 (yb : Int)) ∧ w'.cell? ⟨wr.heap.size, 4, none⟩ = some (.string ys) ∧ w'.cell? ⟨wr.heap.size, 5, none⟩ = some (.slice ypL ynL ycL) ∧ w'.cell? ⟨wr.heap.size, 6, none⟩ = some (.slice ypE ynE ycE)) := hide fun w' h => by
        rw [hC] at h
        have hv : Blk w' wr.heap.size _ _ := (h.block wr.heap.size (by omega)).trans hE
        exact ⟨hv.cell 0 _ rfl, hv.cell 1 _ rfl, hv.cell 2 _ rfl, hv.cell 3 _ rfl, hv.cell 4 _ rfl, hv.cell 5 _ rfl, hv.cell 6 _ rfl⟩
      have HCH : Hid (∀ w', C w' → Calls Tryd.prog 27 #[.string key] w' fun e w'' => e = .returned (.string (strL ck)) ∧ C w'') := hide fun w' h => by
        rw [hck]
        exact (chainS w' key (by omega)).mono fun e w'' ⟨e1, e2⟩ => ⟨e1, by rw [e2]; exact h⟩
      have HPK : Hid (∀ w', C w' → Calls Tryd.prog 12 #[.agg #[.int .i64 yk, .int .i64 yn, .int .u64 (yb : Int), .string ys, .slice ypL ynL ycL, .slice ypE ynE ycE]] w' fun e w'' => e = .returned (.string (strL ey)) ∧ C w'') := hide fun w' h => by
        have h' := h
        rw [hC] at h'
        have hx := hgA.trans (h'.mono (by have := hg.size; omega))
        rw [hey]
        exact (IH w' _ _ _ _ _ _ (hly.kept (fun q hq => Nat.lt_of_lt_of_le hq hx.size) hx.size (fun q hq _ => hx.block q hq))).mono fun e w'' ⟨e1, e2⟩ => ⟨e1, by rw [hC]; exact h'.trans (e2.mono (by have := h'.size; omega))⟩
      have HOUT : Hid (∀ w', C w' → Below w.heap.size w w') := hide fun w' h => by
        rw [hC] at h
        exact hgA.trans (h.mono (by have := hg.size; omega))
      have GD : C W.drew := by rw [hC]; exact (Below.refl _ W).drew
      rw [hW] at GD
      rw [← hS]
      have hSl : S.length ≤ 100000001 := by rw [hS, List.length_cons]; omega
      rw [← hey] at h4
      obtain ⟨T1, hT1⟩ : ∃ T1, T1 = (1 :: ck) ++ ey := ⟨_, rfl⟩
      have hT1l : T1.length ≤ 100000300 := by rw [hT1, List.length_append, List.length_cons]; omega
      obtain ⟨S2, hS2⟩ : ∃ S2, S2 = S ++ T1 := ⟨_, rfl⟩
      have c1 : ∀ u, (Op.stringOp .add (strL [1]) (strL ck)).run Tryd.prog u = .ok (.string (strL (1 :: ck))) u := catS [1] ck (by simp only [List.length_cons, List.length_nil]; omega)
      have c2 : ∀ u, (Op.stringOp .add (strL (1 :: ck)) (strL ey)).run Tryd.prog u = .ok (.string (strL T1)) u := by rw [hT1]; exact catS (1 :: ck) ey (by simp only [List.length_cons]; omega)
      have c3 : ∀ u, (Op.stringOp .add (strL S) (strL T1)).run Tryd.prog u = .ok (.string (strL S2)) u := by rw [hS2]; exact catS S T1 (by omega)
      have NX : Hid (S2 = 7 :: preE (encV f) (L.take (j + 1))) := hide (by rw [hS2, hT1, hS, hey, hck, preE_succ hy, opnE_ent]; rfl)
      clear k0 k1 k2 k3 k4 k5 k6 hG hg hgA bA hly hBok hBl hy hyL hey hck hS hSl h1 h3 h4 hC hE sW hW IH hkl hckl hT1 hT1l hS2 hks
      go_upto_region 24 with fail
      refine wp_region_quiet (C := C) (by kernel_rfl) (by kernel_rfl) GD ?_
      simp only
      go_big_quiet_want
      refine ⟨(.string (strL S)), fun w9 G9 => ?_, ?_⟩
      · go_simp
      simp only [Act.put, List.setIfInBounds_toArray, List.set_cons_succ, List.set_cons_zero]
      go_big_quiet_on
      go_big_quiet_want
      refine ⟨(.pointer (some ⟨wr.heap.size, 0, none⟩)), fun w9 G9 => ?_, ?_⟩
      · go_simp
      simp only [Act.put, List.setIfInBounds_toArray, List.set_cons_succ, List.set_cons_zero]
      go_big_quiet_on
      go_big_quiet_want
      refine ⟨(.string key), fun w9 G9 => ?_, ?_⟩
      · obtain ⟨g0, g1, g2, g3, g4, g5, g6⟩ := unhide HEN w9 G9
        go_simp
      simp only [Act.put, List.setIfInBounds_toArray, List.set_cons_succ, List.set_cons_zero]
      go_big_quiet_on
      go_big_quiet_want
      refine ⟨(.string (strL ck)), fun w9 G9 => ?_, ?_⟩
      · go_simp
        exact unhide HCH w9 G9
      simp only [Act.put, List.setIfInBounds_toArray, List.set_cons_succ, List.set_cons_zero]
      go_big_quiet_on
      go_big_quiet_want
      refine ⟨(.string (strL (1 :: ck))), fun w9 G9 => ?_, ?_⟩
      · go_simp
      simp only [Act.put, List.setIfInBounds_toArray, List.set_cons_succ, List.set_cons_zero]
      go_big_quiet_on
      go_big_quiet_want
      refine ⟨(.pointer (some ⟨wr.heap.size, 1, none⟩)), fun w9 G9 => ?_, ?_⟩
      · go_simp
      simp only [Act.put, List.setIfInBounds_toArray, List.set_cons_succ, List.set_cons_zero]
      go_big_quiet_on
      go_big_quiet_want
      refine ⟨(.agg #[.int .i64 yk, .int .i64 yn, .int .u64 (yb : Int), .string ys, .slice ypL ynL ycL, .slice ypE ynE ycE]), fun w9 G9 => ?_, ?_⟩
      · obtain ⟨g0, g1, g2, g3, g4, g5, g6⟩ := unhide HEN w9 G9
        go_simp
      simp only [Act.put, List.setIfInBounds_toArray, List.set_cons_succ, List.set_cons_zero]
      go_big_quiet_on
      go_big_quiet_want
      refine ⟨(.string (strL ey)), fun w9 G9 => ?_, ?_⟩
      · go_simp
        exact unhide HPK w9 G9
      simp only [Act.put, List.setIfInBounds_toArray, List.set_cons_succ, List.set_cons_zero]
      go_big_quiet_on
      go_big_quiet_want
      refine ⟨(.string (strL T1)), fun w9 G9 => ?_, ?_⟩
      · go_simp
      simp only [Act.put, List.setIfInBounds_toArray, List.set_cons_succ, List.set_cons_zero]
      go_big_quiet_on
      go_big_quiet_want
      refine ⟨(.string (strL S2)), fun w9 G9 => ?_, ?_⟩
      · go_simp
      simp only [Act.put, List.setIfInBounds_toArray, List.set_cons_succ, List.set_cons_zero]
      go_big_quiet_on
      go_big_quiet_want
      refine ⟨(.string (strL S2)), fun w9 G9 => ?_, ?_⟩
      · go_simp
      simp only [Act.put, List.setIfInBounds_toArray, List.set_cons_succ, List.set_cons_zero]
      go_big_quiet_on
      refine wpQuiet_nil ?_
      intro w9 G9
      go_wp2
      go_roundw
      case rel => exact ⟨j + 1, by go_num, hlt, by rw [NX.out], hide (HOUT.out _ G9)⟩
      case measure => simp only [intOf]; omega
    · obtain rfl : j = L.length := by omega
      have h1 := HS.out L.length
      rw [List.take_length] at h1 ⊢
      have c1 : ∀ u, (Op.stringOp .add (strL (7 :: preE (encV f) L)) (strL [0])).run Tryd.prog u = .ok (.string (strL (7 :: (preE (encV f) L ++ [0])))) u := catS (7 :: preE (encV f) L) [0] (by simp only [List.length_cons, List.length_nil]; omega)
      have HG := hide hG.out
      clear hG h1 hlt hj
      generalize (7 :: preE (encV f) L) = S at *
      go_wp2
      go_ret
      exact ⟨rfl, HG.out⟩
end Go.Proofs.YtdpoiagnjdajbaaDoor.valus
/- The document's Packed, all together. -/
set_option linter.unusedVariables false
namespace Go.Proofs.YtdpoiagnjdajbaaDoor.valus
open Go.RowKit Go.Shelf

theorem sumOf_take (c : V → Nat) (L : List V) (j : Nat) : sumOf c (L.take j) ≤ sumOf c L := by
  have e1 : L = L.take j ++ L.drop j := (List.take_append_drop j L).symm
  have e2 : sumOf c L = sumOf c (L.take j) + sumOf c (L.drop j) := by rw [← sumOf_append, ← e1]
  omega
theorem pkd_all : ∀ (f : Nat) (t : V), GoodV f t → nodesV f t ≤ 2000 → PkD f t
  | 0, t, h, _ => h.elim
  | f + 1, t, hG, hn => fun w a0 a1 a2 a3 a4 a5 hl => by
    obtain ⟨k, n, b, s, L, E, pL, pE, cL, cE, rfl, ea, ⟨h1, h2, h3, h4⟩, ⟨h5, h6, h7, h8⟩, rL, rE⟩ := hl
    simp only [List.cons.injEq, and_true] at ea
    obtain ⟨rfl, rfl, rfl, rfl, rfl, rfl⟩ := ea
    obtain ⟨q, ⟨s1, s2⟩, gl, ge⟩ := hG
    rw [opn_mk] at q s1 s2 gl ge
    dsimp only at q s1 s2 gl ge
    rw [nodes_mk] at hn
    have e0 : encV (f + 1) (mkV (k, n, b, s.data.toList) L E) = UInt8.ofNat (k + 1).toNat :: bodyL (encV f) (k, n, b, s.data.toList) L E := rfl
    rw [e0]
    have hk := q.k
    dsimp only at hk
    obtain rfl | rfl | rfl | rfl | rfl | rfl | rfl : k = 0 ∨ k = 1 ∨ k = 2 ∨ k = 3 ∨ k = 4 ∨ k = 5 ∨ k = 6 := by omega
    · exact pk0 w n b s pL L.length cL pE E.length cE
    · rcases q.b rfl with h | h
      · obtain rfl : n = 0 := h
        exact pk1_0 w 0 b s pL L.length cL pE E.length cE rfl
      · obtain rfl : n = 1 := h
        exact pk1_1 w 1 b s pL L.length cL pE E.length cE rfl
    · exact pk2 w n b s pL L.length cL pE E.length cE h2
    · rcases Nat.lt_or_ge b 9223372036854775808 with h | h
      · exact pk3l w n b s pL L.length cL pE E.length cE h
      · exact pk3h w n b s pL L.length cL pE E.length cE h h3
    · exact pk4 w n b s pL L.length cL pE E.length cE (by rw [← lenB]; exact s1)
    · have hel : ∀ y ∈ L, (encV f y).length + 1000 ≤ 10000 * nodesV f y := fun y hy => encV_len f y (gl y hy)
      have hin : ∀ y ∈ L, nodesV f y ≤ sumOf (nodesV f) L := fun y hy => sumOf_inQ (nodesV f) hy
      exact pk5 f w n b s pL L.length cL pE E.length cE L rfl ⟨h5, h6⟩ rL (fun y hy => pkd_all f y (gl y hy) (by have := hin y hy; omega)) (fun j => by
        have a1 := preL_len (e := encV f) (c := nodesV f) (L.take j) (fun x hx => by have := hel x (List.mem_of_mem_take hx); omega)
        have a2 := sumOf_take (nodesV f) L j
        omega) (fun y hy => by have := hel y hy; have := hin y hy; omega)
    · have hel : ∀ e ∈ E, (opnE e).1.length ≤ 100 ∧ (encV f (opnE e).2).length + 1000 ≤ 10000 * nodesV f (opnE e).2 := fun e he => ⟨s2 e he, encV_len f _ (ge e he)⟩
      have hin : ∀ e ∈ E, nodesV f (opnE e).2 ≤ sumOf (fun e => nodesV f (opnE e).2) E := fun e he => sumOf_inQ (fun e => nodesV f (opnE e).2) he
      exact pk6 f w n b s pL L.length cL pE E.length cE E rfl ⟨h7, h8⟩ rE (fun e he => pkd_all f _ (ge e he) (by have := hin e he; omega)) (fun j => by
        have a1 := preE_len (e := encV f) (c := nodesV f) (E.take j) (fun x hx => hel x (List.mem_of_mem_take hx))
        rw [sumOf_mapQ] at a1
        have a2 := sumOf_take (fun e => nodesV f (opnE e).2) E j
        omega) (fun e he => ⟨(hel e he).1, by have := (hel e he).2; have := hin e he; omega⟩)
end Go.Proofs.YtdpoiagnjdajbaaDoor.valus
/- The document's texts as bytes: read. -/
set_option linter.unusedVariables false
namespace Go.Proofs.YtdpoiagnjdajbaaDoor.valus
open Go.RowKit Go.Shelf

/-- What unchain answers. -/
def UnchRes (l : List UInt8) (t : ByteArray) (n : Nat) : Prop := (unchL l = none ∧ t = ⟨#[]⟩ ∧ n = 0) ∨ (2 ≤ n ∧ n ≤ l.length ∧ unchL l = some (t.data.toList, l.drop n))
theorem unchL_two (c d : UInt8) (r : List UInt8) : unchL (c :: d :: r) = if c ≠ 0 then (unchL (d :: r)).map (fun p => (c :: p.1, p.2)) else if d = 0 then some ([], r) else if d ≠ 255 then none else (unchL r).map (fun p => (0 :: p.1, p.2)) := by rw [unchL]
theorem unchL_few {l : List UInt8} (h : l.length ≤ 1) : unchL l = none := by
  match l, h with
  | [], _ => simp [unchL]
  | [c], _ => simp [unchL]
theorem drop_two {l : List UInt8} {k : Nat} (h : k + 1 < l.length) : l.drop k = l[k]'(by omega) :: l[k + 1]'h :: l.drop (k + 2) := by
  rw [List.drop_eq_getElem_cons (by omega : k < l.length), List.drop_eq_getElem_cons h]
theorem map_two (acc : List UInt8) (c : UInt8) (o : Option (List UInt8 × List UInt8)) : (o.map (fun p => (c :: p.1, p.2))).map (fun p => (acc ++ p.1, p.2)) = o.map (fun p => ((acc ++ [c]) ++ p.1, p.2)) := by
  cases o with
  | none => rfl
  | some p => simp
theorem u8_is {a : UInt8} {d : Nat} (hd : d < 256) (h : a = UInt8.ofNat d) : ((a.toNat : Int) == (d : Int)) = true ∧ (a.toNat : Int) = (d : Int) := by
  rw [h, u8_small hd]
  exact ⟨beq_self_eq_true _, rfl⟩
theorem u8_not {a : UInt8} {d : Nat} (hd : d < 256) (h : a ≠ UInt8.ofNat d) : ((a.toNat : Int) == (d : Int)) = false ∧ ¬ (a.toNat : Int) = (d : Int) := by
  have k : ¬ (a.toNat : Int) = (d : Int) := fun e => h (UInt8.toNat_inj.1 (by rw [u8_small hd]; omega))
  exact ⟨beq_false_of_ne k, k⟩
set_option maxHeartbeats 4000000 in
set_option maxRecDepth 100000 in
theorem unchD_any (w : World) (s : ByteArray) (hs : s.size ≤ 10000000) : Calls Tryd.prog 47 #[.string s] w fun e w' => (∃ (t : ByteArray) (n : Nat), e = .returned (.tuple #[.string t, .int .i64 (n : Int)]) ∧ UnchRes s.data.toList t n) ∧ w' = w := by
  have HN : Hid (unchL s.data.toList = none → UnchRes s.data.toList ⟨#[]⟩ 0) := hide fun h => .inl ⟨h, rfl, rfl⟩
  go_enter Tryd.func47, Tryd.ntmps47
  go_wp2
  go_loopw [4, 5] (fun y i wr => ∃ (k : Nat) (t : ByteArray), k ≤ s.size ∧ i = .int .i64 k ∧ y = .string t ∧ Hid (t.size ≤ k ∧ unchL s.data.toList = (unchL (s.data.toList.drop k)).map (fun p => (t.data.toList ++ p.1, p.2))) ∧ wr = w) (fun _ i _ => s.size - (intOf i).toNat)
  case atStart => exact ⟨0, ⟨#[]⟩, Nat.zero_le _, rfl, rfl, hide ⟨Nat.le_refl _, by rw [List.drop_zero]; generalize unchL s.data.toList = o; cases o <;> simp⟩, rfl⟩
  case round =>
    obtain ⟨k, t, hk, rfl, rfl, ht, hw⟩ := hrel
    subst hw
    obtain ⟨tl, tu⟩ := ht.out
    by_cases hlt : k + 1 < s.size
    · have i1 : (k : Int) + 1 < (s.size : Int) := by omega
      have hk0 : k < s.size := by omega
      have hl : k + 1 < s.data.toList.length := by rw [lenB]; exact hlt
      have hdr := drop_two hl
      have ea : s.data.toList[k]'(by omega) = s[k]'hk0 := rfl
      have eb : s.data.toList[k + 1]'hl = s[k + 1]'hlt := rfl
      rw [ea, eb] at hdr
      rw [hdr, unchL_two] at tu
      have ca := (s[k]'hk0).toNat_lt
      have cb := (s[k + 1]'hlt).toNat_lt
      by_cases hc : s[k]'hk0 = 0
      · rw [if_neg (fun h => h hc)] at tu
        obtain ⟨a1, a2⟩ := u8_is (d := 0) (by decide) hc
        simp only [Int.natCast_zero] at a1 a2
        by_cases h0 : s[k + 1]'hlt = 0
        · rw [if_pos h0] at tu
          obtain ⟨b1, b2⟩ := u8_is (d := 0) (by decide) h0
          simp only [Int.natCast_zero] at b1 b2
          have R : Hid (UnchRes s.data.toList t (k + 2)) := hide (.inr ⟨by omega, by omega, by
            rw [tu]
            simp⟩)
          clear ht tu hdr ea eb hc h0
          go_wp2
          refine bodyPost_ret (v := .tuple #[.string t, .int .i64 ((k : Int) + 2)]) (by simp [results, Tryd.f47, go_sem]) rfl ⟨⟨t, k + 2, by go_num, R.out⟩, rfl⟩
        · rw [if_neg h0] at tu
          obtain ⟨b1, b2⟩ := u8_not (d := 0) (by decide) h0
          simp only [Int.natCast_zero] at b1 b2
          by_cases h5 : s[k + 1]'hlt = 255
          · rw [if_neg (fun h => h h5), map_two] at tu
            obtain ⟨d1, d2⟩ := u8_is (d := 255) (by decide) h5
            have d1' : (((s[k + 1]'hlt).toNat : Int) == 255) = true := d1
            have d2' : ((s[k + 1]'hlt).toNat : Int) = 255 := d2
            have c1 := catV t ⟨#[0]⟩ (by have : (⟨#[0]⟩ : ByteArray).size = 1 := rfl; omega)
            have NX : Hid ((t ++ ⟨#[0]⟩).size ≤ k + 2 ∧ unchL s.data.toList = (unchL (s.data.toList.drop (k + 2))).map (fun p => ((t ++ ⟨#[0]⟩ : ByteArray).data.toList ++ p.1, p.2))) := hide (by
              refine ⟨by rw [ByteArray.size_append]; have : (⟨#[0]⟩ : ByteArray).size = 1 := rfl; omega, ?_⟩
              rw [tu, catL])
            clear ht tu hdr ea eb hc h0 h5 b1 d1 d2 a2 b2 d2'
            generalize t ++ ⟨#[0]⟩ = t1 at *
            go_wp2
            go_roundw
            case rel => exact ⟨k + 2, t1, by omega, by go_num, rfl, NX, by first | rfl | trivial⟩
            case measure => simp only [intOf]; omega
          · rw [if_pos h5] at tu
            obtain ⟨d1, d2⟩ := u8_not (d := 255) (by decide) h5
            have d1' : (((s[k + 1]'hlt).toNat : Int) == 255) = false := d1
            have d2' : ¬ ((s[k + 1]'hlt).toNat : Int) = 255 := d2
            have R := hide (HN.out (by rw [tu]; rfl))
            clear ht tu hdr ea eb hc h0 h5 d1 d2
            go_wp2
            refine bodyPost_ret (v := .tuple #[.string ⟨#[]⟩, .int .i64 0]) (by simp [results, Tryd.f47, go_sem]) rfl ⟨⟨⟨#[]⟩, 0, rfl, R.out⟩, rfl⟩
      · rw [if_pos hc, map_two] at tu
        obtain ⟨a1, a2⟩ := u8_not (d := 0) (by decide) hc
        simp only [Int.natCast_zero] at a1 a2
        have hl0 : k < s.data.toList.length := by omega
        have sl := sliceV s k (k + 1) (k : Int) ((k : Int) + 1) rfl (by omega) (by omega) (by omega)
        have hx : (s.extract k (k + 1)).data.toList = [s[k]'hk0] := by rw [extL, take_next hl0]; rfl
        have hxs : (s.extract k (k + 1)).size = 1 := by rw [← lenB, hx]; rfl
        have c1 := catV t (s.extract k (k + 1)) (by omega)
        have NX : Hid ((t ++ s.extract k (k + 1)).size ≤ k + 1 ∧ unchL s.data.toList = (unchL (s.data.toList.drop (k + 1))).map (fun p => ((t ++ s.extract k (k + 1) : ByteArray).data.toList ++ p.1, p.2))) := hide (by
          refine ⟨by rw [ByteArray.size_append, hxs]; omega, ?_⟩
          rw [tu, catL, hx, List.drop_eq_getElem_cons hl]
          rfl)
        clear ht tu hdr ea eb hc hx hxs
        generalize t ++ s.extract k (k + 1) = t1 at *
        go_wp2
        go_roundw
        case rel => exact ⟨k + 1, t1, by omega, by go_num, rfl, NX, by first | rfl | trivial⟩
        case measure => simp only [intOf]; omega
    · have i1 : ¬ (k : Int) + 1 < (s.size : Int) := by omega
      have R := hide (HN.out (by rw [tu, unchL_few (by rw [List.length_drop, lenB]; omega)]; rfl))
      clear ht tu
      go_wp2
      refine bodyPost_ret (v := .tuple #[.string ⟨#[]⟩, .int .i64 0]) (by simp [results, Tryd.f47, go_sem]) rfl ⟨⟨⟨#[]⟩, 0, rfl, R.out⟩, rfl⟩
end Go.Proofs.YtdpoiagnjdajbaaDoor.valus
/- The document's unpacked: what it answers. -/
set_option linter.unusedVariables false
namespace Go.Proofs.YtdpoiagnjdajbaaDoor.valus
open Go.RowKit Go.Shelf

/-- What unpacked answers. -/
abbrev UndPost (n : Nat) (w : World) (l : List UInt8) (e : Ending) (w' : World) : Prop :=
  ((uM n l = none ∧ e = .returned (.tuple #[.agg #[.int .i64 0, .int .i64 0, .int .u64 0, .string ⟨#[]⟩, .slice none 0 0, .slice none 0 0], .int .i64 0])) ∨ ∃ (y : V) (m : Nat) (k nn : Int) (b : Nat) (z : ByteArray) (pL : Option Addr) (nL cL : Nat) (pE : Option Addr) (nE cE : Nat), (1 ≤ m ∧ m ≤ l.length) ∧ uM n l = some (y, l.drop m) ∧ e = .returned (.tuple #[.agg #[.int .i64 k, .int .i64 nn, .int .u64 (b : Int), .string z, .slice pL nL cL, .slice pE nE cE], .int .i64 (m : Int)]) ∧ LiesV (fun b => w.heap.size ≤ b ∧ b < w'.heap.size) n w' [.int .i64 k, .int .i64 nn, .int .u64 (b : Int), .string z, .slice pL nL cL, .slice pE nE cE] y) ∧ Below w.heap.size w w'
def ReadU (n : Nat) (i : Int) : Prop := ∀ (w : World) (s : ByteArray), s.size ≤ 2000000 → Calls Tryd.prog 23 #[.string s, .int .i64 i] w (UndPost n w s.data.toList)
theorem results_und {w : World} {B : Nat} {u0 u1 u2 u3 u4 u5 : Value} {x : Int} (tmps : Array Value) (h : Blk w B #[u0, u1, u2, u3, u4, u5] 26) (ht : tmps[4]? = some (.pointer (some ⟨B, 0, none⟩)) := by rfl) (hx : tmps[5]? = some (.int .i64 x) := by rfl) : (results Tryd.f23 tmps).run Tryd.prog w = .ok (.tuple #[.agg #[u0, u1, u2, u3, u4, u5], .int .i64 x]) w := by
  obtain ⟨c0, c1, c2, c3, c4, c5⟩ := h.cells6
  simp [results, Tryd.f23, ht, hx, go_sem, c0, c1, c2, c3, c4, c5]
theorem und_fin {w X : World} {n m : Nat} {l : List UInt8} {y : V} {k nn : Int} {b : Nat} {z : ByteArray} {pL : Option Addr} {nL cL : Nat} {pE : Option Addr} {nE cE : Nat}
    (hl : LiesV (fun q => w.heap.size + 2 ≤ q ∧ q < X.heap.size) n X [.int .i64 k, .int .i64 nn, .int .u64 (b : Int), .string z, .slice pL nL cL, .slice pE nE cE] y) (hb : Below w.heap.size w X) (hm : 1 ≤ m ∧ m ≤ l.length) (hu : uM n l = some (y, l.drop m)) (mi : Int) (hmi : mi = (m : Int)) :
    UndPost n w l (.returned (.tuple #[.agg #[.int .i64 k, .int .i64 nn, .int .u64 (b : Int), .string z, .slice pL nL cL, .slice pE nE cE], .int .i64 mi])) (put6 X w.heap.size (.int .i64 k) (.int .i64 nn) (.int .u64 (b : Int)) (.string z) (.slice pL nL cL) (.slice pE nE cE)) := by
  have hs := put6_size X w.heap.size (.int .i64 k) (.int .i64 nn) (.int .u64 (b : Int)) (.string z) (.slice pL nL cL) (.slice pE nE cE)
  have hq := fun q hq => put6_other' X w.heap.size q hq (.int .i64 k) (.int .i64 nn) (.int .u64 (b : Int)) (.string z) (.slice pL nL cL) (.slice pE nE cE)
  refine ⟨.inr ⟨y, m, k, nn, b, z, pL, nL, cL, pE, nE, cE, hm, hu, by rw [hmi], ?_⟩, below_put6 hb (Nat.le_refl _) _ _ _ _ _ _⟩
  exact hl.kept (fun q hq => ⟨by omega, by rw [hs]; exact hq.2⟩) (Nat.le_of_eq hs.symm) (fun q hq' _ => hq q (by omega))
theorem und_none {w X : World} {n : Nat} {l : List UInt8} (hb : Below w.heap.size w X) (hu : uM n l = none) :
    UndPost n w l (.returned (.tuple #[.agg #[.int .i64 0, .int .i64 0, .int .u64 0, .string ⟨#[]⟩, .slice none 0 0, .slice none 0 0], .int .i64 0])) (put6 X w.heap.size (.int .i64 0) (.int .i64 0) (.int .u64 0) (.string ⟨#[]⟩) (.slice none 0 0) (.slice none 0 0)) := ⟨.inl ⟨hu, rfl⟩, below_put6 hb (Nat.le_refl _) _ _ _ _ _ _⟩
/-- The three blocks that stand behind the beginning. -/
abbrev begD (w : World) : World := (w.alloc (.cells #[.int .i64 0, .int .i64 0, .int .u64 0, .string ⟨#[]⟩, .slice none 0 0, .slice none 0 0] 26)).alloc (.cells #[.int .i64 0, .int .i64 0, .int .u64 0, .string ⟨#[]⟩, .slice none 0 0, .slice none 0 0] 26)
theorem begD_below (w : World) : Below w.heap.size w (begD w) := ((Below.refl _ w).alloc (Nat.le_refl _) _).alloc (by simp) _
theorem begD_res (w : World) : Blk (begD w) w.heap.size #[.int .i64 0, .int .i64 0, .int .u64 0, .string ⟨#[]⟩, .slice none 0 0, .slice none 0 0] 26 := (blk_alloc w _ _).alloc _
theorem begD_none (w : World) : Blk (begD w) (w.heap.size + 1) #[.int .i64 0, .int .i64 0, .int .u64 0, .string ⟨#[]⟩, .slice none 0 0, .slice none 0 0] 26 := by
  have h := blk_alloc (w.alloc (.cells #[.int .i64 0, .int .i64 0, .int .u64 0, .string ⟨#[]⟩, .slice none 0 0, .slice none 0 0] 26)) #[.int .i64 0, .int .i64 0, .int .u64 0, .string ⟨#[]⟩, .slice none 0 0, .slice none 0 0] 26
  rwa [World.size_alloc] at h
theorem begD_size (w : World) : (begD w).heap.size = w.heap.size + 2 := by simp
theorem uM_cons {n : Nat} {c : UInt8} {l : List UInt8} (h : 0 < l.length) (hc : l[0]'h = c) : uM (n + 1) l = uB (uM n) c (l.drop 1) := by
  cases l with
  | nil => cases h
  | cons d r =>
    obtain rfl : d = c := hc
    rfl
theorem uB_3 (rd : List UInt8 → Option (V × List UInt8)) (r : List UInt8) : uB rd 3 r = if r.length < 8 then none else some (leaf (2, (num8 r : Int) - 9223372036854775808, 0, []), r.drop 8) := rfl
theorem uB_4 (rd : List UInt8 → Option (V × List UInt8)) (r : List UInt8) : uB rd 4 r = if r.length < 8 then none else some (leaf (3, 0, turnB (num8 r), []), r.drop 8) := rfl
theorem uB_5 (rd : List UInt8 → Option (V × List UInt8)) (r : List UInt8) : uB rd 5 r = (unchL r).map (fun p => (leaf (4, 0, 0, p.1), p.2)) := rfl
theorem uB_6 (rd : List UInt8 → Option (V × List UInt8)) (r : List UInt8) : uB rd 6 r = (upL rd (r.length + 1) [] r).map (fun p => (mkV (5, 0, 0, []) p.1 [], p.2)) := rfl
theorem uB_7 (rd : List UInt8 → Option (V × List UInt8)) (r : List UInt8) : uB rd 7 r = (upL (uE rd) (r.length + 1) [] r).map (fun p => (mkV (6, 0, 0, []) [] p.1, p.2)) := rfl
theorem uB_no (rd : List UInt8 → Option (V × List UInt8)) (r : List UInt8) {c : UInt8} (hc : ¬ (1 ≤ c.toNat ∧ c.toNat ≤ 7)) : uB rd c r = none := by
  have h1 : c ≠ 1 := fun e => hc (by rw [e]; decide)
  have h2 : c ≠ 2 := fun e => hc (by rw [e]; decide)
  have h3 : c ≠ 3 := fun e => hc (by rw [e]; decide)
  have h4 : c ≠ 4 := fun e => hc (by rw [e]; decide)
  have h5 : c ≠ 5 := fun e => hc (by rw [e]; decide)
  have h6 : c ≠ 6 := fun e => hc (by rw [e]; decide)
  have h7 : c ≠ 7 := fun e => hc (by rw [e]; decide)
  unfold uB
  rw [if_neg h1, if_neg h2, if_neg h3, if_neg h4, if_neg h5, if_neg h6, if_neg h7]
theorem unch_len : ∀ {l t r : List UInt8}, unchL l = some (t, r) → t.length ≤ l.length
  | [], t, r, h => by simp [unchL] at h
  | [c], t, r, h => by simp [unchL] at h
  | c :: d :: q, t, r, h => by
    rw [unchL_two] at h
    split at h
    · cases hu : unchL (d :: q) with
      | none => rw [hu] at h; cases h
      | some p =>
        rw [hu] at h
        obtain ⟨a, b⟩ := p
        simp only [Option.map_some, Option.some.injEq, Prod.mk.injEq] at h
        obtain ⟨rfl, rfl⟩ := h
        have := unch_len hu
        simp only [List.length_cons] at this ⊢
        omega
    · split at h
      · simp only [Option.some.injEq, Prod.mk.injEq] at h
        obtain ⟨rfl, rfl⟩ := h
        simp
      · split at h
        · cases h
        · cases hu : unchL q with
          | none => rw [hu] at h; cases h
          | some p =>
            rw [hu] at h
            obtain ⟨a, b⟩ := p
            simp only [Option.map_some, Option.some.injEq, Prod.mk.injEq] at h
            obtain ⟨rfl, rfl⟩ := h
            have := unch_len hu
            simp only [List.length_cons] at this ⊢
            omega
theorem slice_tail (s : ByteArray) (a : Nat) (x : Int) (hx : x = (a : Int)) (h : a ≤ s.size) (W : World) : (Instr.slice 9 (.string s) (some (.int .i64 x)) none none).run Tryd.prog W = .ok (.string (s.extract a s.size)) W := by
  subst hx
  simp [Instr.slice, run_underlying Tryd.underlying9, go_sem]
  intro hlt
  omega
theorem notEmpty {s : ByteArray} (h : 0 < s.size) : s.toList.isEmpty = false ∧ (s.toList == []) = false := by
  have : s.toList ≠ [] := fun e => by
    have h2 : s.toList.length = s.size := by rw [Lib.toList_data]; simp
    rw [e] at h2
    simp at h2
    omega
  cases hl : s.toList with
  | nil => exact absurd hl this
  | cons c r => exact ⟨rfl, rfl⟩
end Go.Proofs.YtdpoiagnjdajbaaDoor.valus
/- The document's unpacked. -/
set_option linter.unusedVariables false
namespace Go.Proofs.YtdpoiagnjdajbaaDoor.valus
open Go.RowKit Go.Shelf
set_option maxHeartbeats 8000000 in
set_option maxRecDepth 100000 in
theorem und_empty (w : World) (s : ByteArray) (hs : s.size ≤ 2000000) (n i : Nat) (hi : i ≤ 1000) (h0 : s.size = 0) :
    Calls Tryd.prog 23 #[.string s, .int .i64 (i : Int)] w (UndPost (n + 1) w s.data.toList) := by
  have bP : Below w.heap.size w ((w.alloc (.cells #[.int .i64 0, .int .i64 0, .int .u64 0, .string ⟨#[]⟩, .slice none 0 0, .slice none 0 0] 26)).alloc (.cells #[.int .i64 0, .int .i64 0, .int .u64 0, .string ⟨#[]⟩, .slice none 0 0, .slice none 0 0] 26)) := begD_below w
  have hrb : Blk ((w.alloc (.cells #[.int .i64 0, .int .i64 0, .int .u64 0, .string ⟨#[]⟩, .slice none 0 0, .slice none 0 0] 26)).alloc (.cells #[.int .i64 0, .int .i64 0, .int .u64 0, .string ⟨#[]⟩, .slice none 0 0, .slice none 0 0] 26)) w.heap.size _ _ := begD_res w
  have hnn : Blk ((w.alloc (.cells #[.int .i64 0, .int .i64 0, .int .u64 0, .string ⟨#[]⟩, .slice none 0 0, .slice none 0 0] 26)).alloc (.cells #[.int .i64 0, .int .i64 0, .int .u64 0, .string ⟨#[]⟩, .slice none 0 0, .slice none 0 0] 26)) (w.heap.size + 1) _ _ := begD_none w
  have hu : uM (n + 1) s.data.toList = none := by
    have e : s.data.toList = [] := List.eq_nil_of_length_eq_zero (by rw [lenB]; exact h0)
    rw [e]
    rfl
  have e1 : s.toList.isEmpty = true := by
    have h2 : s.toList.length = s.size := by rw [Lib.toList_data]; simp
    rw [h0] at h2
    rw [List.eq_nil_of_length_eq_zero h2]
    rfl
  go_enter Tryd.func23, Tryd.ntmps23
  go_upto_region 3 with fail
  generalize (w.alloc (.cells #[.int .i64 0, .int .i64 0, .int .u64 0, .string ⟨#[]⟩, .slice none 0 0, .slice none 0 0] 26)).alloc (.cells #[.int .i64 0, .int .i64 0, .int .u64 0, .string ⟨#[]⟩, .slice none 0 0, .slice none 0 0] 26) = P at *
  have hY := put6_blk hrb (.int .i64 0) (.int .i64 0) (.int .u64 0) (.string ⟨#[]⟩) (.slice none 0 0) (.slice none 0 0)
  have HY := hide hY
  have HF := hide (und_none (l := s.data.toList) bP hu)
  have x0 := hrb.cell 0 _ rfl
  have x1 := hrb.cell 1 _ rfl
  have x2 := hrb.cell 2 _ rfl
  have x3 := hrb.cell 3 _ rfl
  have x4 := hrb.cell 4 _ rfl
  have x5 := hrb.cell 5 _ rfl
  have z0 := Blk.froz hrb 0
  have z1 := Blk.froz hrb 1
  have z2 := Blk.froz hrb 2
  have z3 := Blk.froz hrb 3
  have z4 := Blk.froz hrb 4
  have z5 := Blk.froz hrb 5
  have q0 := hnn.cell 0 _ rfl
  have q1 := hnn.cell 1 _ rfl
  have q2 := hnn.cell 2 _ rfl
  have q3 := hnn.cell 3 _ rfl
  have q4 := hnn.cell 4 _ rfl
  have q5 := hnn.cell 5 _ rfl
  clear hY
  go_wp2
  have hY := HY.out
  have hF := HF.out
  clear HY HF x0 x1 x2 x3 x4 x5 z0 z1 z2 z3 z4 z5 q0 q1 q2 q3 q4 q5
  generalize hXX : put6 P w.heap.size (.int .i64 0) (.int .i64 0) (.int .u64 0) (.string ⟨#[]⟩) (.slice none 0 0) (.slice none 0 0) = Y at hY hF
  simp only [put6] at hXX
  rw [hXX]
  clear hXX
  exact bodyPost_ret (results_und _ hY) rfl hF
set_option maxHeartbeats 8000000 in
set_option maxRecDepth 100000 in
theorem und_kind (w : World) (s : ByteArray) (hs : s.size ≤ 2000000) (n i : Nat) (hi : i ≤ 1000) (h0 : 0 < s.size) (hc : ¬ (1 ≤ (s[0]'h0).toNat ∧ (s[0]'h0).toNat ≤ 7)) :
    Calls Tryd.prog 23 #[.string s, .int .i64 (i : Int)] w (UndPost (n + 1) w s.data.toList) := by
  have bP : Below w.heap.size w ((w.alloc (.cells #[.int .i64 0, .int .i64 0, .int .u64 0, .string ⟨#[]⟩, .slice none 0 0, .slice none 0 0] 26)).alloc (.cells #[.int .i64 0, .int .i64 0, .int .u64 0, .string ⟨#[]⟩, .slice none 0 0, .slice none 0 0] 26)) := begD_below w
  have hrb : Blk ((w.alloc (.cells #[.int .i64 0, .int .i64 0, .int .u64 0, .string ⟨#[]⟩, .slice none 0 0, .slice none 0 0] 26)).alloc (.cells #[.int .i64 0, .int .i64 0, .int .u64 0, .string ⟨#[]⟩, .slice none 0 0, .slice none 0 0] 26)) w.heap.size _ _ := begD_res w
  have hnn : Blk ((w.alloc (.cells #[.int .i64 0, .int .i64 0, .int .u64 0, .string ⟨#[]⟩, .slice none 0 0, .slice none 0 0] 26)).alloc (.cells #[.int .i64 0, .int .i64 0, .int .u64 0, .string ⟨#[]⟩, .slice none 0 0, .slice none 0 0] 26)) (w.heap.size + 1) _ _ := begD_none w
  have hu : uM (n + 1) s.data.toList = none := (uM_cons (by rw [lenB]; exact h0) rfl).trans (uB_no _ _ hc)
  obtain ⟨e1, e2⟩ := notEmpty h0
  have hi' : ¬ (i : Int) > 1000 := by omega
  have cb := (s[0]'h0).toNat_lt
  rcases Nat.lt_or_ge (s[0]'h0).toNat 1 with g1 | g1
  · have g2 : ((s[0]'h0).toNat : Int) < 1 := by omega
    clear hc g1
    go_enter Tryd.func23, Tryd.ntmps23
    go_upto_region 3 with fail
    generalize (w.alloc (.cells #[.int .i64 0, .int .i64 0, .int .u64 0, .string ⟨#[]⟩, .slice none 0 0, .slice none 0 0] 26)).alloc (.cells #[.int .i64 0, .int .i64 0, .int .u64 0, .string ⟨#[]⟩, .slice none 0 0, .slice none 0 0] 26) = P at *
    have hY := put6_blk hrb (.int .i64 0) (.int .i64 0) (.int .u64 0) (.string ⟨#[]⟩) (.slice none 0 0) (.slice none 0 0)
    have HY := hide hY
    have HF := hide (und_none (l := s.data.toList) bP hu)
    have x0 := hrb.cell 0 _ rfl
    have x1 := hrb.cell 1 _ rfl
    have x2 := hrb.cell 2 _ rfl
    have x3 := hrb.cell 3 _ rfl
    have x4 := hrb.cell 4 _ rfl
    have x5 := hrb.cell 5 _ rfl
    have z0 := Blk.froz hrb 0
    have z1 := Blk.froz hrb 1
    have z2 := Blk.froz hrb 2
    have z3 := Blk.froz hrb 3
    have z4 := Blk.froz hrb 4
    have z5 := Blk.froz hrb 5
    have q0 := hnn.cell 0 _ rfl
    have q1 := hnn.cell 1 _ rfl
    have q2 := hnn.cell 2 _ rfl
    have q3 := hnn.cell 3 _ rfl
    have q4 := hnn.cell 4 _ rfl
    have q5 := hnn.cell 5 _ rfl
    clear hY
    go_wp2
    have hY := HY.out
    have hF := HF.out
    clear HY HF x0 x1 x2 x3 x4 x5 z0 z1 z2 z3 z4 z5 q0 q1 q2 q3 q4 q5
    generalize hXX : put6 P w.heap.size (.int .i64 0) (.int .i64 0) (.int .u64 0) (.string ⟨#[]⟩) (.slice none 0 0) (.slice none 0 0) = Y at hY hF
    simp only [put6] at hXX
    rw [hXX]
    clear hXX
    exact bodyPost_ret (results_und _ hY) rfl hF
  · have g2 : ¬ ((s[0]'h0).toNat : Int) < 1 := by omega
    have g3 : ((s[0]'h0).toNat : Int) > 7 := by omega
    clear hc g1
    go_enter Tryd.func23, Tryd.ntmps23
    go_upto_region 3 with fail
    generalize (w.alloc (.cells #[.int .i64 0, .int .i64 0, .int .u64 0, .string ⟨#[]⟩, .slice none 0 0, .slice none 0 0] 26)).alloc (.cells #[.int .i64 0, .int .i64 0, .int .u64 0, .string ⟨#[]⟩, .slice none 0 0, .slice none 0 0] 26) = P at *
    have hY := put6_blk hrb (.int .i64 0) (.int .i64 0) (.int .u64 0) (.string ⟨#[]⟩) (.slice none 0 0) (.slice none 0 0)
    have HY := hide hY
    have HF := hide (und_none (l := s.data.toList) bP hu)
    have x0 := hrb.cell 0 _ rfl
    have x1 := hrb.cell 1 _ rfl
    have x2 := hrb.cell 2 _ rfl
    have x3 := hrb.cell 3 _ rfl
    have x4 := hrb.cell 4 _ rfl
    have x5 := hrb.cell 5 _ rfl
    have z0 := Blk.froz hrb 0
    have z1 := Blk.froz hrb 1
    have z2 := Blk.froz hrb 2
    have z3 := Blk.froz hrb 3
    have z4 := Blk.froz hrb 4
    have z5 := Blk.froz hrb 5
    have q0 := hnn.cell 0 _ rfl
    have q1 := hnn.cell 1 _ rfl
    have q2 := hnn.cell 2 _ rfl
    have q3 := hnn.cell 3 _ rfl
    have q4 := hnn.cell 4 _ rfl
    have q5 := hnn.cell 5 _ rfl
    clear hY
    go_wp2
    have hY := HY.out
    have hF := HF.out
    clear HY HF x0 x1 x2 x3 x4 x5 z0 z1 z2 z3 z4 z5 q0 q1 q2 q3 q4 q5
    generalize hXX : put6 P w.heap.size (.int .i64 0) (.int .i64 0) (.int .u64 0) (.string ⟨#[]⟩) (.slice none 0 0) (.slice none 0 0) = Y at hY hF
    simp only [put6] at hXX
    rw [hXX]
    clear hXX
    exact bodyPost_ret (results_und _ hY) rfl hF
end Go.Proofs.YtdpoiagnjdajbaaDoor.valus
/- The document's unpacked. -/
set_option linter.unusedVariables false
namespace Go.Proofs.YtdpoiagnjdajbaaDoor.valus
open Go.RowKit Go.Shelf
set_option maxHeartbeats 8000000 in
set_option maxRecDepth 100000 in
theorem und1 (w : World) (s : ByteArray) (hs : s.size ≤ 2000000) (n i : Nat) (hi : i ≤ 1000) (h0 : 0 < s.size) (hc : s[0]'h0 = 1) :
    Calls Tryd.prog 23 #[.string s, .int .i64 (i : Int)] w (UndPost (n + 1) w s.data.toList) := by
  obtain ⟨e1, e2⟩ := notEmpty h0
  have hi' : ¬ (i : Int) > 1000 := by omega
  have hcI : ((s[0]'h0).toNat : Int) = 1 := by rw [hc]; rfl
  have hu0 : uM (n + 1) s.data.toList = uB (uM n) 1 (s.data.toList.drop 1) := uM_cons (by rw [lenB]; exact h0) hc
  have hlr : (s.data.toList.drop 1).length + 1 = s.size := by rw [List.length_drop, lenB]; omega
  have b0 : Below w.heap.size w ((w.alloc (.cells #[.int .i64 0, .int .i64 0, .int .u64 0, .string ⟨#[]⟩, .slice none 0 0, .slice none 0 0] 26)).alloc (.cells #[.int .i64 0, .int .i64 0, .int .u64 0, .string ⟨#[]⟩, .slice none 0 0, .slice none 0 0] 26)) := begD_below w
  have bD : Below (w.heap.size + 2) ((w.alloc (.cells #[.int .i64 0, .int .i64 0, .int .u64 0, .string ⟨#[]⟩, .slice none 0 0, .slice none 0 0] 26)).alloc (.cells #[.int .i64 0, .int .i64 0, .int .u64 0, .string ⟨#[]⟩, .slice none 0 0, .slice none 0 0] 26)) (((w.alloc (.cells #[.int .i64 0, .int .i64 0, .int .u64 0, .string ⟨#[]⟩, .slice none 0 0, .slice none 0 0] 26)).alloc (.cells #[.int .i64 0, .int .i64 0, .int .u64 0, .string ⟨#[]⟩, .slice none 0 0, .slice none 0 0] 26)).alloc (.cells #[.int .i64 0, .int .i64 0, .int .u64 0, .string ⟨#[]⟩, .slice none 0 0, .slice none 0 0] 26)) := (Below.refl _ _).alloc (by simp) _
  have hD : Blk (((w.alloc (.cells #[.int .i64 0, .int .i64 0, .int .u64 0, .string ⟨#[]⟩, .slice none 0 0, .slice none 0 0] 26)).alloc (.cells #[.int .i64 0, .int .i64 0, .int .u64 0, .string ⟨#[]⟩, .slice none 0 0, .slice none 0 0] 26)).alloc (.cells #[.int .i64 0, .int .i64 0, .int .u64 0, .string ⟨#[]⟩, .slice none 0 0, .slice none 0 0] 26)) (w.heap.size + 2) #[.int .i64 0, .int .i64 0, .int .u64 0, .string ⟨#[]⟩, .slice none 0 0, .slice none 0 0] 26 := by
    have h := blk_alloc ((w.alloc (.cells #[.int .i64 0, .int .i64 0, .int .u64 0, .string ⟨#[]⟩, .slice none 0 0, .slice none 0 0] 26)).alloc (.cells #[.int .i64 0, .int .i64 0, .int .u64 0, .string ⟨#[]⟩, .slice none 0 0, .slice none 0 0] 26)) #[.int .i64 0, .int .i64 0, .int .u64 0, .string ⟨#[]⟩, .slice none 0 0, .slice none 0 0] 26
    rwa [World.size_alloc, World.size_alloc] at h
  have hrb : Blk (((w.alloc (.cells #[.int .i64 0, .int .i64 0, .int .u64 0, .string ⟨#[]⟩, .slice none 0 0, .slice none 0 0] 26)).alloc (.cells #[.int .i64 0, .int .i64 0, .int .u64 0, .string ⟨#[]⟩, .slice none 0 0, .slice none 0 0] 26)).alloc (.cells #[.int .i64 0, .int .i64 0, .int .u64 0, .string ⟨#[]⟩, .slice none 0 0, .slice none 0 0] 26)) w.heap.size #[.int .i64 0, .int .i64 0, .int .u64 0, .string ⟨#[]⟩, .slice none 0 0, .slice none 0 0] 26 := (bD.block _ (by omega)).trans (begD_res w)
  have hnn : Blk (((w.alloc (.cells #[.int .i64 0, .int .i64 0, .int .u64 0, .string ⟨#[]⟩, .slice none 0 0, .slice none 0 0] 26)).alloc (.cells #[.int .i64 0, .int .i64 0, .int .u64 0, .string ⟨#[]⟩, .slice none 0 0, .slice none 0 0] 26)).alloc (.cells #[.int .i64 0, .int .i64 0, .int .u64 0, .string ⟨#[]⟩, .slice none 0 0, .slice none 0 0] 26)) (w.heap.size + 1) #[.int .i64 0, .int .i64 0, .int .u64 0, .string ⟨#[]⟩, .slice none 0 0, .slice none 0 0] 26 := (bD.block _ (by omega)).trans (begD_none w)
  have bP : Below w.heap.size w (((w.alloc (.cells #[.int .i64 0, .int .i64 0, .int .u64 0, .string ⟨#[]⟩, .slice none 0 0, .slice none 0 0] 26)).alloc (.cells #[.int .i64 0, .int .i64 0, .int .u64 0, .string ⟨#[]⟩, .slice none 0 0, .slice none 0 0] 26)).alloc (.cells #[.int .i64 0, .int .i64 0, .int .u64 0, .string ⟨#[]⟩, .slice none 0 0, .slice none 0 0] 26)) := b0.trans (bD.mono (by omega))
  have sP : (((w.alloc (.cells #[.int .i64 0, .int .i64 0, .int .u64 0, .string ⟨#[]⟩, .slice none 0 0, .slice none 0 0] 26)).alloc (.cells #[.int .i64 0, .int .i64 0, .int .u64 0, .string ⟨#[]⟩, .slice none 0 0, .slice none 0 0] 26)).alloc (.cells #[.int .i64 0, .int .i64 0, .int .u64 0, .string ⟨#[]⟩, .slice none 0 0, .slice none 0 0] 26)).heap.size = w.heap.size + 3 := by simp
  clear b0 bD
  go_enter Tryd.func23, Tryd.ntmps23
  go_upto_region 5 with fail
  generalize ((w.alloc (.cells #[.int .i64 0, .int .i64 0, .int .u64 0, .string ⟨#[]⟩, .slice none 0 0, .slice none 0 0] 26)).alloc (.cells #[.int .i64 0, .int .i64 0, .int .u64 0, .string ⟨#[]⟩, .slice none 0 0, .slice none 0 0] 26)).alloc (.cells #[.int .i64 0, .int .i64 0, .int .u64 0, .string ⟨#[]⟩, .slice none 0 0, .slice none 0 0] 26) = P at *
  have k0 := hD.cell 0 _ rfl
  simp only [List.getElem_toArray, List.getElem_cons_zero] at k0
  have hu : uM (n + 1) s.data.toList = some (leaf (0, 0, 0, []), s.data.toList.drop 1) := hu0
  clear hu0
  go_upto_region 7 with fail
  have hY := put6_blk hrb (.int .i64 0) (.int .i64 0) (.int .u64 0) (.string ⟨#[]⟩) (.slice none 0 0) (.slice none 0 0)
  have HY := hide hY
  have HF := hide (und_fin (l := s.data.toList) (m := 1) (b := 0) (vlies_leaf _ _ P 0 0 0 ⟨#[]⟩ (by decide) (by decide) (by decide) (Nat.zero_le _)) bP ⟨by omega, by rw [lenB]; omega⟩ hu 1 rfl)
  have x0 := hrb.cell 0 _ rfl
  have x1 := hrb.cell 1 _ rfl
  have x2 := hrb.cell 2 _ rfl
  have x3 := hrb.cell 3 _ rfl
  have x4 := hrb.cell 4 _ rfl
  have x5 := hrb.cell 5 _ rfl
  have z0 := Blk.froz hrb 0
  have z1 := Blk.froz hrb 1
  have z2 := Blk.froz hrb 2
  have z3 := Blk.froz hrb 3
  have z4 := Blk.froz hrb 4
  have z5 := Blk.froz hrb 5
  have q0 := hD.cell 0 _ rfl
  have q1 := hD.cell 1 _ rfl
  have q2 := hD.cell 2 _ rfl
  have q3 := hD.cell 3 _ rfl
  have q4 := hD.cell 4 _ rfl
  have q5 := hD.cell 5 _ rfl
  clear hY
  go_wp2
  have hY := HY.out
  have hF := HF.out
  clear HY HF x0 x1 x2 x3 x4 x5 z0 z1 z2 z3 z4 z5 q0 q1 q2 q3 q4 q5
  generalize hXX : put6 P w.heap.size (.int .i64 0) (.int .i64 0) (.int .u64 0) (.string ⟨#[]⟩) (.slice none 0 0) (.slice none 0 0) = Y at hY hF
  simp only [put6] at hXX
  rw [hXX]
  clear hXX
  exact bodyPost_ret (results_und _ hY) rfl hF
set_option maxHeartbeats 8000000 in
set_option maxRecDepth 100000 in
theorem und2 (w : World) (s : ByteArray) (hs : s.size ≤ 2000000) (n i : Nat) (hi : i ≤ 1000) (h0 : 0 < s.size) (hc : s[0]'h0 = 2) :
    Calls Tryd.prog 23 #[.string s, .int .i64 (i : Int)] w (UndPost (n + 1) w s.data.toList) := by
  obtain ⟨e1, e2⟩ := notEmpty h0
  have hi' : ¬ (i : Int) > 1000 := by omega
  have hcI : ((s[0]'h0).toNat : Int) = 2 := by rw [hc]; rfl
  have hu0 : uM (n + 1) s.data.toList = uB (uM n) 2 (s.data.toList.drop 1) := uM_cons (by rw [lenB]; exact h0) hc
  have hlr : (s.data.toList.drop 1).length + 1 = s.size := by rw [List.length_drop, lenB]; omega
  have b0 : Below w.heap.size w ((w.alloc (.cells #[.int .i64 0, .int .i64 0, .int .u64 0, .string ⟨#[]⟩, .slice none 0 0, .slice none 0 0] 26)).alloc (.cells #[.int .i64 0, .int .i64 0, .int .u64 0, .string ⟨#[]⟩, .slice none 0 0, .slice none 0 0] 26)) := begD_below w
  have bD : Below (w.heap.size + 2) ((w.alloc (.cells #[.int .i64 0, .int .i64 0, .int .u64 0, .string ⟨#[]⟩, .slice none 0 0, .slice none 0 0] 26)).alloc (.cells #[.int .i64 0, .int .i64 0, .int .u64 0, .string ⟨#[]⟩, .slice none 0 0, .slice none 0 0] 26)) (((w.alloc (.cells #[.int .i64 0, .int .i64 0, .int .u64 0, .string ⟨#[]⟩, .slice none 0 0, .slice none 0 0] 26)).alloc (.cells #[.int .i64 0, .int .i64 0, .int .u64 0, .string ⟨#[]⟩, .slice none 0 0, .slice none 0 0] 26)).alloc (.cells #[.int .i64 1, .int .i64 0, .int .u64 0, .string ⟨#[]⟩, .slice none 0 0, .slice none 0 0] 26)) := (Below.refl _ _).alloc (by simp) _
  have hD : Blk (((w.alloc (.cells #[.int .i64 0, .int .i64 0, .int .u64 0, .string ⟨#[]⟩, .slice none 0 0, .slice none 0 0] 26)).alloc (.cells #[.int .i64 0, .int .i64 0, .int .u64 0, .string ⟨#[]⟩, .slice none 0 0, .slice none 0 0] 26)).alloc (.cells #[.int .i64 1, .int .i64 0, .int .u64 0, .string ⟨#[]⟩, .slice none 0 0, .slice none 0 0] 26)) (w.heap.size + 2) #[.int .i64 1, .int .i64 0, .int .u64 0, .string ⟨#[]⟩, .slice none 0 0, .slice none 0 0] 26 := by
    have h := blk_alloc ((w.alloc (.cells #[.int .i64 0, .int .i64 0, .int .u64 0, .string ⟨#[]⟩, .slice none 0 0, .slice none 0 0] 26)).alloc (.cells #[.int .i64 0, .int .i64 0, .int .u64 0, .string ⟨#[]⟩, .slice none 0 0, .slice none 0 0] 26)) #[.int .i64 1, .int .i64 0, .int .u64 0, .string ⟨#[]⟩, .slice none 0 0, .slice none 0 0] 26
    rwa [World.size_alloc, World.size_alloc] at h
  have hrb : Blk (((w.alloc (.cells #[.int .i64 0, .int .i64 0, .int .u64 0, .string ⟨#[]⟩, .slice none 0 0, .slice none 0 0] 26)).alloc (.cells #[.int .i64 0, .int .i64 0, .int .u64 0, .string ⟨#[]⟩, .slice none 0 0, .slice none 0 0] 26)).alloc (.cells #[.int .i64 1, .int .i64 0, .int .u64 0, .string ⟨#[]⟩, .slice none 0 0, .slice none 0 0] 26)) w.heap.size #[.int .i64 0, .int .i64 0, .int .u64 0, .string ⟨#[]⟩, .slice none 0 0, .slice none 0 0] 26 := (bD.block _ (by omega)).trans (begD_res w)
  have hnn : Blk (((w.alloc (.cells #[.int .i64 0, .int .i64 0, .int .u64 0, .string ⟨#[]⟩, .slice none 0 0, .slice none 0 0] 26)).alloc (.cells #[.int .i64 0, .int .i64 0, .int .u64 0, .string ⟨#[]⟩, .slice none 0 0, .slice none 0 0] 26)).alloc (.cells #[.int .i64 1, .int .i64 0, .int .u64 0, .string ⟨#[]⟩, .slice none 0 0, .slice none 0 0] 26)) (w.heap.size + 1) #[.int .i64 0, .int .i64 0, .int .u64 0, .string ⟨#[]⟩, .slice none 0 0, .slice none 0 0] 26 := (bD.block _ (by omega)).trans (begD_none w)
  have bP : Below w.heap.size w (((w.alloc (.cells #[.int .i64 0, .int .i64 0, .int .u64 0, .string ⟨#[]⟩, .slice none 0 0, .slice none 0 0] 26)).alloc (.cells #[.int .i64 0, .int .i64 0, .int .u64 0, .string ⟨#[]⟩, .slice none 0 0, .slice none 0 0] 26)).alloc (.cells #[.int .i64 1, .int .i64 0, .int .u64 0, .string ⟨#[]⟩, .slice none 0 0, .slice none 0 0] 26)) := b0.trans (bD.mono (by omega))
  have sP : (((w.alloc (.cells #[.int .i64 0, .int .i64 0, .int .u64 0, .string ⟨#[]⟩, .slice none 0 0, .slice none 0 0] 26)).alloc (.cells #[.int .i64 0, .int .i64 0, .int .u64 0, .string ⟨#[]⟩, .slice none 0 0, .slice none 0 0] 26)).alloc (.cells #[.int .i64 1, .int .i64 0, .int .u64 0, .string ⟨#[]⟩, .slice none 0 0, .slice none 0 0] 26)).heap.size = w.heap.size + 3 := by simp
  clear b0 bD
  go_enter Tryd.func23, Tryd.ntmps23
  go_upto_region 5 with fail
  generalize ((w.alloc (.cells #[.int .i64 0, .int .i64 0, .int .u64 0, .string ⟨#[]⟩, .slice none 0 0, .slice none 0 0] 26)).alloc (.cells #[.int .i64 0, .int .i64 0, .int .u64 0, .string ⟨#[]⟩, .slice none 0 0, .slice none 0 0] 26)).alloc (.cells #[.int .i64 1, .int .i64 0, .int .u64 0, .string ⟨#[]⟩, .slice none 0 0, .slice none 0 0] 26) = P at *
  have k0 := hD.cell 0 _ rfl
  simp only [List.getElem_toArray, List.getElem_cons_zero] at k0
  by_cases h2 : s.size < 2
  · have g2 : (s.size : Int) < 2 := by omega
    have hu : uM (n + 1) s.data.toList = none := by
      rw [hu0]
      have e : s.data.toList.drop 1 = [] := List.eq_nil_of_length_eq_zero (by omega)
      rw [e]
      rfl
    clear hu0 h2
    go_upto_region 10 with fail
    have hY := put6_blk hrb (.int .i64 0) (.int .i64 0) (.int .u64 0) (.string ⟨#[]⟩) (.slice none 0 0) (.slice none 0 0)
    have HY := hide hY
    have HF := hide (und_none (l := s.data.toList) bP hu)
    have x0 := hrb.cell 0 _ rfl
    have x1 := hrb.cell 1 _ rfl
    have x2 := hrb.cell 2 _ rfl
    have x3 := hrb.cell 3 _ rfl
    have x4 := hrb.cell 4 _ rfl
    have x5 := hrb.cell 5 _ rfl
    have z0 := Blk.froz hrb 0
    have z1 := Blk.froz hrb 1
    have z2 := Blk.froz hrb 2
    have z3 := Blk.froz hrb 3
    have z4 := Blk.froz hrb 4
    have z5 := Blk.froz hrb 5
    have q0 := hnn.cell 0 _ rfl
    have q1 := hnn.cell 1 _ rfl
    have q2 := hnn.cell 2 _ rfl
    have q3 := hnn.cell 3 _ rfl
    have q4 := hnn.cell 4 _ rfl
    have q5 := hnn.cell 5 _ rfl
    clear hY
    go_wp2
    have hY := HY.out
    have hF := HF.out
    clear HY HF x0 x1 x2 x3 x4 x5 z0 z1 z2 z3 z4 z5 q0 q1 q2 q3 q4 q5
    generalize hXX : put6 P w.heap.size (.int .i64 0) (.int .i64 0) (.int .u64 0) (.string ⟨#[]⟩) (.slice none 0 0) (.slice none 0 0) = Y at hY hF
    simp only [put6] at hXX
    rw [hXX]
    clear hXX
    exact bodyPost_ret (results_und _ hY) rfl hF
  · have g2 : ¬ (s.size : Int) < 2 := by omega
    have h1 : 1 < s.size := by omega
    have cb := (s[1]'h1).toNat_lt
    have hu : uM (n + 1) s.data.toList = some (leaf (1, ((s[1]'h1).toNat : Int), 0, []), s.data.toList.drop 2) := by
      rw [hu0, List.drop_eq_getElem_cons (by rw [lenB]; exact h1 : 1 < s.data.toList.length)]
      rfl
    have q1 := hD.cell 1 _ rfl
    have z1 := Blk.froz hD 1
    clear hu0 h2
    generalize hyy : ((s[1]'h1).toNat : Int) = yy at *
    go_upto_region 12 with fail
    have hD5 : Blk (P.setCell ⟨w.heap.size + 2, 1, none⟩ (.int .i64 yy)) (w.heap.size + 2) #[.int .i64 1, .int .i64 yy, .int .u64 0, .string ⟨#[]⟩, .slice none 0 0, .slice none 0 0] 26 := hD.set 1 (.int .i64 yy)
    have hrb5 := hrb.set_other ⟨w.heap.size + 2, 1, none⟩ (.int .i64 yy) (by show w.heap.size ≠ w.heap.size + 2; omega)
    have bP5 := bP.setCell (p := ⟨w.heap.size + 2, 1, none⟩) (by show w.heap.size ≤ w.heap.size + 2; omega) (.int .i64 yy)
    clear hD hrb bP k0 q1 z1 hnn sP
    generalize P.setCell ⟨w.heap.size + 2, 1, none⟩ (.int .i64 yy) = X at *
    have hY := put6_blk hrb5 (.int .i64 1) (.int .i64 yy) (.int .u64 0) (.string ⟨#[]⟩) (.slice none 0 0) (.slice none 0 0)
    have HY := hide hY
    have HF := hide (und_fin (l := s.data.toList) (m := 2) (b := 0) (vlies_leaf _ _ X 1 yy 0 ⟨#[]⟩ (by decide) (by omega) (by decide) (Nat.zero_le _)) bP5 ⟨by omega, by rw [lenB]; omega⟩ hu 2 rfl)
    have x0 := hrb5.cell 0 _ rfl
    have x1 := hrb5.cell 1 _ rfl
    have x2 := hrb5.cell 2 _ rfl
    have x3 := hrb5.cell 3 _ rfl
    have x4 := hrb5.cell 4 _ rfl
    have x5 := hrb5.cell 5 _ rfl
    have z0 := Blk.froz hrb5 0
    have z1 := Blk.froz hrb5 1
    have z2 := Blk.froz hrb5 2
    have z3 := Blk.froz hrb5 3
    have z4 := Blk.froz hrb5 4
    have z5 := Blk.froz hrb5 5
    have q0 := hD5.cell 0 _ rfl
    have q1 := hD5.cell 1 _ rfl
    have q2 := hD5.cell 2 _ rfl
    have q3 := hD5.cell 3 _ rfl
    have q4 := hD5.cell 4 _ rfl
    have q5 := hD5.cell 5 _ rfl
    clear hY
    go_wp2
    have hY := HY.out
    have hF := HF.out
    clear HY HF x0 x1 x2 x3 x4 x5 z0 z1 z2 z3 z4 z5 q0 q1 q2 q3 q4 q5
    generalize hXX : put6 X w.heap.size (.int .i64 1) (.int .i64 yy) (.int .u64 0) (.string ⟨#[]⟩) (.slice none 0 0) (.slice none 0 0) = Y at hY hF
    simp only [put6] at hXX
    rw [hXX]
    clear hXX
    exact bodyPost_ret (results_und _ hY) rfl hF
set_option maxHeartbeats 8000000 in
set_option maxRecDepth 100000 in
theorem und3 (w : World) (s : ByteArray) (hs : s.size ≤ 2000000) (n i : Nat) (hi : i ≤ 1000) (h0 : 0 < s.size) (hc : s[0]'h0 = 3) :
    Calls Tryd.prog 23 #[.string s, .int .i64 (i : Int)] w (UndPost (n + 1) w s.data.toList) := by
  obtain ⟨e1, e2⟩ := notEmpty h0
  have hi' : ¬ (i : Int) > 1000 := by omega
  have hcI : ((s[0]'h0).toNat : Int) = 3 := by rw [hc]; rfl
  have hu0 : uM (n + 1) s.data.toList = uB (uM n) 3 (s.data.toList.drop 1) := uM_cons (by rw [lenB]; exact h0) hc
  have hlr : (s.data.toList.drop 1).length + 1 = s.size := by rw [List.length_drop, lenB]; omega
  have b0 : Below w.heap.size w ((w.alloc (.cells #[.int .i64 0, .int .i64 0, .int .u64 0, .string ⟨#[]⟩, .slice none 0 0, .slice none 0 0] 26)).alloc (.cells #[.int .i64 0, .int .i64 0, .int .u64 0, .string ⟨#[]⟩, .slice none 0 0, .slice none 0 0] 26)) := begD_below w
  have bD : Below (w.heap.size + 2) ((w.alloc (.cells #[.int .i64 0, .int .i64 0, .int .u64 0, .string ⟨#[]⟩, .slice none 0 0, .slice none 0 0] 26)).alloc (.cells #[.int .i64 0, .int .i64 0, .int .u64 0, .string ⟨#[]⟩, .slice none 0 0, .slice none 0 0] 26)) (((w.alloc (.cells #[.int .i64 0, .int .i64 0, .int .u64 0, .string ⟨#[]⟩, .slice none 0 0, .slice none 0 0] 26)).alloc (.cells #[.int .i64 0, .int .i64 0, .int .u64 0, .string ⟨#[]⟩, .slice none 0 0, .slice none 0 0] 26)).alloc (.cells #[.int .i64 2, .int .i64 0, .int .u64 0, .string ⟨#[]⟩, .slice none 0 0, .slice none 0 0] 26)) := (Below.refl _ _).alloc (by simp) _
  have hD : Blk (((w.alloc (.cells #[.int .i64 0, .int .i64 0, .int .u64 0, .string ⟨#[]⟩, .slice none 0 0, .slice none 0 0] 26)).alloc (.cells #[.int .i64 0, .int .i64 0, .int .u64 0, .string ⟨#[]⟩, .slice none 0 0, .slice none 0 0] 26)).alloc (.cells #[.int .i64 2, .int .i64 0, .int .u64 0, .string ⟨#[]⟩, .slice none 0 0, .slice none 0 0] 26)) (w.heap.size + 2) #[.int .i64 2, .int .i64 0, .int .u64 0, .string ⟨#[]⟩, .slice none 0 0, .slice none 0 0] 26 := by
    have h := blk_alloc ((w.alloc (.cells #[.int .i64 0, .int .i64 0, .int .u64 0, .string ⟨#[]⟩, .slice none 0 0, .slice none 0 0] 26)).alloc (.cells #[.int .i64 0, .int .i64 0, .int .u64 0, .string ⟨#[]⟩, .slice none 0 0, .slice none 0 0] 26)) #[.int .i64 2, .int .i64 0, .int .u64 0, .string ⟨#[]⟩, .slice none 0 0, .slice none 0 0] 26
    rwa [World.size_alloc, World.size_alloc] at h
  have hrb : Blk (((w.alloc (.cells #[.int .i64 0, .int .i64 0, .int .u64 0, .string ⟨#[]⟩, .slice none 0 0, .slice none 0 0] 26)).alloc (.cells #[.int .i64 0, .int .i64 0, .int .u64 0, .string ⟨#[]⟩, .slice none 0 0, .slice none 0 0] 26)).alloc (.cells #[.int .i64 2, .int .i64 0, .int .u64 0, .string ⟨#[]⟩, .slice none 0 0, .slice none 0 0] 26)) w.heap.size #[.int .i64 0, .int .i64 0, .int .u64 0, .string ⟨#[]⟩, .slice none 0 0, .slice none 0 0] 26 := (bD.block _ (by omega)).trans (begD_res w)
  have hnn : Blk (((w.alloc (.cells #[.int .i64 0, .int .i64 0, .int .u64 0, .string ⟨#[]⟩, .slice none 0 0, .slice none 0 0] 26)).alloc (.cells #[.int .i64 0, .int .i64 0, .int .u64 0, .string ⟨#[]⟩, .slice none 0 0, .slice none 0 0] 26)).alloc (.cells #[.int .i64 2, .int .i64 0, .int .u64 0, .string ⟨#[]⟩, .slice none 0 0, .slice none 0 0] 26)) (w.heap.size + 1) #[.int .i64 0, .int .i64 0, .int .u64 0, .string ⟨#[]⟩, .slice none 0 0, .slice none 0 0] 26 := (bD.block _ (by omega)).trans (begD_none w)
  have bP : Below w.heap.size w (((w.alloc (.cells #[.int .i64 0, .int .i64 0, .int .u64 0, .string ⟨#[]⟩, .slice none 0 0, .slice none 0 0] 26)).alloc (.cells #[.int .i64 0, .int .i64 0, .int .u64 0, .string ⟨#[]⟩, .slice none 0 0, .slice none 0 0] 26)).alloc (.cells #[.int .i64 2, .int .i64 0, .int .u64 0, .string ⟨#[]⟩, .slice none 0 0, .slice none 0 0] 26)) := b0.trans (bD.mono (by omega))
  have sP : (((w.alloc (.cells #[.int .i64 0, .int .i64 0, .int .u64 0, .string ⟨#[]⟩, .slice none 0 0, .slice none 0 0] 26)).alloc (.cells #[.int .i64 0, .int .i64 0, .int .u64 0, .string ⟨#[]⟩, .slice none 0 0, .slice none 0 0] 26)).alloc (.cells #[.int .i64 2, .int .i64 0, .int .u64 0, .string ⟨#[]⟩, .slice none 0 0, .slice none 0 0] 26)).heap.size = w.heap.size + 3 := by simp
  clear b0 bD
  go_enter Tryd.func23, Tryd.ntmps23
  go_upto_region 5 with fail
  generalize ((w.alloc (.cells #[.int .i64 0, .int .i64 0, .int .u64 0, .string ⟨#[]⟩, .slice none 0 0, .slice none 0 0] 26)).alloc (.cells #[.int .i64 0, .int .i64 0, .int .u64 0, .string ⟨#[]⟩, .slice none 0 0, .slice none 0 0] 26)).alloc (.cells #[.int .i64 2, .int .i64 0, .int .u64 0, .string ⟨#[]⟩, .slice none 0 0, .slice none 0 0] 26) = P at *
  have k0 := hD.cell 0 _ rfl
  simp only [List.getElem_toArray, List.getElem_cons_zero] at k0
  by_cases h2 : s.size < 9
  · have g2 : (s.size : Int) < 9 := by omega
    have hu : uM (n + 1) s.data.toList = none := by
      rw [hu0, uB_3]
      exact if_pos (by omega)
    clear hu0 h2
    go_upto_region 16 with fail
    have hY := put6_blk hrb (.int .i64 0) (.int .i64 0) (.int .u64 0) (.string ⟨#[]⟩) (.slice none 0 0) (.slice none 0 0)
    have HY := hide hY
    have HF := hide (und_none (l := s.data.toList) bP hu)
    have x0 := hrb.cell 0 _ rfl
    have x1 := hrb.cell 1 _ rfl
    have x2 := hrb.cell 2 _ rfl
    have x3 := hrb.cell 3 _ rfl
    have x4 := hrb.cell 4 _ rfl
    have x5 := hrb.cell 5 _ rfl
    have z0 := Blk.froz hrb 0
    have z1 := Blk.froz hrb 1
    have z2 := Blk.froz hrb 2
    have z3 := Blk.froz hrb 3
    have z4 := Blk.froz hrb 4
    have z5 := Blk.froz hrb 5
    have q0 := hnn.cell 0 _ rfl
    have q1 := hnn.cell 1 _ rfl
    have q2 := hnn.cell 2 _ rfl
    have q3 := hnn.cell 3 _ rfl
    have q4 := hnn.cell 4 _ rfl
    have q5 := hnn.cell 5 _ rfl
    clear hY
    go_wp2
    have hY := HY.out
    have hF := HF.out
    clear HY HF x0 x1 x2 x3 x4 x5 z0 z1 z2 z3 z4 z5 q0 q1 q2 q3 q4 q5
    generalize hXX : put6 P w.heap.size (.int .i64 0) (.int .i64 0) (.int .u64 0) (.string ⟨#[]⟩) (.slice none 0 0) (.slice none 0 0) = Y at hY hF
    simp only [put6] at hXX
    rw [hXX]
    clear hXX
    exact bodyPost_ret (results_und _ hY) rfl hF
  · have g2 : ¬ (s.size : Int) < 9 := by omega
    have sl : ∀ W : World, (Instr.slice 9 (.string s) (some (.int .i64 1)) none none).run Tryd.prog W = .ok (.string (s.extract 1 s.size)) W := fun W => slice_tail s 1 1 rfl (by omega) W
    have hx : (s.extract 1 s.size).data.toList = s.data.toList.drop 1 := by rw [extL, ← lenB, List.take_length]
    have hxs : (s.extract 1 s.size).size + 1 = s.size := by rw [← lenB, hx]; exact hlr
    have HN := hide (numberD_any P (s.extract 1 s.size) (by omega))
    rw [hx] at HN
    have nb : num8 (s.data.toList.drop 1) < 18446744073709551616 := by
      have := numM_lt 8 0 (s.data.toList.drop 1, false, 0)
      rw [pow8] at this
      unfold num8
      omega
    have hu1 : uM (n + 1) s.data.toList = some (leaf (2, (num8 (s.data.toList.drop 1) : Int) - 9223372036854775808, 0, []), s.data.toList.drop 9) := by
      rw [hu0, uB_3]
      refine (if_neg (by omega)).trans ?_
      rw [List.drop_drop]
    generalize num8 (s.data.toList.drop 1) = m8 at *
    generalize s.extract 1 s.size = s1 at *
    obtain ⟨nn, hnn'⟩ : ∃ nn : Int, nn = (m8 : Int) - 9223372036854775808 := ⟨_, rfl⟩
    have hu : uM (n + 1) s.data.toList = some (leaf (2, nn, 0, []), s.data.toList.drop 9) := by rw [hu1, hnn']
    have hb1 : -9223372036854775808 ≤ nn ∧ nn ≤ 9223372036854775807 := by omega
    have hw1 : ∀ x : Int, x = (m8 : Int) - 9223372036854775808 ∨ x = (m8 : Int) - 9223372036854775808 + 18446744073709551616 → wrap64 x = nn := fun x h => by
      unfold wrap64
      omega
    have hw2 := hw1 ((m8 : Int) - 9223372036854775808) (.inl rfl)
    have hw3 : wrap64 (IntKind.u64.wrap ((m8 : Int) - 9223372036854775808)) = nn := hw1 _ (by simp [IntKind.wrap, IntKind.bits, IntKind.signed]; omega)
    clear hu1 hw1 hnn'
    have q1 := hD.cell 1 _ rfl
    have z1 := Blk.froz hD 1
    clear hu0 h2 hx hxs
    go_upto_region 23 with (go_at_call 46; refine (unhide HN).mono ?_; rintro e w3 ⟨rfl, h3⟩; rw [h3]; clear h3)
    have hD5 : Blk (P.setCell ⟨w.heap.size + 2, 1, none⟩ (.int .i64 nn)) (w.heap.size + 2) #[.int .i64 2, .int .i64 nn, .int .u64 0, .string ⟨#[]⟩, .slice none 0 0, .slice none 0 0] 26 := hD.set 1 (.int .i64 nn)
    have hrb5 := hrb.set_other ⟨w.heap.size + 2, 1, none⟩ (.int .i64 nn) (by show w.heap.size ≠ w.heap.size + 2; omega)
    have bP5 := bP.setCell (p := ⟨w.heap.size + 2, 1, none⟩) (by show w.heap.size ≤ w.heap.size + 2; omega) (.int .i64 nn)
    clear hD hrb bP k0 q1 z1 hnn sP HN
    generalize P.setCell ⟨w.heap.size + 2, 1, none⟩ (.int .i64 nn) = X at *
    have hY := put6_blk hrb5 (.int .i64 2) (.int .i64 nn) (.int .u64 0) (.string ⟨#[]⟩) (.slice none 0 0) (.slice none 0 0)
    have HY := hide hY
    have HF := hide (und_fin (l := s.data.toList) (m := 9) (b := 0) (vlies_leaf _ _ X 2 nn 0 ⟨#[]⟩ (by decide) hb1 (by decide) (Nat.zero_le _)) bP5 ⟨by omega, by rw [lenB]; omega⟩ hu 9 rfl)
    have x0 := hrb5.cell 0 _ rfl
    have x1 := hrb5.cell 1 _ rfl
    have x2 := hrb5.cell 2 _ rfl
    have x3 := hrb5.cell 3 _ rfl
    have x4 := hrb5.cell 4 _ rfl
    have x5 := hrb5.cell 5 _ rfl
    have z0 := Blk.froz hrb5 0
    have z1 := Blk.froz hrb5 1
    have z2 := Blk.froz hrb5 2
    have z3 := Blk.froz hrb5 3
    have z4 := Blk.froz hrb5 4
    have z5 := Blk.froz hrb5 5
    have q0 := hD5.cell 0 _ rfl
    have q1 := hD5.cell 1 _ rfl
    have q2 := hD5.cell 2 _ rfl
    have q3 := hD5.cell 3 _ rfl
    have q4 := hD5.cell 4 _ rfl
    have q5 := hD5.cell 5 _ rfl
    clear hY
    go_wp2
    have hY := HY.out
    have hF := HF.out
    clear HY HF x0 x1 x2 x3 x4 x5 z0 z1 z2 z3 z4 z5 q0 q1 q2 q3 q4 q5
    generalize hXX : put6 X w.heap.size (.int .i64 2) (.int .i64 nn) (.int .u64 0) (.string ⟨#[]⟩) (.slice none 0 0) (.slice none 0 0) = Y at hY hF
    simp only [put6] at hXX
    rw [hXX]
    clear hXX
    exact bodyPost_ret (results_und _ hY) rfl hF
set_option maxHeartbeats 8000000 in
set_option maxRecDepth 100000 in
theorem und4h (w : World) (s : ByteArray) (hs : s.size ≤ 2000000) (n i : Nat) (hi : i ≤ 1000) (h0 : 0 < s.size) (hc : s[0]'h0 = 4) (hx8 : 9223372036854775808 ≤ num8 (s.data.toList.drop 1)) :
    Calls Tryd.prog 23 #[.string s, .int .i64 (i : Int)] w (UndPost (n + 1) w s.data.toList) := by
  obtain ⟨e1, e2⟩ := notEmpty h0
  have hi' : ¬ (i : Int) > 1000 := by omega
  have hcI : ((s[0]'h0).toNat : Int) = 4 := by rw [hc]; rfl
  have hu0 : uM (n + 1) s.data.toList = uB (uM n) 4 (s.data.toList.drop 1) := uM_cons (by rw [lenB]; exact h0) hc
  have hlr : (s.data.toList.drop 1).length + 1 = s.size := by rw [List.length_drop, lenB]; omega
  have b0 : Below w.heap.size w ((w.alloc (.cells #[.int .i64 0, .int .i64 0, .int .u64 0, .string ⟨#[]⟩, .slice none 0 0, .slice none 0 0] 26)).alloc (.cells #[.int .i64 0, .int .i64 0, .int .u64 0, .string ⟨#[]⟩, .slice none 0 0, .slice none 0 0] 26)) := begD_below w
  have bD : Below (w.heap.size + 2) ((w.alloc (.cells #[.int .i64 0, .int .i64 0, .int .u64 0, .string ⟨#[]⟩, .slice none 0 0, .slice none 0 0] 26)).alloc (.cells #[.int .i64 0, .int .i64 0, .int .u64 0, .string ⟨#[]⟩, .slice none 0 0, .slice none 0 0] 26)) (((w.alloc (.cells #[.int .i64 0, .int .i64 0, .int .u64 0, .string ⟨#[]⟩, .slice none 0 0, .slice none 0 0] 26)).alloc (.cells #[.int .i64 0, .int .i64 0, .int .u64 0, .string ⟨#[]⟩, .slice none 0 0, .slice none 0 0] 26)).alloc (.cells #[.int .i64 3, .int .i64 0, .int .u64 0, .string ⟨#[]⟩, .slice none 0 0, .slice none 0 0] 26)) := (Below.refl _ _).alloc (by simp) _
  have hD : Blk (((w.alloc (.cells #[.int .i64 0, .int .i64 0, .int .u64 0, .string ⟨#[]⟩, .slice none 0 0, .slice none 0 0] 26)).alloc (.cells #[.int .i64 0, .int .i64 0, .int .u64 0, .string ⟨#[]⟩, .slice none 0 0, .slice none 0 0] 26)).alloc (.cells #[.int .i64 3, .int .i64 0, .int .u64 0, .string ⟨#[]⟩, .slice none 0 0, .slice none 0 0] 26)) (w.heap.size + 2) #[.int .i64 3, .int .i64 0, .int .u64 0, .string ⟨#[]⟩, .slice none 0 0, .slice none 0 0] 26 := by
    have h := blk_alloc ((w.alloc (.cells #[.int .i64 0, .int .i64 0, .int .u64 0, .string ⟨#[]⟩, .slice none 0 0, .slice none 0 0] 26)).alloc (.cells #[.int .i64 0, .int .i64 0, .int .u64 0, .string ⟨#[]⟩, .slice none 0 0, .slice none 0 0] 26)) #[.int .i64 3, .int .i64 0, .int .u64 0, .string ⟨#[]⟩, .slice none 0 0, .slice none 0 0] 26
    rwa [World.size_alloc, World.size_alloc] at h
  have hrb : Blk (((w.alloc (.cells #[.int .i64 0, .int .i64 0, .int .u64 0, .string ⟨#[]⟩, .slice none 0 0, .slice none 0 0] 26)).alloc (.cells #[.int .i64 0, .int .i64 0, .int .u64 0, .string ⟨#[]⟩, .slice none 0 0, .slice none 0 0] 26)).alloc (.cells #[.int .i64 3, .int .i64 0, .int .u64 0, .string ⟨#[]⟩, .slice none 0 0, .slice none 0 0] 26)) w.heap.size #[.int .i64 0, .int .i64 0, .int .u64 0, .string ⟨#[]⟩, .slice none 0 0, .slice none 0 0] 26 := (bD.block _ (by omega)).trans (begD_res w)
  have hnn : Blk (((w.alloc (.cells #[.int .i64 0, .int .i64 0, .int .u64 0, .string ⟨#[]⟩, .slice none 0 0, .slice none 0 0] 26)).alloc (.cells #[.int .i64 0, .int .i64 0, .int .u64 0, .string ⟨#[]⟩, .slice none 0 0, .slice none 0 0] 26)).alloc (.cells #[.int .i64 3, .int .i64 0, .int .u64 0, .string ⟨#[]⟩, .slice none 0 0, .slice none 0 0] 26)) (w.heap.size + 1) #[.int .i64 0, .int .i64 0, .int .u64 0, .string ⟨#[]⟩, .slice none 0 0, .slice none 0 0] 26 := (bD.block _ (by omega)).trans (begD_none w)
  have bP : Below w.heap.size w (((w.alloc (.cells #[.int .i64 0, .int .i64 0, .int .u64 0, .string ⟨#[]⟩, .slice none 0 0, .slice none 0 0] 26)).alloc (.cells #[.int .i64 0, .int .i64 0, .int .u64 0, .string ⟨#[]⟩, .slice none 0 0, .slice none 0 0] 26)).alloc (.cells #[.int .i64 3, .int .i64 0, .int .u64 0, .string ⟨#[]⟩, .slice none 0 0, .slice none 0 0] 26)) := b0.trans (bD.mono (by omega))
  have sP : (((w.alloc (.cells #[.int .i64 0, .int .i64 0, .int .u64 0, .string ⟨#[]⟩, .slice none 0 0, .slice none 0 0] 26)).alloc (.cells #[.int .i64 0, .int .i64 0, .int .u64 0, .string ⟨#[]⟩, .slice none 0 0, .slice none 0 0] 26)).alloc (.cells #[.int .i64 3, .int .i64 0, .int .u64 0, .string ⟨#[]⟩, .slice none 0 0, .slice none 0 0] 26)).heap.size = w.heap.size + 3 := by simp
  clear b0 bD
  go_enter Tryd.func23, Tryd.ntmps23
  go_upto_region 5 with fail
  generalize ((w.alloc (.cells #[.int .i64 0, .int .i64 0, .int .u64 0, .string ⟨#[]⟩, .slice none 0 0, .slice none 0 0] 26)).alloc (.cells #[.int .i64 0, .int .i64 0, .int .u64 0, .string ⟨#[]⟩, .slice none 0 0, .slice none 0 0] 26)).alloc (.cells #[.int .i64 3, .int .i64 0, .int .u64 0, .string ⟨#[]⟩, .slice none 0 0, .slice none 0 0] 26) = P at *
  have k0 := hD.cell 0 _ rfl
  simp only [List.getElem_toArray, List.getElem_cons_zero] at k0
  by_cases h2 : s.size < 9
  · have g2 : (s.size : Int) < 9 := by omega
    have hu : uM (n + 1) s.data.toList = none := by
      rw [hu0, uB_4]
      exact if_pos (by omega)
    clear hu0 h2
    go_upto_region 16 with fail
    have hY := put6_blk hrb (.int .i64 0) (.int .i64 0) (.int .u64 0) (.string ⟨#[]⟩) (.slice none 0 0) (.slice none 0 0)
    have HY := hide hY
    have HF := hide (und_none (l := s.data.toList) bP hu)
    have x0 := hrb.cell 0 _ rfl
    have x1 := hrb.cell 1 _ rfl
    have x2 := hrb.cell 2 _ rfl
    have x3 := hrb.cell 3 _ rfl
    have x4 := hrb.cell 4 _ rfl
    have x5 := hrb.cell 5 _ rfl
    have z0 := Blk.froz hrb 0
    have z1 := Blk.froz hrb 1
    have z2 := Blk.froz hrb 2
    have z3 := Blk.froz hrb 3
    have z4 := Blk.froz hrb 4
    have z5 := Blk.froz hrb 5
    have q0 := hnn.cell 0 _ rfl
    have q1 := hnn.cell 1 _ rfl
    have q2 := hnn.cell 2 _ rfl
    have q3 := hnn.cell 3 _ rfl
    have q4 := hnn.cell 4 _ rfl
    have q5 := hnn.cell 5 _ rfl
    clear hY
    go_wp2
    have hY := HY.out
    have hF := HF.out
    clear HY HF x0 x1 x2 x3 x4 x5 z0 z1 z2 z3 z4 z5 q0 q1 q2 q3 q4 q5
    generalize hXX : put6 P w.heap.size (.int .i64 0) (.int .i64 0) (.int .u64 0) (.string ⟨#[]⟩) (.slice none 0 0) (.slice none 0 0) = Y at hY hF
    simp only [put6] at hXX
    rw [hXX]
    clear hXX
    exact bodyPost_ret (results_und _ hY) rfl hF
  · have g2 : ¬ (s.size : Int) < 9 := by omega
    have sl : ∀ W : World, (Instr.slice 9 (.string s) (some (.int .i64 1)) none none).run Tryd.prog W = .ok (.string (s.extract 1 s.size)) W := fun W => slice_tail s 1 1 rfl (by omega) W
    have hx : (s.extract 1 s.size).data.toList = s.data.toList.drop 1 := by rw [extL, ← lenB, List.take_length]
    have hxs : (s.extract 1 s.size).size + 1 = s.size := by rw [← lenB, hx]; exact hlr
    have HN := hide (numberD_any P (s.extract 1 s.size) (by omega))
    rw [hx] at HN
    have nb : num8 (s.data.toList.drop 1) < 18446744073709551616 := by
      have := numM_lt 8 0 (s.data.toList.drop 1, false, 0)
      rw [pow8] at this
      unfold num8
      omega
    have hu1 : uM (n + 1) s.data.toList = some (leaf (3, 0, turnB (num8 (s.data.toList.drop 1)), []), s.data.toList.drop 9) := by
      rw [hu0, uB_4]
      refine (if_neg (by omega)).trans ?_
      rw [List.drop_drop]
    generalize num8 (s.data.toList.drop 1) = m8 at *
    generalize s.extract 1 s.size = s1 at *
    obtain ⟨ff, hff⟩ : ∃ ff : Nat, ff = turnB m8 := ⟨_, rfl⟩
    have hu : uM (n + 1) s.data.toList = some (leaf (3, 0, ff, []), s.data.toList.drop 9) := by rw [hu1, hff]
    have hfl : ff < 18446744073709551616 := by rw [hff]; exact turnB_lt nb
    have hfe : (m8 : Int) - 9223372036854775808 = (ff : Int) := by rw [hff]; unfold turnB; rw [if_neg (by omega)]; omega
    have hge : (m8 : Int) ≥ 9223372036854775808 := by omega
    have AR := hide (And.intro hlr (And.intro nb (And.intro sP (And.intro hs hfl))))
    have fI : (ff : Int) ≤ 18446744073709551615 := by omega
    clear hu1 hff hx8 hlr nb sP hs hi hfl
    generalize (m8 : Int) = M8 at HN hfe hge
    have q1 := hD.cell 2 _ rfl
    have z1 := Blk.froz hD 2
    clear hu0 h2 hx hxs
    go_upto_region 23 with (go_at_call 46; refine (unhide HN).mono ?_; rintro e w3 ⟨rfl, h3⟩; rw [h3]; clear h3)
    obtain ⟨hlr, nb, sP, hs, hfl⟩ := AR.out
    have hD5 : Blk (P.setCell ⟨w.heap.size + 2, 2, none⟩ (.int .u64 (ff : Int))) (w.heap.size + 2) #[.int .i64 3, .int .i64 0, .int .u64 (ff : Int), .string ⟨#[]⟩, .slice none 0 0, .slice none 0 0] 26 := hD.set 2 (.int .u64 (ff : Int))
    have hrb5 := hrb.set_other ⟨w.heap.size + 2, 2, none⟩ (.int .u64 (ff : Int)) (by show w.heap.size ≠ w.heap.size + 2; omega)
    have bP5 := bP.setCell (p := ⟨w.heap.size + 2, 2, none⟩) (by show w.heap.size ≤ w.heap.size + 2; omega) (.int .u64 (ff : Int))
    clear hD hrb bP k0 q1 z1 hnn sP HN
    generalize P.setCell ⟨w.heap.size + 2, 2, none⟩ (.int .u64 (ff : Int)) = X at *
    have hY := put6_blk hrb5 (.int .i64 3) (.int .i64 0) (.int .u64 (ff : Int)) (.string ⟨#[]⟩) (.slice none 0 0) (.slice none 0 0)
    have HY := hide hY
    have HF := hide (und_fin (l := s.data.toList) (m := 9) (b := ff) (vlies_leaf _ _ X 3 0 ff ⟨#[]⟩ (by decide) (by decide) hfl (Nat.zero_le _)) bP5 ⟨by omega, by rw [lenB]; omega⟩ hu 9 rfl)
    have x0 := hrb5.cell 0 _ rfl
    have x1 := hrb5.cell 1 _ rfl
    have x2 := hrb5.cell 2 _ rfl
    have x3 := hrb5.cell 3 _ rfl
    have x4 := hrb5.cell 4 _ rfl
    have x5 := hrb5.cell 5 _ rfl
    have z0 := Blk.froz hrb5 0
    have z1 := Blk.froz hrb5 1
    have z2 := Blk.froz hrb5 2
    have z3 := Blk.froz hrb5 3
    have z4 := Blk.froz hrb5 4
    have z5 := Blk.froz hrb5 5
    have q0 := hD5.cell 0 _ rfl
    have q1 := hD5.cell 1 _ rfl
    have q2 := hD5.cell 2 _ rfl
    have q3 := hD5.cell 3 _ rfl
    have q4 := hD5.cell 4 _ rfl
    have q5 := hD5.cell 5 _ rfl
    clear hY
    go_wp2
    have hY := HY.out
    have hF := HF.out
    clear HY HF x0 x1 x2 x3 x4 x5 z0 z1 z2 z3 z4 z5 q0 q1 q2 q3 q4 q5
    generalize hXX : put6 X w.heap.size (.int .i64 3) (.int .i64 0) (.int .u64 (ff : Int)) (.string ⟨#[]⟩) (.slice none 0 0) (.slice none 0 0) = Y at hY hF
    simp only [put6] at hXX
    rw [hXX]
    clear hXX
    exact bodyPost_ret (results_und _ hY) rfl hF
set_option maxHeartbeats 8000000 in
set_option maxRecDepth 100000 in
theorem und4l (w : World) (s : ByteArray) (hs : s.size ≤ 2000000) (n i : Nat) (hi : i ≤ 1000) (h0 : 0 < s.size) (hc : s[0]'h0 = 4) (hx8 : num8 (s.data.toList.drop 1) < 9223372036854775808) :
    Calls Tryd.prog 23 #[.string s, .int .i64 (i : Int)] w (UndPost (n + 1) w s.data.toList) := by
  obtain ⟨e1, e2⟩ := notEmpty h0
  have hi' : ¬ (i : Int) > 1000 := by omega
  have hcI : ((s[0]'h0).toNat : Int) = 4 := by rw [hc]; rfl
  have hu0 : uM (n + 1) s.data.toList = uB (uM n) 4 (s.data.toList.drop 1) := uM_cons (by rw [lenB]; exact h0) hc
  have hlr : (s.data.toList.drop 1).length + 1 = s.size := by rw [List.length_drop, lenB]; omega
  have b0 : Below w.heap.size w ((w.alloc (.cells #[.int .i64 0, .int .i64 0, .int .u64 0, .string ⟨#[]⟩, .slice none 0 0, .slice none 0 0] 26)).alloc (.cells #[.int .i64 0, .int .i64 0, .int .u64 0, .string ⟨#[]⟩, .slice none 0 0, .slice none 0 0] 26)) := begD_below w
  have bD : Below (w.heap.size + 2) ((w.alloc (.cells #[.int .i64 0, .int .i64 0, .int .u64 0, .string ⟨#[]⟩, .slice none 0 0, .slice none 0 0] 26)).alloc (.cells #[.int .i64 0, .int .i64 0, .int .u64 0, .string ⟨#[]⟩, .slice none 0 0, .slice none 0 0] 26)) (((w.alloc (.cells #[.int .i64 0, .int .i64 0, .int .u64 0, .string ⟨#[]⟩, .slice none 0 0, .slice none 0 0] 26)).alloc (.cells #[.int .i64 0, .int .i64 0, .int .u64 0, .string ⟨#[]⟩, .slice none 0 0, .slice none 0 0] 26)).alloc (.cells #[.int .i64 3, .int .i64 0, .int .u64 0, .string ⟨#[]⟩, .slice none 0 0, .slice none 0 0] 26)) := (Below.refl _ _).alloc (by simp) _
  have hD : Blk (((w.alloc (.cells #[.int .i64 0, .int .i64 0, .int .u64 0, .string ⟨#[]⟩, .slice none 0 0, .slice none 0 0] 26)).alloc (.cells #[.int .i64 0, .int .i64 0, .int .u64 0, .string ⟨#[]⟩, .slice none 0 0, .slice none 0 0] 26)).alloc (.cells #[.int .i64 3, .int .i64 0, .int .u64 0, .string ⟨#[]⟩, .slice none 0 0, .slice none 0 0] 26)) (w.heap.size + 2) #[.int .i64 3, .int .i64 0, .int .u64 0, .string ⟨#[]⟩, .slice none 0 0, .slice none 0 0] 26 := by
    have h := blk_alloc ((w.alloc (.cells #[.int .i64 0, .int .i64 0, .int .u64 0, .string ⟨#[]⟩, .slice none 0 0, .slice none 0 0] 26)).alloc (.cells #[.int .i64 0, .int .i64 0, .int .u64 0, .string ⟨#[]⟩, .slice none 0 0, .slice none 0 0] 26)) #[.int .i64 3, .int .i64 0, .int .u64 0, .string ⟨#[]⟩, .slice none 0 0, .slice none 0 0] 26
    rwa [World.size_alloc, World.size_alloc] at h
  have hrb : Blk (((w.alloc (.cells #[.int .i64 0, .int .i64 0, .int .u64 0, .string ⟨#[]⟩, .slice none 0 0, .slice none 0 0] 26)).alloc (.cells #[.int .i64 0, .int .i64 0, .int .u64 0, .string ⟨#[]⟩, .slice none 0 0, .slice none 0 0] 26)).alloc (.cells #[.int .i64 3, .int .i64 0, .int .u64 0, .string ⟨#[]⟩, .slice none 0 0, .slice none 0 0] 26)) w.heap.size #[.int .i64 0, .int .i64 0, .int .u64 0, .string ⟨#[]⟩, .slice none 0 0, .slice none 0 0] 26 := (bD.block _ (by omega)).trans (begD_res w)
  have hnn : Blk (((w.alloc (.cells #[.int .i64 0, .int .i64 0, .int .u64 0, .string ⟨#[]⟩, .slice none 0 0, .slice none 0 0] 26)).alloc (.cells #[.int .i64 0, .int .i64 0, .int .u64 0, .string ⟨#[]⟩, .slice none 0 0, .slice none 0 0] 26)).alloc (.cells #[.int .i64 3, .int .i64 0, .int .u64 0, .string ⟨#[]⟩, .slice none 0 0, .slice none 0 0] 26)) (w.heap.size + 1) #[.int .i64 0, .int .i64 0, .int .u64 0, .string ⟨#[]⟩, .slice none 0 0, .slice none 0 0] 26 := (bD.block _ (by omega)).trans (begD_none w)
  have bP : Below w.heap.size w (((w.alloc (.cells #[.int .i64 0, .int .i64 0, .int .u64 0, .string ⟨#[]⟩, .slice none 0 0, .slice none 0 0] 26)).alloc (.cells #[.int .i64 0, .int .i64 0, .int .u64 0, .string ⟨#[]⟩, .slice none 0 0, .slice none 0 0] 26)).alloc (.cells #[.int .i64 3, .int .i64 0, .int .u64 0, .string ⟨#[]⟩, .slice none 0 0, .slice none 0 0] 26)) := b0.trans (bD.mono (by omega))
  have sP : (((w.alloc (.cells #[.int .i64 0, .int .i64 0, .int .u64 0, .string ⟨#[]⟩, .slice none 0 0, .slice none 0 0] 26)).alloc (.cells #[.int .i64 0, .int .i64 0, .int .u64 0, .string ⟨#[]⟩, .slice none 0 0, .slice none 0 0] 26)).alloc (.cells #[.int .i64 3, .int .i64 0, .int .u64 0, .string ⟨#[]⟩, .slice none 0 0, .slice none 0 0] 26)).heap.size = w.heap.size + 3 := by simp
  clear b0 bD
  go_enter Tryd.func23, Tryd.ntmps23
  go_upto_region 5 with fail
  generalize ((w.alloc (.cells #[.int .i64 0, .int .i64 0, .int .u64 0, .string ⟨#[]⟩, .slice none 0 0, .slice none 0 0] 26)).alloc (.cells #[.int .i64 0, .int .i64 0, .int .u64 0, .string ⟨#[]⟩, .slice none 0 0, .slice none 0 0] 26)).alloc (.cells #[.int .i64 3, .int .i64 0, .int .u64 0, .string ⟨#[]⟩, .slice none 0 0, .slice none 0 0] 26) = P at *
  have k0 := hD.cell 0 _ rfl
  simp only [List.getElem_toArray, List.getElem_cons_zero] at k0
  by_cases h2 : s.size < 9
  · have g2 : (s.size : Int) < 9 := by omega
    have hu : uM (n + 1) s.data.toList = none := by
      rw [hu0, uB_4]
      exact if_pos (by omega)
    clear hu0 h2
    go_upto_region 16 with fail
    have hY := put6_blk hrb (.int .i64 0) (.int .i64 0) (.int .u64 0) (.string ⟨#[]⟩) (.slice none 0 0) (.slice none 0 0)
    have HY := hide hY
    have HF := hide (und_none (l := s.data.toList) bP hu)
    have x0 := hrb.cell 0 _ rfl
    have x1 := hrb.cell 1 _ rfl
    have x2 := hrb.cell 2 _ rfl
    have x3 := hrb.cell 3 _ rfl
    have x4 := hrb.cell 4 _ rfl
    have x5 := hrb.cell 5 _ rfl
    have z0 := Blk.froz hrb 0
    have z1 := Blk.froz hrb 1
    have z2 := Blk.froz hrb 2
    have z3 := Blk.froz hrb 3
    have z4 := Blk.froz hrb 4
    have z5 := Blk.froz hrb 5
    have q0 := hnn.cell 0 _ rfl
    have q1 := hnn.cell 1 _ rfl
    have q2 := hnn.cell 2 _ rfl
    have q3 := hnn.cell 3 _ rfl
    have q4 := hnn.cell 4 _ rfl
    have q5 := hnn.cell 5 _ rfl
    clear hY
    go_wp2
    have hY := HY.out
    have hF := HF.out
    clear HY HF x0 x1 x2 x3 x4 x5 z0 z1 z2 z3 z4 z5 q0 q1 q2 q3 q4 q5
    generalize hXX : put6 P w.heap.size (.int .i64 0) (.int .i64 0) (.int .u64 0) (.string ⟨#[]⟩) (.slice none 0 0) (.slice none 0 0) = Y at hY hF
    simp only [put6] at hXX
    rw [hXX]
    clear hXX
    exact bodyPost_ret (results_und _ hY) rfl hF
  · have g2 : ¬ (s.size : Int) < 9 := by omega
    have sl : ∀ W : World, (Instr.slice 9 (.string s) (some (.int .i64 1)) none none).run Tryd.prog W = .ok (.string (s.extract 1 s.size)) W := fun W => slice_tail s 1 1 rfl (by omega) W
    have hx : (s.extract 1 s.size).data.toList = s.data.toList.drop 1 := by rw [extL, ← lenB, List.take_length]
    have hxs : (s.extract 1 s.size).size + 1 = s.size := by rw [← lenB, hx]; exact hlr
    have HN := hide (numberD_any P (s.extract 1 s.size) (by omega))
    rw [hx] at HN
    have nb : num8 (s.data.toList.drop 1) < 18446744073709551616 := by
      have := numM_lt 8 0 (s.data.toList.drop 1, false, 0)
      rw [pow8] at this
      unfold num8
      omega
    have hu1 : uM (n + 1) s.data.toList = some (leaf (3, 0, turnB (num8 (s.data.toList.drop 1)), []), s.data.toList.drop 9) := by
      rw [hu0, uB_4]
      refine (if_neg (by omega)).trans ?_
      rw [List.drop_drop]
    generalize num8 (s.data.toList.drop 1) = m8 at *
    generalize s.extract 1 s.size = s1 at *
    obtain ⟨ff, hff⟩ : ∃ ff : Nat, ff = turnB m8 := ⟨_, rfl⟩
    have hu : uM (n + 1) s.data.toList = some (leaf (3, 0, ff, []), s.data.toList.drop 9) := by rw [hu1, hff]
    have hfl : ff < 18446744073709551616 := by rw [hff]; exact turnB_lt nb
    have hfe : 18446744073709551615 - (m8 : Int) = (ff : Int) := by rw [hff]; unfold turnB; rw [if_pos (by omega)]; omega
    have hge : ¬ (m8 : Int) ≥ 9223372036854775808 := by omega
    have AR := hide (And.intro hlr (And.intro nb (And.intro sP (And.intro hs hfl))))
    have fI : (ff : Int) ≤ 18446744073709551615 := by omega
    clear hu1 hff hx8 hlr nb sP hs hi hfl
    generalize (m8 : Int) = M8 at HN hfe hge
    have q1 := hD.cell 2 _ rfl
    have z1 := Blk.froz hD 2
    clear hu0 h2 hx hxs
    go_upto_region 23 with (go_at_call 46; refine (unhide HN).mono ?_; rintro e w3 ⟨rfl, h3⟩; rw [h3]; clear h3)
    obtain ⟨hlr, nb, sP, hs, hfl⟩ := AR.out
    have hD5 : Blk (P.setCell ⟨w.heap.size + 2, 2, none⟩ (.int .u64 (ff : Int))) (w.heap.size + 2) #[.int .i64 3, .int .i64 0, .int .u64 (ff : Int), .string ⟨#[]⟩, .slice none 0 0, .slice none 0 0] 26 := hD.set 2 (.int .u64 (ff : Int))
    have hrb5 := hrb.set_other ⟨w.heap.size + 2, 2, none⟩ (.int .u64 (ff : Int)) (by show w.heap.size ≠ w.heap.size + 2; omega)
    have bP5 := bP.setCell (p := ⟨w.heap.size + 2, 2, none⟩) (by show w.heap.size ≤ w.heap.size + 2; omega) (.int .u64 (ff : Int))
    clear hD hrb bP k0 q1 z1 hnn sP HN
    generalize P.setCell ⟨w.heap.size + 2, 2, none⟩ (.int .u64 (ff : Int)) = X at *
    have hY := put6_blk hrb5 (.int .i64 3) (.int .i64 0) (.int .u64 (ff : Int)) (.string ⟨#[]⟩) (.slice none 0 0) (.slice none 0 0)
    have HY := hide hY
    have HF := hide (und_fin (l := s.data.toList) (m := 9) (b := ff) (vlies_leaf _ _ X 3 0 ff ⟨#[]⟩ (by decide) (by decide) hfl (Nat.zero_le _)) bP5 ⟨by omega, by rw [lenB]; omega⟩ hu 9 rfl)
    have x0 := hrb5.cell 0 _ rfl
    have x1 := hrb5.cell 1 _ rfl
    have x2 := hrb5.cell 2 _ rfl
    have x3 := hrb5.cell 3 _ rfl
    have x4 := hrb5.cell 4 _ rfl
    have x5 := hrb5.cell 5 _ rfl
    have z0 := Blk.froz hrb5 0
    have z1 := Blk.froz hrb5 1
    have z2 := Blk.froz hrb5 2
    have z3 := Blk.froz hrb5 3
    have z4 := Blk.froz hrb5 4
    have z5 := Blk.froz hrb5 5
    have q0 := hD5.cell 0 _ rfl
    have q1 := hD5.cell 1 _ rfl
    have q2 := hD5.cell 2 _ rfl
    have q3 := hD5.cell 3 _ rfl
    have q4 := hD5.cell 4 _ rfl
    have q5 := hD5.cell 5 _ rfl
    clear hY
    go_wp2
    have hY := HY.out
    have hF := HF.out
    clear HY HF x0 x1 x2 x3 x4 x5 z0 z1 z2 z3 z4 z5 q0 q1 q2 q3 q4 q5
    generalize hXX : put6 X w.heap.size (.int .i64 3) (.int .i64 0) (.int .u64 (ff : Int)) (.string ⟨#[]⟩) (.slice none 0 0) (.slice none 0 0) = Y at hY hF
    simp only [put6] at hXX
    rw [hXX]
    clear hXX
    exact bodyPost_ret (results_und _ hY) rfl hF
end Go.Proofs.YtdpoiagnjdajbaaDoor.valus
/- The document's unpacked. -/
set_option linter.unusedVariables false
namespace Go.Proofs.YtdpoiagnjdajbaaDoor.valus
open Go.RowKit Go.Shelf
set_option maxHeartbeats 8000000 in
set_option maxRecDepth 100000 in
theorem und5 (w : World) (s : ByteArray) (hs : s.size ≤ 2000000) (n i : Nat) (hi : i ≤ 1000) (h0 : 0 < s.size) (hc : s[0]'h0 = 5) :
    Calls Tryd.prog 23 #[.string s, .int .i64 (i : Int)] w (UndPost (n + 1) w s.data.toList) := by
  obtain ⟨e1, e2⟩ := notEmpty h0
  have hi' : ¬ (i : Int) > 1000 := by omega
  have hcI : ((s[0]'h0).toNat : Int) = 5 := by rw [hc]; rfl
  have hu0 : uM (n + 1) s.data.toList = uB (uM n) 5 (s.data.toList.drop 1) := uM_cons (by rw [lenB]; exact h0) hc
  have hlr : (s.data.toList.drop 1).length + 1 = s.size := by rw [List.length_drop, lenB]; omega
  have b0 : Below w.heap.size w ((w.alloc (.cells #[.int .i64 0, .int .i64 0, .int .u64 0, .string ⟨#[]⟩, .slice none 0 0, .slice none 0 0] 26)).alloc (.cells #[.int .i64 0, .int .i64 0, .int .u64 0, .string ⟨#[]⟩, .slice none 0 0, .slice none 0 0] 26)) := begD_below w
  have bD : Below (w.heap.size + 2) ((w.alloc (.cells #[.int .i64 0, .int .i64 0, .int .u64 0, .string ⟨#[]⟩, .slice none 0 0, .slice none 0 0] 26)).alloc (.cells #[.int .i64 0, .int .i64 0, .int .u64 0, .string ⟨#[]⟩, .slice none 0 0, .slice none 0 0] 26)) (((w.alloc (.cells #[.int .i64 0, .int .i64 0, .int .u64 0, .string ⟨#[]⟩, .slice none 0 0, .slice none 0 0] 26)).alloc (.cells #[.int .i64 0, .int .i64 0, .int .u64 0, .string ⟨#[]⟩, .slice none 0 0, .slice none 0 0] 26)).alloc (.cells #[.int .i64 4, .int .i64 0, .int .u64 0, .string ⟨#[]⟩, .slice none 0 0, .slice none 0 0] 26)) := (Below.refl _ _).alloc (by simp) _
  have hD : Blk (((w.alloc (.cells #[.int .i64 0, .int .i64 0, .int .u64 0, .string ⟨#[]⟩, .slice none 0 0, .slice none 0 0] 26)).alloc (.cells #[.int .i64 0, .int .i64 0, .int .u64 0, .string ⟨#[]⟩, .slice none 0 0, .slice none 0 0] 26)).alloc (.cells #[.int .i64 4, .int .i64 0, .int .u64 0, .string ⟨#[]⟩, .slice none 0 0, .slice none 0 0] 26)) (w.heap.size + 2) #[.int .i64 4, .int .i64 0, .int .u64 0, .string ⟨#[]⟩, .slice none 0 0, .slice none 0 0] 26 := by
    have h := blk_alloc ((w.alloc (.cells #[.int .i64 0, .int .i64 0, .int .u64 0, .string ⟨#[]⟩, .slice none 0 0, .slice none 0 0] 26)).alloc (.cells #[.int .i64 0, .int .i64 0, .int .u64 0, .string ⟨#[]⟩, .slice none 0 0, .slice none 0 0] 26)) #[.int .i64 4, .int .i64 0, .int .u64 0, .string ⟨#[]⟩, .slice none 0 0, .slice none 0 0] 26
    rwa [World.size_alloc, World.size_alloc] at h
  have hrb : Blk (((w.alloc (.cells #[.int .i64 0, .int .i64 0, .int .u64 0, .string ⟨#[]⟩, .slice none 0 0, .slice none 0 0] 26)).alloc (.cells #[.int .i64 0, .int .i64 0, .int .u64 0, .string ⟨#[]⟩, .slice none 0 0, .slice none 0 0] 26)).alloc (.cells #[.int .i64 4, .int .i64 0, .int .u64 0, .string ⟨#[]⟩, .slice none 0 0, .slice none 0 0] 26)) w.heap.size #[.int .i64 0, .int .i64 0, .int .u64 0, .string ⟨#[]⟩, .slice none 0 0, .slice none 0 0] 26 := (bD.block _ (by omega)).trans (begD_res w)
  have hnn : Blk (((w.alloc (.cells #[.int .i64 0, .int .i64 0, .int .u64 0, .string ⟨#[]⟩, .slice none 0 0, .slice none 0 0] 26)).alloc (.cells #[.int .i64 0, .int .i64 0, .int .u64 0, .string ⟨#[]⟩, .slice none 0 0, .slice none 0 0] 26)).alloc (.cells #[.int .i64 4, .int .i64 0, .int .u64 0, .string ⟨#[]⟩, .slice none 0 0, .slice none 0 0] 26)) (w.heap.size + 1) #[.int .i64 0, .int .i64 0, .int .u64 0, .string ⟨#[]⟩, .slice none 0 0, .slice none 0 0] 26 := (bD.block _ (by omega)).trans (begD_none w)
  have bP : Below w.heap.size w (((w.alloc (.cells #[.int .i64 0, .int .i64 0, .int .u64 0, .string ⟨#[]⟩, .slice none 0 0, .slice none 0 0] 26)).alloc (.cells #[.int .i64 0, .int .i64 0, .int .u64 0, .string ⟨#[]⟩, .slice none 0 0, .slice none 0 0] 26)).alloc (.cells #[.int .i64 4, .int .i64 0, .int .u64 0, .string ⟨#[]⟩, .slice none 0 0, .slice none 0 0] 26)) := b0.trans (bD.mono (by omega))
  have sP : (((w.alloc (.cells #[.int .i64 0, .int .i64 0, .int .u64 0, .string ⟨#[]⟩, .slice none 0 0, .slice none 0 0] 26)).alloc (.cells #[.int .i64 0, .int .i64 0, .int .u64 0, .string ⟨#[]⟩, .slice none 0 0, .slice none 0 0] 26)).alloc (.cells #[.int .i64 4, .int .i64 0, .int .u64 0, .string ⟨#[]⟩, .slice none 0 0, .slice none 0 0] 26)).heap.size = w.heap.size + 3 := by simp
  clear b0 bD
  go_enter Tryd.func23, Tryd.ntmps23
  go_upto_region 5 with fail
  generalize ((w.alloc (.cells #[.int .i64 0, .int .i64 0, .int .u64 0, .string ⟨#[]⟩, .slice none 0 0, .slice none 0 0] 26)).alloc (.cells #[.int .i64 0, .int .i64 0, .int .u64 0, .string ⟨#[]⟩, .slice none 0 0, .slice none 0 0] 26)).alloc (.cells #[.int .i64 4, .int .i64 0, .int .u64 0, .string ⟨#[]⟩, .slice none 0 0, .slice none 0 0] 26) = P at *
  have k0 := hD.cell 0 _ rfl
  simp only [List.getElem_toArray, List.getElem_cons_zero] at k0
  have sl : ∀ W : World, (Instr.slice 9 (.string s) (some (.int .i64 1)) none none).run Tryd.prog W = .ok (.string (s.extract 1 s.size)) W := fun W => slice_tail s 1 1 rfl (by omega) W
  have hx : (s.extract 1 s.size).data.toList = s.data.toList.drop 1 := by rw [extL, ← lenB, List.take_length]
  have hxs : (s.extract 1 s.size).size + 1 = s.size := by rw [← lenB, hx]; exact hlr
  have HN := hide (unchD_any P (s.extract 1 s.size) (by omega))
  rw [hx] at HN
  rw [uB_5] at hu0
  have q3 := hD.cell 3 _ rfl
  have z3' := Blk.froz hD 3
  have HU := hide hu0
  clear hu0 hx
  generalize s.extract 1 s.size = s1 at *
  go_upto_region 26 with (go_at_call 47; refine (unhide HN).mono ?_; rintro e w3 ⟨⟨tt, mm, rfl, hres⟩, h3⟩; rw [h3]; clear h3)
  rcases hres with ⟨r1, rfl, rfl⟩ | ⟨r1, r2, r3⟩
  · have hu : uM (n + 1) s.data.toList = none := by rw [HU.out, r1]; rfl
    simp only [Int.natCast_zero]
    clear r1
    go_upto_region 27 with fail
    have hY := put6_blk hrb (.int .i64 0) (.int .i64 0) (.int .u64 0) (.string ⟨#[]⟩) (.slice none 0 0) (.slice none 0 0)
    have HY := hide hY
    have HF := hide (und_none (l := s.data.toList) bP hu)
    have x0 := hrb.cell 0 _ rfl
    have x1 := hrb.cell 1 _ rfl
    have x2 := hrb.cell 2 _ rfl
    have x3 := hrb.cell 3 _ rfl
    have x4 := hrb.cell 4 _ rfl
    have x5 := hrb.cell 5 _ rfl
    have z0 := Blk.froz hrb 0
    have z1 := Blk.froz hrb 1
    have z2 := Blk.froz hrb 2
    have z3 := Blk.froz hrb 3
    have z4 := Blk.froz hrb 4
    have z5 := Blk.froz hrb 5
    have q0 := hnn.cell 0 _ rfl
    have q1 := hnn.cell 1 _ rfl
    have q2 := hnn.cell 2 _ rfl
    have q3 := hnn.cell 3 _ rfl
    have q4 := hnn.cell 4 _ rfl
    have q5 := hnn.cell 5 _ rfl
    clear hY
    go_wp2
    have hY := HY.out
    have hF := HF.out
    clear HY HF x0 x1 x2 x3 x4 x5 z0 z1 z2 z3 z4 z5 q0 q1 q2 q3 q4 q5
    generalize hXX : put6 P w.heap.size (.int .i64 0) (.int .i64 0) (.int .u64 0) (.string ⟨#[]⟩) (.slice none 0 0) (.slice none 0 0) = Y at hY hF
    simp only [put6] at hXX
    rw [hXX]
    clear hXX
    exact bodyPost_ret (results_und _ hY) rfl hF
  · have hu : uM (n + 1) s.data.toList = some (leaf (4, 0, 0, tt.data.toList), s.data.toList.drop (mm + 1)) := by
      rw [HU.out, r3]
      show some (leaf (4, 0, 0, tt.data.toList), (s.data.toList.drop 1).drop mm) = _
      rw [List.drop_drop, Nat.add_comm]
    have g1 : ¬ (mm : Int) = 0 := by omega
    have g2 : ((mm : Int) == 0) = false := beq_false_of_ne g1
    have g3 : (mm : Int) + 1 ≤ 9223372036854775807 := by omega
    have htt : tt.size ≤ maxLen := by
      have h1 := unch_len r3
      rw [lenB] at h1
      unfold maxLen
      omega
    have HTT := hide htt
    have HM : Hid (1 ≤ mm + 1 ∧ mm + 1 ≤ s.data.toList.length) := hide ⟨by omega, by rw [lenB]; omega⟩
    clear r1 r2 r3 htt
    go_upto_region 29 with fail
    have hD5 : Blk (P.setCell ⟨w.heap.size + 2, 3, none⟩ (.string tt)) (w.heap.size + 2) #[.int .i64 4, .int .i64 0, .int .u64 0, .string tt, .slice none 0 0, .slice none 0 0] 26 := hD.set 3 (.string tt)
    have hrb5 := hrb.set_other ⟨w.heap.size + 2, 3, none⟩ (.string tt) (by show w.heap.size ≠ w.heap.size + 2; omega)
    have bP5 := bP.setCell (p := ⟨w.heap.size + 2, 3, none⟩) (by show w.heap.size ≤ w.heap.size + 2; omega) (.string tt)
    clear hD hrb bP k0 q3 z3' hnn sP HN HU
    generalize P.setCell ⟨w.heap.size + 2, 3, none⟩ (.string tt) = X at *
    have hY := put6_blk hrb5 (.int .i64 4) (.int .i64 0) (.int .u64 0) (.string tt) (.slice none 0 0) (.slice none 0 0)
    have HY := hide hY
    have HF := hide (und_fin (l := s.data.toList) (m := mm + 1) (b := 0) (vlies_leaf _ _ X 4 0 0 tt (by decide) (by decide) (by decide) HTT.out) bP5 HM.out hu ((mm : Int) + 1) (by omega))
    have x0 := hrb5.cell 0 _ rfl
    have x1 := hrb5.cell 1 _ rfl
    have x2 := hrb5.cell 2 _ rfl
    have x3 := hrb5.cell 3 _ rfl
    have x4 := hrb5.cell 4 _ rfl
    have x5 := hrb5.cell 5 _ rfl
    have z0 := Blk.froz hrb5 0
    have z1 := Blk.froz hrb5 1
    have z2 := Blk.froz hrb5 2
    have z3 := Blk.froz hrb5 3
    have z4 := Blk.froz hrb5 4
    have z5 := Blk.froz hrb5 5
    have q0 := hD5.cell 0 _ rfl
    have q1 := hD5.cell 1 _ rfl
    have q2 := hD5.cell 2 _ rfl
    have q3 := hD5.cell 3 _ rfl
    have q4 := hD5.cell 4 _ rfl
    have q5 := hD5.cell 5 _ rfl
    clear hY
    go_wp2
    have hY := HY.out
    have hF := HF.out
    clear HY HF x0 x1 x2 x3 x4 x5 z0 z1 z2 z3 z4 z5 q0 q1 q2 q3 q4 q5
    generalize hXX : put6 X w.heap.size (.int .i64 4) (.int .i64 0) (.int .u64 0) (.string tt) (.slice none 0 0) (.slice none 0 0) = Y at hY hF
    simp only [put6] at hXX
    rw [hXX]
    clear hXX
    exact bodyPost_ret (results_und _ hY) rfl hF
end Go.Proofs.YtdpoiagnjdajbaaDoor.valus
/- How memory stands while the document reads a list or a table. -/
set_option linter.unusedVariables false
namespace Go.Proofs.YtdpoiagnjdajbaaDoor.valus
open Go.RowKit Go.Shelf
/-- How memory stands when so much was read. -/
structure DL (w wr : World) (n : Nat) (acc : List V) (p : Option Addr) (cp : Nat) : Prop where
  d : Blk wr (w.heap.size + 2) #[.int .i64 5, .int .i64 0, .int .u64 0, .string ⟨#[]⟩, .slice p acc.length cp, .slice none 0 0] 26
  o : OwnR 26 6 (QV n) (w.heap.size + 3) wr (.slice p acc.length cp) acc
  r : Blk wr w.heap.size #[.int .i64 0, .int .i64 0, .int .u64 0, .string ⟨#[]⟩, .slice none 0 0, .slice none 0 0] 26
  n0 : Blk wr (w.heap.size + 1) #[.int .i64 0, .int .i64 0, .int .u64 0, .string ⟨#[]⟩, .slice none 0 0, .slice none 0 0] 26
  b : Below w.heap.size w wr
  s : w.heap.size + 3 ≤ wr.heap.size
theorem DL.later {w wr w2 : World} {n : Nat} {acc : List V} {p : Option Addr} {cp : Nat} (h : DL w wr n acc p cp) (hb : Below wr.heap.size wr w2) : DL w w2 n acc p cp :=
  ⟨h.d.below hb, h.o.only (QV_kept n) (R := w.heap.size) (by omega) (only_of_below hb), h.r.below hb, h.n0.below hb, h.b.trans (hb.mono h.b.size), Nat.le_trans h.s hb.size⟩
theorem DL.value {w wr : World} {n : Nat} {acc : List V} {p : Option Addr} {cp : Nat} (h : DL w wr n acc p cp) : LiesV (fun q => w.heap.size + 2 ≤ q ∧ q < wr.heap.size) (n + 1) wr [.int .i64 5, .int .i64 0, .int .u64 ((0 : Nat) : Int), .string ⟨#[]⟩, .slice p acc.length cp, .slice none 0 0] (mkV (5, 0, 0, []) acc []) := by
  obtain ⟨p', cp', e, hc1, hc2, hrow⟩ := h.o.row (QV_kept n)
  injection e with e1 e2 e3
  subst e1
  subst e3
  refine ⟨5, 0, 0, ⟨#[]⟩, acc, [], p, none, cp, 0, rfl, rfl, ⟨by decide, by decide, by decide, Nat.zero_le _⟩, ⟨hc1, hc2, Nat.le_refl _, Nat.zero_le _⟩, fun hn => ?_, fun h => absurd h (by simp)⟩
  obtain ⟨g, o, e1, e2, e3, e4⟩ := hrow hn
  refine ⟨g, o, e1, ⟨by omega, e2.2⟩, e3, fun j hj => ?_⟩
  obtain ⟨us, u1, u2, y, y1, y2⟩ := e4 j hj
  exact ⟨us, u1, u2, y, y1, LiesV.kept (fun q hq => ⟨by omega, hq.2⟩) (Nat.le_refl _) (fun _ _ _ => rfl) y2⟩
theorem DL.push {w wr w2 : World} {n : Nat} {acc : List V} {p : Option Addr} {cp : Nat} (h0 : DL w wr n acc p cp) (hb : Below wr.heap.size wr w2) (k nn : Int) (b : Nat) (z : ByteArray) (pL : Option Addr) (nL cL : Nat) (pE : Option Addr) (nE cE : Nat) (y : V) (hl : LiesV (fun b => wr.heap.size ≤ b ∧ b < w2.heap.size) n w2 [.int .i64 k, .int .i64 nn, .int .u64 (b : Int), .string z, .slice pL nL cL, .slice pE nE cE] y) (hal : acc.length ≤ 3000000) :
    ∃ (p' : Option Addr) (cp' : Nat) (W' : World), (Builtin.append_ #[23, 23] 23 #[.slice p acc.length cp, .slice (some ⟨w2.heap.size + 1, 0, none⟩) 1 1]).run Tryd.prog ((w2.alloc (.cells #[.int .i64 k, .int .i64 nn, .int .u64 (b : Int), .string z, .slice pL nL cL, .slice pE nE cE] 26)).alloc (.cells #[.int .i64 k, .int .i64 nn, .int .u64 (b : Int), .string z, .slice pL nL cL, .slice pE nE cE] 26)) = .ok (.slice p' (acc.length + 1) cp') W' ∧
      Blk W' (w.heap.size + 2) #[.int .i64 5, .int .i64 0, .int .u64 0, .string ⟨#[]⟩, .slice p acc.length cp, .slice none 0 0] 26 ∧ DL w (W'.setCell ⟨w.heap.size + 2, 4, none⟩ (.slice p' (acc.length + 1) cp')) n (acc ++ [y]) p' cp' := by
  obtain ⟨i0, hi, hz0, hz1, hz2⟩ := info_parts infoVal
  have h2 := h0.o
  have bA : Below w2.heap.size w2 (w2.alloc (.cells #[.int .i64 k, .int .i64 nn, .int .u64 (b : Int), .string z, .slice pL nL cL, .slice pE nE cE] 26)) := (Below.refl _ w2).alloc (Nat.le_refl _) _
  have hA := (h0.later hb).later bA
  have s0 := h0.s
  have s1 := hb.size
  have hq : QV n (okR (w.heap.size + 3) (w2.alloc (.cells #[.int .i64 k, .int .i64 nn, .int .u64 (b : Int), .string z, .slice pL nL cL, .slice pE nE cE] 26)) (.slice p acc.length cp)) (w2.alloc (.cells #[.int .i64 k, .int .i64 nn, .int .u64 (b : Int), .string z, .slice pL nL cL, .slice pE nE cE] 26)) [.int .i64 k, .int .i64 nn, .int .u64 (b : Int), .string z, .slice pL nL cL, .slice pE nE cE] y := LiesV.kept (fun b hb => ⟨by have := hb.1; omega, by have := hb.2; simp; omega, fun e => by have := (h2.lt b e.symm).2; have := hb.1; omega⟩) bA.size (fun b _ hlt' => bA.block b hlt') hl
  obtain ⟨v', W', hrun, hO', hg⟩ := OwnR.push (tS := 23) (QV_kept n) Tryd.underlying23 hi hz0 hz1 hz2 rfl (by decide) (by decide) hA.o hA.s [.int .i64 k, .int .i64 nn, .int .u64 (b : Int), .string z, .slice pL nL cL, .slice pE nE cE] y rfl hl.ones' hq (by omega) 23
  rw [World.size_alloc] at hrun
  have hv := fun g hg' => (hA.o.lt g hg').1
  have hbl : ∀ q, q < w.heap.size + 3 → W'.heap[q]? = (w2.alloc (.cells #[.int .i64 k, .int .i64 nn, .int .u64 (b : Int), .string z, .slice pL nL cL, .slice pE nE cE] 26)).heap[q]? := fun q hq' => (hg.block (by have := hA.s; omega) (fun e => by have := hv q e.symm; omega)).1
  obtain ⟨p', cp', rfl, _, _, _⟩ := hO'.row (QV_kept n)
  have hlen : (acc ++ [y]).length = acc.length + 1 := by simp
  rw [hlen] at hrun hO'
  have hd : Blk W' (w.heap.size + 2) #[.int .i64 5, .int .i64 0, .int .u64 0, .string ⟨#[]⟩, .slice p acc.length cp, .slice none 0 0] 26 := (hbl _ (by omega)).trans hA.d
  have hsz := hg.by'.size
  have hsA := hA.s
  refine ⟨p', cp', W', hrun, hd, ?_, ?_, ?_, ?_, ?_, ?_⟩
  · rw [hlen]
    exact hd.set 4 (.slice p' (acc.length + 1) cp')
  · rw [hlen]
    exact hO'.only (QV_kept n) (by omega) (only_set (w.heap.size + 2) W' 4 (.slice p' (acc.length + 1) cp'))
  · exact Blk.set_other (((hbl _ (by omega)).trans hA.r : Blk W' _ _ _)) ⟨w.heap.size + 2, 4, none⟩ _ (by show w.heap.size ≠ w.heap.size + 2; omega)
  · exact Blk.set_other (((hbl _ (by omega)).trans hA.n0 : Blk W' _ _ _)) ⟨w.heap.size + 2, 4, none⟩ _ (by show w.heap.size + 1 ≠ w.heap.size + 2; omega)
  · have b1 : Below w.heap.size (w2.alloc (.cells #[.int .i64 k, .int .i64 nn, .int .u64 (b : Int), .string z, .slice pL nL cL, .slice pE nE cE] 26)) W' := ⟨hg.by'.os, hg.by'.tape, hg.by'.output, hsz, fun q hq' => hbl q (by omega)⟩
    exact (hA.b.trans b1).setCell (p := ⟨w.heap.size + 2, 4, none⟩) (by show w.heap.size ≤ w.heap.size + 2; omega) _
  · simp only [World.setCell, Array.size_modify]
    omega
/-- How memory stands when so much was read. -/
structure DT (w wr : World) (n : Nat) (acc : List V) (p : Option Addr) (cp : Nat) : Prop where
  d : Blk wr (w.heap.size + 2) #[.int .i64 6, .int .i64 0, .int .u64 0, .string ⟨#[]⟩, .slice none 0 0, .slice p acc.length cp] 26
  o : OwnR 54 7 (QE n) (w.heap.size + 3) wr (.slice p acc.length cp) acc
  r : Blk wr w.heap.size #[.int .i64 0, .int .i64 0, .int .u64 0, .string ⟨#[]⟩, .slice none 0 0, .slice none 0 0] 26
  n0 : Blk wr (w.heap.size + 1) #[.int .i64 0, .int .i64 0, .int .u64 0, .string ⟨#[]⟩, .slice none 0 0, .slice none 0 0] 26
  b : Below w.heap.size w wr
  s : w.heap.size + 3 ≤ wr.heap.size
theorem DT.later {w wr w2 : World} {n : Nat} {acc : List V} {p : Option Addr} {cp : Nat} (h : DT w wr n acc p cp) (hb : Below wr.heap.size wr w2) : DT w w2 n acc p cp :=
  ⟨h.d.below hb, h.o.only (QE_kept n) (R := w.heap.size) (by omega) (only_of_below hb), h.r.below hb, h.n0.below hb, h.b.trans (hb.mono h.b.size), Nat.le_trans h.s hb.size⟩
theorem DT.value {w wr : World} {n : Nat} {acc : List V} {p : Option Addr} {cp : Nat} (h : DT w wr n acc p cp) : LiesV (fun q => w.heap.size + 2 ≤ q ∧ q < wr.heap.size) (n + 1) wr [.int .i64 6, .int .i64 0, .int .u64 ((0 : Nat) : Int), .string ⟨#[]⟩, .slice none 0 0, .slice p acc.length cp] (mkV (6, 0, 0, []) [] acc) := by
  obtain ⟨p', cp', e, hc1, hc2, hrow⟩ := h.o.row (QE_kept n)
  injection e with e1 e2 e3
  subst e1
  subst e3
  refine ⟨6, 0, 0, ⟨#[]⟩, [], acc, none, p, 0, cp, rfl, rfl, ⟨by decide, by decide, by decide, Nat.zero_le _⟩, ⟨Nat.le_refl _, Nat.zero_le _, hc1, hc2⟩, fun h => absurd h (by simp), fun hn => ?_⟩
  obtain ⟨g, o, e1, e2, e3, e4⟩ := hrow hn
  refine ⟨g, o, e1, ⟨by omega, e2.2⟩, e3, fun j hj => ?_⟩
  obtain ⟨us, u1, u2, y, y1, key, y', xs, q1, q2, q3, q4⟩ := e4 j hj
  exact ⟨us, u1, u2, key, y', xs, by rw [y1, q1], q2, q3, q4.kept (fun q hq => ⟨by omega, hq.2⟩) (Nat.le_refl _) (fun _ _ _ => rfl)⟩
theorem DT.push {w wr w2 : World} {n : Nat} {acc : List V} {p : Option Addr} {cp : Nat} (h0 : DT w wr n acc p cp) (hb : Below wr.heap.size wr w2) (key : ByteArray) (k nn : Int) (b : Nat) (z : ByteArray) (pL : Option Addr) (nL cL : Nat) (pE : Option Addr) (nE cE : Nat) (y : V) (hkey : key.size ≤ maxLen) (hl : LiesV (fun b => wr.heap.size ≤ b ∧ b < w2.heap.size) n w2 [.int .i64 k, .int .i64 nn, .int .u64 (b : Int), .string z, .slice pL nL cL, .slice pE nE cE] y) (hal : acc.length ≤ 3000000) :
    ∃ (p' : Option Addr) (cp' : Nat) (W' : World), (Builtin.append_ #[24, 24] 24 #[.slice p acc.length cp, .slice (some ⟨w2.heap.size + 1, 0, none⟩) 1 1]).run Tryd.prog ((w2.alloc (.cells #[.int .i64 k, .int .i64 nn, .int .u64 (b : Int), .string z, .slice pL nL cL, .slice pE nE cE] 26)).alloc (.cells #[.string key, .int .i64 k, .int .i64 nn, .int .u64 (b : Int), .string z, .slice pL nL cL, .slice pE nE cE] 54)) = .ok (.slice p' (acc.length + 1) cp') W' ∧
      Blk W' (w.heap.size + 2) #[.int .i64 6, .int .i64 0, .int .u64 0, .string ⟨#[]⟩, .slice none 0 0, .slice p acc.length cp] 26 ∧ DT w (W'.setCell ⟨w.heap.size + 2, 5, none⟩ (.slice p' (acc.length + 1) cp')) n (acc ++ [(ent key.data.toList y)]) p' cp' := by
  obtain ⟨i0, hi, hz0, hz1, hz2⟩ := info_parts infoEn
  have h2 := h0.o
  have bA : Below w2.heap.size w2 (w2.alloc (.cells #[.int .i64 k, .int .i64 nn, .int .u64 (b : Int), .string z, .slice pL nL cL, .slice pE nE cE] 26)) := (Below.refl _ w2).alloc (Nat.le_refl _) _
  have hA := (h0.later hb).later bA
  have s0 := h0.s
  have s1 := hb.size
  have hq : QE n (okR (w.heap.size + 3) (w2.alloc (.cells #[.int .i64 k, .int .i64 nn, .int .u64 (b : Int), .string z, .slice pL nL cL, .slice pE nE cE] 26)) (.slice p acc.length cp)) (w2.alloc (.cells #[.int .i64 k, .int .i64 nn, .int .u64 (b : Int), .string z, .slice pL nL cL, .slice pE nE cE] 26)) [.string key, .int .i64 k, .int .i64 nn, .int .u64 (b : Int), .string z, .slice pL nL cL, .slice pE nE cE] (ent key.data.toList y) := ⟨key, y, _, rfl, rfl, hkey, LiesV.kept (fun b hb => ⟨by have := hb.1; omega, by have := hb.2; simp; omega, fun e => by have := (h2.lt b e.symm).2; have := hb.1; omega⟩) bA.size (fun b _ hlt' => bA.block b hlt') hl⟩
  obtain ⟨v', W', hrun, hO', hg⟩ := OwnR.push (tS := 24) (QE_kept n) Tryd.underlying24 hi hz0 hz1 hz2 rfl (by decide) (by decide) hA.o hA.s [.string key, .int .i64 k, .int .i64 nn, .int .u64 (b : Int), .string z, .slice pL nL cL, .slice pE nE cE] (ent key.data.toList y) rfl hq.ones hq (by omega) 24
  rw [World.size_alloc] at hrun
  have hv := fun g hg' => (hA.o.lt g hg').1
  have hbl : ∀ q, q < w.heap.size + 3 → W'.heap[q]? = (w2.alloc (.cells #[.int .i64 k, .int .i64 nn, .int .u64 (b : Int), .string z, .slice pL nL cL, .slice pE nE cE] 26)).heap[q]? := fun q hq' => (hg.block (by have := hA.s; omega) (fun e => by have := hv q e.symm; omega)).1
  obtain ⟨p', cp', rfl, _, _, _⟩ := hO'.row (QE_kept n)
  have hlen : (acc ++ [(ent key.data.toList y)]).length = acc.length + 1 := by simp
  rw [hlen] at hrun hO'
  have hd : Blk W' (w.heap.size + 2) #[.int .i64 6, .int .i64 0, .int .u64 0, .string ⟨#[]⟩, .slice none 0 0, .slice p acc.length cp] 26 := (hbl _ (by omega)).trans hA.d
  have hsz := hg.by'.size
  have hsA := hA.s
  refine ⟨p', cp', W', hrun, hd, ?_, ?_, ?_, ?_, ?_, ?_⟩
  · rw [hlen]
    exact hd.set 5 (.slice p' (acc.length + 1) cp')
  · rw [hlen]
    exact hO'.only (QE_kept n) (by omega) (only_set (w.heap.size + 2) W' 5 (.slice p' (acc.length + 1) cp'))
  · exact Blk.set_other (((hbl _ (by omega)).trans hA.r : Blk W' _ _ _)) ⟨w.heap.size + 2, 5, none⟩ _ (by show w.heap.size ≠ w.heap.size + 2; omega)
  · exact Blk.set_other (((hbl _ (by omega)).trans hA.n0 : Blk W' _ _ _)) ⟨w.heap.size + 2, 5, none⟩ _ (by show w.heap.size + 1 ≠ w.heap.size + 2; omega)
  · have b1 : Below w.heap.size (w2.alloc (.cells #[.int .i64 k, .int .i64 nn, .int .u64 (b : Int), .string z, .slice pL nL cL, .slice pE nE cE] 26)) W' := ⟨hg.by'.os, hg.by'.tape, hg.by'.output, hsz, fun q hq' => hbl q (by omega)⟩
    exact (hA.b.trans b1).setCell (p := ⟨w.heap.size + 2, 5, none⟩) (by show w.heap.size ≤ w.heap.size + 2; omega) _
  · simp only [World.setCell, Array.size_modify]
    omega
end Go.Proofs.YtdpoiagnjdajbaaDoor.valus
/- The document's unpacked. -/
set_option linter.unusedVariables false
namespace Go.Proofs.YtdpoiagnjdajbaaDoor.valus
open Go.RowKit Go.Shelf
set_option maxHeartbeats 8000000 in
set_option maxRecDepth 100000 in
theorem und6 (w : World) (s : ByteArray) (hs : s.size ≤ 2000000) (n i : Nat) (hi : i ≤ 1000) (h0 : 0 < s.size) (hc : s[0]'h0 = 6) (ih : ReadU n ((i : Int) + 1)) :
    Calls Tryd.prog 23 #[.string s, .int .i64 (i : Int)] w (UndPost (n + 1) w s.data.toList) := by
  obtain ⟨e1, e2⟩ := notEmpty h0
  have hi' : ¬ (i : Int) > 1000 := by omega
  have hcI : ((s[0]'h0).toNat : Int) = 6 := by rw [hc]; rfl
  have hu0 : uM (n + 1) s.data.toList = uB (uM n) 6 (s.data.toList.drop 1) := uM_cons (by rw [lenB]; exact h0) hc
  have hlr : (s.data.toList.drop 1).length + 1 = s.size := by rw [List.length_drop, lenB]; omega
  have b0 : Below w.heap.size w ((w.alloc (.cells #[.int .i64 0, .int .i64 0, .int .u64 0, .string ⟨#[]⟩, .slice none 0 0, .slice none 0 0] 26)).alloc (.cells #[.int .i64 0, .int .i64 0, .int .u64 0, .string ⟨#[]⟩, .slice none 0 0, .slice none 0 0] 26)) := begD_below w
  have bD : Below (w.heap.size + 2) ((w.alloc (.cells #[.int .i64 0, .int .i64 0, .int .u64 0, .string ⟨#[]⟩, .slice none 0 0, .slice none 0 0] 26)).alloc (.cells #[.int .i64 0, .int .i64 0, .int .u64 0, .string ⟨#[]⟩, .slice none 0 0, .slice none 0 0] 26)) (((w.alloc (.cells #[.int .i64 0, .int .i64 0, .int .u64 0, .string ⟨#[]⟩, .slice none 0 0, .slice none 0 0] 26)).alloc (.cells #[.int .i64 0, .int .i64 0, .int .u64 0, .string ⟨#[]⟩, .slice none 0 0, .slice none 0 0] 26)).alloc (.cells #[.int .i64 5, .int .i64 0, .int .u64 0, .string ⟨#[]⟩, .slice none 0 0, .slice none 0 0] 26)) := (Below.refl _ _).alloc (by simp) _
  have hD : Blk (((w.alloc (.cells #[.int .i64 0, .int .i64 0, .int .u64 0, .string ⟨#[]⟩, .slice none 0 0, .slice none 0 0] 26)).alloc (.cells #[.int .i64 0, .int .i64 0, .int .u64 0, .string ⟨#[]⟩, .slice none 0 0, .slice none 0 0] 26)).alloc (.cells #[.int .i64 5, .int .i64 0, .int .u64 0, .string ⟨#[]⟩, .slice none 0 0, .slice none 0 0] 26)) (w.heap.size + 2) #[.int .i64 5, .int .i64 0, .int .u64 0, .string ⟨#[]⟩, .slice none 0 0, .slice none 0 0] 26 := by
    have h := blk_alloc ((w.alloc (.cells #[.int .i64 0, .int .i64 0, .int .u64 0, .string ⟨#[]⟩, .slice none 0 0, .slice none 0 0] 26)).alloc (.cells #[.int .i64 0, .int .i64 0, .int .u64 0, .string ⟨#[]⟩, .slice none 0 0, .slice none 0 0] 26)) #[.int .i64 5, .int .i64 0, .int .u64 0, .string ⟨#[]⟩, .slice none 0 0, .slice none 0 0] 26
    rwa [World.size_alloc, World.size_alloc] at h
  have hrb : Blk (((w.alloc (.cells #[.int .i64 0, .int .i64 0, .int .u64 0, .string ⟨#[]⟩, .slice none 0 0, .slice none 0 0] 26)).alloc (.cells #[.int .i64 0, .int .i64 0, .int .u64 0, .string ⟨#[]⟩, .slice none 0 0, .slice none 0 0] 26)).alloc (.cells #[.int .i64 5, .int .i64 0, .int .u64 0, .string ⟨#[]⟩, .slice none 0 0, .slice none 0 0] 26)) w.heap.size #[.int .i64 0, .int .i64 0, .int .u64 0, .string ⟨#[]⟩, .slice none 0 0, .slice none 0 0] 26 := (bD.block _ (by omega)).trans (begD_res w)
  have hnn : Blk (((w.alloc (.cells #[.int .i64 0, .int .i64 0, .int .u64 0, .string ⟨#[]⟩, .slice none 0 0, .slice none 0 0] 26)).alloc (.cells #[.int .i64 0, .int .i64 0, .int .u64 0, .string ⟨#[]⟩, .slice none 0 0, .slice none 0 0] 26)).alloc (.cells #[.int .i64 5, .int .i64 0, .int .u64 0, .string ⟨#[]⟩, .slice none 0 0, .slice none 0 0] 26)) (w.heap.size + 1) #[.int .i64 0, .int .i64 0, .int .u64 0, .string ⟨#[]⟩, .slice none 0 0, .slice none 0 0] 26 := (bD.block _ (by omega)).trans (begD_none w)
  have bP : Below w.heap.size w (((w.alloc (.cells #[.int .i64 0, .int .i64 0, .int .u64 0, .string ⟨#[]⟩, .slice none 0 0, .slice none 0 0] 26)).alloc (.cells #[.int .i64 0, .int .i64 0, .int .u64 0, .string ⟨#[]⟩, .slice none 0 0, .slice none 0 0] 26)).alloc (.cells #[.int .i64 5, .int .i64 0, .int .u64 0, .string ⟨#[]⟩, .slice none 0 0, .slice none 0 0] 26)) := b0.trans (bD.mono (by omega))
  have sP : (((w.alloc (.cells #[.int .i64 0, .int .i64 0, .int .u64 0, .string ⟨#[]⟩, .slice none 0 0, .slice none 0 0] 26)).alloc (.cells #[.int .i64 0, .int .i64 0, .int .u64 0, .string ⟨#[]⟩, .slice none 0 0, .slice none 0 0] 26)).alloc (.cells #[.int .i64 5, .int .i64 0, .int .u64 0, .string ⟨#[]⟩, .slice none 0 0, .slice none 0 0] 26)).heap.size = w.heap.size + 3 := by simp
  clear b0 bD
  go_enter Tryd.func23, Tryd.ntmps23
  go_upto_region 5 with fail
  generalize ((w.alloc (.cells #[.int .i64 0, .int .i64 0, .int .u64 0, .string ⟨#[]⟩, .slice none 0 0, .slice none 0 0] 26)).alloc (.cells #[.int .i64 0, .int .i64 0, .int .u64 0, .string ⟨#[]⟩, .slice none 0 0, .slice none 0 0] 26)).alloc (.cells #[.int .i64 5, .int .i64 0, .int .u64 0, .string ⟨#[]⟩, .slice none 0 0, .slice none 0 0] 26) = P at *
  have k0 := hD.cell 0 _ rfl
  simp only [List.getElem_toArray, List.getElem_cons_zero] at k0
  rw [uB_6] at hu0
  obtain ⟨TT, hTT⟩ : ∃ TT, TT = upL (uM n) ((s.data.toList.drop 1).length + 1) [] (s.data.toList.drop 1) := ⟨_, rfl⟩
  rw [← hTT] at hu0
  have HU := hide hu0
  have HTT := hide hTT
  have HIH := hide ih
  have ST : Hid (DL w P n [] none 0) := hide ⟨hD, OwnR.nil _ _ _ _ _, hrb, hnn, bP, by omega⟩
  have hdl : ∀ k, (s.data.toList.drop k).length = s.size - k := fun k => by rw [List.length_drop, lenB]
  have HDL := hide hdl
  have HLR := hide hlr
  clear hu0 hTT ih hD hrb hnn bP hdl hlr sP
  go_upto_region 30 with fail
  go_wp2
  clear k0
  go_loopw [11] (fun a wr => ∃ (k fu : Nat) (acc : List V) (p : Option Addr) (cp : Nat), a = .int .i64 k ∧ Hid ((1 ≤ k ∧ k ≤ s.size ∧ s.size < fu + k ∧ acc.length ≤ k) ∧ upL (uM n) fu acc (s.data.toList.drop k) = TT ∧ DL w wr n acc p cp)) (fun a _ => s.size - (intOf a).toNat)
  case atStart =>
    have h1 := HLR.out
    exact ⟨1, s.size, [], none, 0, rfl, hide ⟨⟨by omega, by omega, by omega, Nat.zero_le _⟩, by rw [HTT.out, h1], ST.out⟩⟩
  case round =>
    obtain ⟨k, fu, acc, p, cp, rfl, hh⟩ := hrel
    obtain ⟨⟨k1, k2, k3, k4⟩, hup, hst⟩ := hh.out
    clear hh ST
    cases fu with
    | zero => omega
    | succ fu =>
      by_cases hlt : k < s.size
      · have i1 : ¬ (k : Int) ≥ (s.size : Int) := by omega
        have hl : k < s.data.toList.length := by rw [lenB]; exact hlt
        rw [List.drop_eq_getElem_cons hl] at hup
        have ea : s.data.toList[k]'hl = s[k]'hlt := rfl
        rw [ea] at hup
        have eu : upL (uM n) (fu + 1) acc (s[k]'hlt :: s.data.toList.drop (k + 1)) = if s[k]'hlt = 0 then some (acc, s.data.toList.drop (k + 1)) else if s[k]'hlt = 1 then (match (uM n) (s.data.toList.drop (k + 1)) with | none => none | some q => upL (uM n) fu (acc ++ [q.1]) q.2) else none := rfl
        rw [eu] at hup
        have cb := (s[k]'hlt).toNat_lt
        by_cases c0 : s[k]'hlt = 0
        · rw [if_pos c0] at hup
          have a2 : ((s[k]'hlt).toNat : Int) = 0 := by rw [c0]; rfl
          have hu : uM (n + 1) s.data.toList = some ((mkV (5, 0, 0, []) acc []), s.data.toList.drop (k + 1)) := by rw [HU.out, ← hup]; rfl
          have HM : Hid (1 ≤ k + 1 ∧ k + 1 ≤ s.data.toList.length) := hide ⟨by omega, by omega⟩
          have hr5 := hst.r
          have hD5 := hst.d
          have hV := hst.value
          have hB5 := hst.b
          clear hup eu ea c0 HU HIH
          go_upto_region 35 with fail
          have hY := put6_blk hr5 (.int .i64 5) (.int .i64 0) (.int .u64 0) (.string ⟨#[]⟩) (.slice p acc.length cp) (.slice none 0 0)
          have HY := hide hY
          have HF := hide (und_fin (l := s.data.toList) (m := k + 1) (b := 0) hV hB5 HM.out hu ((k : Int) + 1) (by omega))
          have x0 := hr5.cell 0 _ rfl
          have x1 := hr5.cell 1 _ rfl
          have x2 := hr5.cell 2 _ rfl
          have x3 := hr5.cell 3 _ rfl
          have x4 := hr5.cell 4 _ rfl
          have x5 := hr5.cell 5 _ rfl
          have z0 := Blk.froz hr5 0
          have z1 := Blk.froz hr5 1
          have z2 := Blk.froz hr5 2
          have z3 := Blk.froz hr5 3
          have z4 := Blk.froz hr5 4
          have z5 := Blk.froz hr5 5
          have q0 := hD5.cell 0 _ rfl
          have q1 := hD5.cell 1 _ rfl
          have q2 := hD5.cell 2 _ rfl
          have q3 := hD5.cell 3 _ rfl
          have q4 := hD5.cell 4 _ rfl
          have q5 := hD5.cell 5 _ rfl
          clear hY
          go_wp2
          have hY := HY.out
          have hF := HF.out
          clear HY HF x0 x1 x2 x3 x4 x5 z0 z1 z2 z3 z4 z5 q0 q1 q2 q3 q4 q5
          generalize hXX : put6 wr w.heap.size (.int .i64 5) (.int .i64 0) (.int .u64 0) (.string ⟨#[]⟩) (.slice p acc.length cp) (.slice none 0 0) = Y at hY hF
          simp only [put6] at hXX
          rw [hXX]
          clear hXX
          exact bodyPost_ret (results_und _ hY) rfl hF
        · rw [if_neg c0] at hup
          by_cases c1 : s[k]'hlt = 1
          · rw [if_pos c1] at hup
            have a2 : ((s[k]'hlt).toNat : Int) = 1 := by rw [c1]; rfl
            have sl : ∀ W : World, (Instr.slice 9 (.string s) (some (.int .i64 ((k : Int) + 1))) none none).run Tryd.prog W = .ok (.string (s.extract (k + 1) s.size)) W := fun W => slice_tail s (k + 1) ((k : Int) + 1) (by omega) (by omega) W
            have hx : (s.extract (k + 1) s.size).data.toList = s.data.toList.drop (k + 1) := by rw [extL, ← lenB, List.take_length]
            have hxs : (s.extract (k + 1) s.size).size = s.size - (k + 1) := by rw [← lenB, hx]; exact HDL.out (k + 1)
            have kd0 := hst.d.cell 0 _ rfl
            simp only [List.getElem_toArray, List.getElem_cons_zero] at kd0
            have HC := hide (HIH.out wr (s.extract (k + 1) s.size) (by rw [hxs]; omega))
            rw [hx] at HC
            have HST := hide hst
            have HUP := hide hup
            have IB : (i : Int) + 1 ≤ 9223372036854775807 := by omega
            clear hup eu ea c0 c1 hst hx hxs
            generalize s.extract (k + 1) s.size = s1 at *
            go_upto_region 44 with (go_at_call 23; refine (unhide HC).mono ?_; rintro e w2 ⟨hres, hb2⟩; rcases hres with ⟨hr, rfl⟩ | ⟨y, m, kk, nn, b, z, pL, nL, cL, pE, nE, cE, ⟨hm1, hm2⟩, hr, rfl, hlv⟩)
            · have hA := (HST.out.later hb2).later ((Below.refl _ w2).alloc (Nat.le_refl _) (.cells #[.int .i64 0, .int .i64 0, .int .u64 0, .string ⟨#[]⟩, .slice none 0 0, .slice none 0 0] 26))
              have hu : uM (n + 1) s.data.toList = none := by
                have := HUP.out
                rw [hr] at this
                rw [HU.out, ← this]
                rfl
              have hr5 := hA.r
              have hn5 := hA.n0
              have hB5 := hA.b
              clear HUP HU HIH HST HC hA hr
              generalize w2.alloc (.cells #[.int .i64 0, .int .i64 0, .int .u64 0, .string ⟨#[]⟩, .slice none 0 0, .slice none 0 0] 26) = X at *
              go_upto_region 45 with fail
              have hY := put6_blk hr5 (.int .i64 0) (.int .i64 0) (.int .u64 0) (.string ⟨#[]⟩) (.slice none 0 0) (.slice none 0 0)
              have HY := hide hY
              have HF := hide (und_none (l := s.data.toList) hB5 hu)
              have x0 := hr5.cell 0 _ rfl
              have x1 := hr5.cell 1 _ rfl
              have x2 := hr5.cell 2 _ rfl
              have x3 := hr5.cell 3 _ rfl
              have x4 := hr5.cell 4 _ rfl
              have x5 := hr5.cell 5 _ rfl
              have z0 := Blk.froz hr5 0
              have z1 := Blk.froz hr5 1
              have z2 := Blk.froz hr5 2
              have z3 := Blk.froz hr5 3
              have z4 := Blk.froz hr5 4
              have z5 := Blk.froz hr5 5
              have q0 := hn5.cell 0 _ rfl
              have q1 := hn5.cell 1 _ rfl
              have q2 := hn5.cell 2 _ rfl
              have q3 := hn5.cell 3 _ rfl
              have q4 := hn5.cell 4 _ rfl
              have q5 := hn5.cell 5 _ rfl
              clear hY
              go_wp2
              have hY := HY.out
              have hF := HF.out
              clear HY HF x0 x1 x2 x3 x4 x5 z0 z1 z2 z3 z4 z5 q0 q1 q2 q3 q4 q5
              generalize hXX : put6 X w.heap.size (.int .i64 0) (.int .i64 0) (.int .u64 0) (.string ⟨#[]⟩) (.slice none 0 0) (.slice none 0 0) = Y at hY hF
              simp only [put6] at hXX
              rw [hXX]
              clear hXX
              exact bodyPost_ret (results_und _ hY) rfl hF
            · have hm3 := HDL.out (k + 1)
              rw [hm3] at hm2
              obtain ⟨p', cp', W', hrun, hdW, hnx⟩ := HST.out.push hb2 kk nn b z pL nL cL pE nE cE y hlv (by omega)
              have hA := (HST.out.later hb2).later ((Below.refl _ w2).alloc (Nat.le_refl _) (.cells #[.int .i64 kk, .int .i64 nn, .int .u64 (b : Int), .string z, .slice pL nL cL, .slice pE nE cE] 26))
              have hup2 : upL (uM n) fu (acc ++ [y]) (s.data.toList.drop (k + 1 + m)) = TT := by
                have := HUP.out
                rw [hr] at this
                dsimp only at this
                rwa [List.drop_drop] at this
              have g1 : ¬ (m : Int) = 0 := by omega
              have g2 : ((m : Int) == 0) = false := beq_false_of_ne g1
              have g3 : (k : Int) + 1 + (m : Int) ≤ 9223372036854775807 := by omega
              have d0 := hA.d.cell 0 _ rfl
              have d4 := hA.d.cell 4 _ rfl
              have hX := blk_alloc w2 #[.int .i64 kk, .int .i64 nn, .int .u64 (b : Int), .string z, .slice pL nL cL, .slice pE nE cE] 26
              have x0 := hX.cell 0 _ rfl
              have x1 := hX.cell 1 _ rfl
              have x2 := hX.cell 2 _ rfl
              have x3 := hX.cell 3 _ rfl
              have x4 := hX.cell 4 _ rfl
              have x5 := hX.cell 5 _ rfl
              have hA2 := hA.d.alloc (.cells #[.int .i64 kk, .int .i64 nn, .int .u64 (b : Int), .string z, .slice pL nL cL, .slice pE nE cE] 26)
              have f4 := hA2.cell 4 _ rfl
              have w4 := hdW.cell 4 _ rfl
              have w4' := Blk.froz hdW 4
              simp only [List.getElem_toArray, List.getElem_cons_zero, List.getElem_cons_succ] at d0 d4 f4 w4
              have NX : Hid ((1 ≤ k + 1 + m ∧ k + 1 + m ≤ s.size ∧ s.size < fu + (k + 1 + m) ∧ (acc ++ [y]).length ≤ k + 1 + m) ∧ upL (uM n) fu (acc ++ [y]) (s.data.toList.drop (k + 1 + m)) = TT ∧ DL w (W'.setCell ⟨w.heap.size + 2, 4, none⟩ (.slice p' (acc.length + 1) cp')) n (acc ++ [y]) p' cp') := hide ⟨⟨by omega, by omega, by omega, by simp; omega⟩, hup2, hnx⟩
              clear hnx hup2 hr hA hA2 hdW hX HUP HC HST hlv hm3 hb2
              go_wp2_with (at_builtin; refine Lib.wpList_append_run _ rfl _ _ _ _ rfl _ _ rfl rfl _ _ hrun ?_)
              go_roundw
              case rel => exact ⟨k + 1 + m, fu, acc ++ [y], p', cp', by go_num, NX⟩
              case measure => simp only [intOf]; omega
          · rw [if_neg c1] at hup
            have hu : uM (n + 1) s.data.toList = none := by rw [HU.out, ← hup]; rfl
            have a3 : ((s[k]'hlt).toNat : Int) > 1 := by
              have h0 : (s[k]'hlt).toNat ≠ 0 := fun e => c0 (UInt8.toNat_inj.1 e)
              have h1 : (s[k]'hlt).toNat ≠ 1 := fun e => c1 (UInt8.toNat_inj.1 e)
              omega
            have hr5 := hst.r
            have hn5 := hst.n0
            have hB5 := hst.b
            clear hup eu ea c0 c1 HU HIH hst
            go_upto_region 32 with fail
            have hY := put6_blk hr5 (.int .i64 0) (.int .i64 0) (.int .u64 0) (.string ⟨#[]⟩) (.slice none 0 0) (.slice none 0 0)
            have HY := hide hY
            have HF := hide (und_none (l := s.data.toList) hB5 hu)
            have x0 := hr5.cell 0 _ rfl
            have x1 := hr5.cell 1 _ rfl
            have x2 := hr5.cell 2 _ rfl
            have x3 := hr5.cell 3 _ rfl
            have x4 := hr5.cell 4 _ rfl
            have x5 := hr5.cell 5 _ rfl
            have z0 := Blk.froz hr5 0
            have z1 := Blk.froz hr5 1
            have z2 := Blk.froz hr5 2
            have z3 := Blk.froz hr5 3
            have z4 := Blk.froz hr5 4
            have z5 := Blk.froz hr5 5
            have q0 := hn5.cell 0 _ rfl
            have q1 := hn5.cell 1 _ rfl
            have q2 := hn5.cell 2 _ rfl
            have q3 := hn5.cell 3 _ rfl
            have q4 := hn5.cell 4 _ rfl
            have q5 := hn5.cell 5 _ rfl
            clear hY
            go_wp2
            have hY := HY.out
            have hF := HF.out
            clear HY HF x0 x1 x2 x3 x4 x5 z0 z1 z2 z3 z4 z5 q0 q1 q2 q3 q4 q5
            generalize hXX : put6 wr w.heap.size (.int .i64 0) (.int .i64 0) (.int .u64 0) (.string ⟨#[]⟩) (.slice none 0 0) (.slice none 0 0) = Y at hY hF
            simp only [put6] at hXX
            rw [hXX]
            clear hXX
            exact bodyPost_ret (results_und _ hY) rfl hF
      · have i1 : (k : Int) ≥ (s.size : Int) := by omega
        have hu : uM (n + 1) s.data.toList = none := by
          rw [HU.out, ← hup, List.drop_eq_nil_of_le (by rw [lenB]; omega)]
          rfl
        have hr5 := hst.r
        have hn5 := hst.n0
        have hB5 := hst.b
        clear hup HU HIH hst
        go_upto_region 32 with fail
        have hY := put6_blk hr5 (.int .i64 0) (.int .i64 0) (.int .u64 0) (.string ⟨#[]⟩) (.slice none 0 0) (.slice none 0 0)
        have HY := hide hY
        have HF := hide (und_none (l := s.data.toList) hB5 hu)
        have x0 := hr5.cell 0 _ rfl
        have x1 := hr5.cell 1 _ rfl
        have x2 := hr5.cell 2 _ rfl
        have x3 := hr5.cell 3 _ rfl
        have x4 := hr5.cell 4 _ rfl
        have x5 := hr5.cell 5 _ rfl
        have z0 := Blk.froz hr5 0
        have z1 := Blk.froz hr5 1
        have z2 := Blk.froz hr5 2
        have z3 := Blk.froz hr5 3
        have z4 := Blk.froz hr5 4
        have z5 := Blk.froz hr5 5
        have q0 := hn5.cell 0 _ rfl
        have q1 := hn5.cell 1 _ rfl
        have q2 := hn5.cell 2 _ rfl
        have q3 := hn5.cell 3 _ rfl
        have q4 := hn5.cell 4 _ rfl
        have q5 := hn5.cell 5 _ rfl
        clear hY
        go_wp2
        have hY := HY.out
        have hF := HF.out
        clear HY HF x0 x1 x2 x3 x4 x5 z0 z1 z2 z3 z4 z5 q0 q1 q2 q3 q4 q5
        generalize hXX : put6 wr w.heap.size (.int .i64 0) (.int .i64 0) (.int .u64 0) (.string ⟨#[]⟩) (.slice none 0 0) (.slice none 0 0) = Y at hY hF
        simp only [put6] at hXX
        rw [hXX]
        clear hXX
        exact bodyPost_ret (results_und _ hY) rfl hF
end Go.Proofs.YtdpoiagnjdajbaaDoor.valus
/- The document's unpacked. -/
set_option linter.unusedVariables false
namespace Go.Proofs.YtdpoiagnjdajbaaDoor.valus
open Go.RowKit Go.Shelf
set_option maxHeartbeats 8000000 in
set_option maxRecDepth 100000 in
theorem und7 (w : World) (s : ByteArray) (hs : s.size ≤ 2000000) (n i : Nat) (hi : i ≤ 1000) (h0 : 0 < s.size) (hc : s[0]'h0 = 7) (ih : ReadU n ((i : Int) + 1)) :
    Calls Tryd.prog 23 #[.string s, .int .i64 (i : Int)] w (UndPost (n + 1) w s.data.toList) := by
  obtain ⟨e1, e2⟩ := notEmpty h0
  have hi' : ¬ (i : Int) > 1000 := by omega
  have hcI : ((s[0]'h0).toNat : Int) = 7 := by rw [hc]; rfl
  have hu0 : uM (n + 1) s.data.toList = uB (uM n) 7 (s.data.toList.drop 1) := uM_cons (by rw [lenB]; exact h0) hc
  have hlr : (s.data.toList.drop 1).length + 1 = s.size := by rw [List.length_drop, lenB]; omega
  have b0 : Below w.heap.size w ((w.alloc (.cells #[.int .i64 0, .int .i64 0, .int .u64 0, .string ⟨#[]⟩, .slice none 0 0, .slice none 0 0] 26)).alloc (.cells #[.int .i64 0, .int .i64 0, .int .u64 0, .string ⟨#[]⟩, .slice none 0 0, .slice none 0 0] 26)) := begD_below w
  have bD : Below (w.heap.size + 2) ((w.alloc (.cells #[.int .i64 0, .int .i64 0, .int .u64 0, .string ⟨#[]⟩, .slice none 0 0, .slice none 0 0] 26)).alloc (.cells #[.int .i64 0, .int .i64 0, .int .u64 0, .string ⟨#[]⟩, .slice none 0 0, .slice none 0 0] 26)) (((w.alloc (.cells #[.int .i64 0, .int .i64 0, .int .u64 0, .string ⟨#[]⟩, .slice none 0 0, .slice none 0 0] 26)).alloc (.cells #[.int .i64 0, .int .i64 0, .int .u64 0, .string ⟨#[]⟩, .slice none 0 0, .slice none 0 0] 26)).alloc (.cells #[.int .i64 6, .int .i64 0, .int .u64 0, .string ⟨#[]⟩, .slice none 0 0, .slice none 0 0] 26)) := (Below.refl _ _).alloc (by simp) _
  have hD : Blk (((w.alloc (.cells #[.int .i64 0, .int .i64 0, .int .u64 0, .string ⟨#[]⟩, .slice none 0 0, .slice none 0 0] 26)).alloc (.cells #[.int .i64 0, .int .i64 0, .int .u64 0, .string ⟨#[]⟩, .slice none 0 0, .slice none 0 0] 26)).alloc (.cells #[.int .i64 6, .int .i64 0, .int .u64 0, .string ⟨#[]⟩, .slice none 0 0, .slice none 0 0] 26)) (w.heap.size + 2) #[.int .i64 6, .int .i64 0, .int .u64 0, .string ⟨#[]⟩, .slice none 0 0, .slice none 0 0] 26 := by
    have h := blk_alloc ((w.alloc (.cells #[.int .i64 0, .int .i64 0, .int .u64 0, .string ⟨#[]⟩, .slice none 0 0, .slice none 0 0] 26)).alloc (.cells #[.int .i64 0, .int .i64 0, .int .u64 0, .string ⟨#[]⟩, .slice none 0 0, .slice none 0 0] 26)) #[.int .i64 6, .int .i64 0, .int .u64 0, .string ⟨#[]⟩, .slice none 0 0, .slice none 0 0] 26
    rwa [World.size_alloc, World.size_alloc] at h
  have hrb : Blk (((w.alloc (.cells #[.int .i64 0, .int .i64 0, .int .u64 0, .string ⟨#[]⟩, .slice none 0 0, .slice none 0 0] 26)).alloc (.cells #[.int .i64 0, .int .i64 0, .int .u64 0, .string ⟨#[]⟩, .slice none 0 0, .slice none 0 0] 26)).alloc (.cells #[.int .i64 6, .int .i64 0, .int .u64 0, .string ⟨#[]⟩, .slice none 0 0, .slice none 0 0] 26)) w.heap.size #[.int .i64 0, .int .i64 0, .int .u64 0, .string ⟨#[]⟩, .slice none 0 0, .slice none 0 0] 26 := (bD.block _ (by omega)).trans (begD_res w)
  have hnn : Blk (((w.alloc (.cells #[.int .i64 0, .int .i64 0, .int .u64 0, .string ⟨#[]⟩, .slice none 0 0, .slice none 0 0] 26)).alloc (.cells #[.int .i64 0, .int .i64 0, .int .u64 0, .string ⟨#[]⟩, .slice none 0 0, .slice none 0 0] 26)).alloc (.cells #[.int .i64 6, .int .i64 0, .int .u64 0, .string ⟨#[]⟩, .slice none 0 0, .slice none 0 0] 26)) (w.heap.size + 1) #[.int .i64 0, .int .i64 0, .int .u64 0, .string ⟨#[]⟩, .slice none 0 0, .slice none 0 0] 26 := (bD.block _ (by omega)).trans (begD_none w)
  have bP : Below w.heap.size w (((w.alloc (.cells #[.int .i64 0, .int .i64 0, .int .u64 0, .string ⟨#[]⟩, .slice none 0 0, .slice none 0 0] 26)).alloc (.cells #[.int .i64 0, .int .i64 0, .int .u64 0, .string ⟨#[]⟩, .slice none 0 0, .slice none 0 0] 26)).alloc (.cells #[.int .i64 6, .int .i64 0, .int .u64 0, .string ⟨#[]⟩, .slice none 0 0, .slice none 0 0] 26)) := b0.trans (bD.mono (by omega))
  have sP : (((w.alloc (.cells #[.int .i64 0, .int .i64 0, .int .u64 0, .string ⟨#[]⟩, .slice none 0 0, .slice none 0 0] 26)).alloc (.cells #[.int .i64 0, .int .i64 0, .int .u64 0, .string ⟨#[]⟩, .slice none 0 0, .slice none 0 0] 26)).alloc (.cells #[.int .i64 6, .int .i64 0, .int .u64 0, .string ⟨#[]⟩, .slice none 0 0, .slice none 0 0] 26)).heap.size = w.heap.size + 3 := by simp
  clear b0 bD
  go_enter Tryd.func23, Tryd.ntmps23
  go_upto_region 5 with fail
  generalize ((w.alloc (.cells #[.int .i64 0, .int .i64 0, .int .u64 0, .string ⟨#[]⟩, .slice none 0 0, .slice none 0 0] 26)).alloc (.cells #[.int .i64 0, .int .i64 0, .int .u64 0, .string ⟨#[]⟩, .slice none 0 0, .slice none 0 0] 26)).alloc (.cells #[.int .i64 6, .int .i64 0, .int .u64 0, .string ⟨#[]⟩, .slice none 0 0, .slice none 0 0] 26) = P at *
  have k0 := hD.cell 0 _ rfl
  simp only [List.getElem_toArray, List.getElem_cons_zero] at k0
  rw [uB_7] at hu0
  obtain ⟨TT, hTT⟩ : ∃ TT, TT = upL (uE (uM n)) ((s.data.toList.drop 1).length + 1) [] (s.data.toList.drop 1) := ⟨_, rfl⟩
  rw [← hTT] at hu0
  have HU := hide hu0
  have HTT := hide hTT
  have HIH := hide ih
  have ST : Hid (DT w P n [] none 0) := hide ⟨hD, OwnR.nil _ _ _ _ _, hrb, hnn, bP, by omega⟩
  have hdl : ∀ k, (s.data.toList.drop k).length = s.size - k := fun k => by rw [List.length_drop, lenB]
  have HDL := hide hdl
  have HLR := hide hlr
  clear hu0 hTT ih hD hrb hnn bP hdl hlr sP
  go_upto_region 30 with fail
  go_wp2
  clear k0
  go_loopw [11] (fun a wr => ∃ (k fu : Nat) (acc : List V) (p : Option Addr) (cp : Nat), a = .int .i64 k ∧ Hid ((1 ≤ k ∧ k ≤ s.size ∧ s.size < fu + k ∧ acc.length ≤ k) ∧ upL (uE (uM n)) fu acc (s.data.toList.drop k) = TT ∧ DT w wr n acc p cp)) (fun a _ => s.size - (intOf a).toNat)
  case atStart =>
    have h1 := HLR.out
    exact ⟨1, s.size, [], none, 0, rfl, hide ⟨⟨by omega, by omega, by omega, Nat.zero_le _⟩, by rw [HTT.out, h1], ST.out⟩⟩
  case round =>
    obtain ⟨k, fu, acc, p, cp, rfl, hh⟩ := hrel
    obtain ⟨⟨k1, k2, k3, k4⟩, hup, hst⟩ := hh.out
    clear hh ST
    cases fu with
    | zero => omega
    | succ fu =>
      by_cases hlt : k < s.size
      · have i1 : ¬ (k : Int) ≥ (s.size : Int) := by omega
        have hl : k < s.data.toList.length := by rw [lenB]; exact hlt
        rw [List.drop_eq_getElem_cons hl] at hup
        have ea : s.data.toList[k]'hl = s[k]'hlt := rfl
        rw [ea] at hup
        have eu : upL (uE (uM n)) (fu + 1) acc (s[k]'hlt :: s.data.toList.drop (k + 1)) = if s[k]'hlt = 0 then some (acc, s.data.toList.drop (k + 1)) else if s[k]'hlt = 1 then (match (uE (uM n)) (s.data.toList.drop (k + 1)) with | none => none | some q => upL (uE (uM n)) fu (acc ++ [q.1]) q.2) else none := rfl
        rw [eu] at hup
        have cb := (s[k]'hlt).toNat_lt
        by_cases c0 : s[k]'hlt = 0
        · rw [if_pos c0] at hup
          have a2 : ((s[k]'hlt).toNat : Int) = 0 := by rw [c0]; rfl
          have hu : uM (n + 1) s.data.toList = some ((mkV (6, 0, 0, []) [] acc), s.data.toList.drop (k + 1)) := by rw [HU.out, ← hup]; rfl
          have HM : Hid (1 ≤ k + 1 ∧ k + 1 ≤ s.data.toList.length) := hide ⟨by omega, by omega⟩
          have hr5 := hst.r
          have hD5 := hst.d
          have hV := hst.value
          have hB5 := hst.b
          clear hup eu ea c0 HU HIH
          go_upto_region 35 with fail
          have hY := put6_blk hr5 (.int .i64 6) (.int .i64 0) (.int .u64 0) (.string ⟨#[]⟩) (.slice none 0 0) (.slice p acc.length cp)
          have HY := hide hY
          have HF := hide (und_fin (l := s.data.toList) (m := k + 1) (b := 0) hV hB5 HM.out hu ((k : Int) + 1) (by omega))
          have x0 := hr5.cell 0 _ rfl
          have x1 := hr5.cell 1 _ rfl
          have x2 := hr5.cell 2 _ rfl
          have x3 := hr5.cell 3 _ rfl
          have x4 := hr5.cell 4 _ rfl
          have x5 := hr5.cell 5 _ rfl
          have z0 := Blk.froz hr5 0
          have z1 := Blk.froz hr5 1
          have z2 := Blk.froz hr5 2
          have z3 := Blk.froz hr5 3
          have z4 := Blk.froz hr5 4
          have z5 := Blk.froz hr5 5
          have q0 := hD5.cell 0 _ rfl
          have q1 := hD5.cell 1 _ rfl
          have q2 := hD5.cell 2 _ rfl
          have q3 := hD5.cell 3 _ rfl
          have q4 := hD5.cell 4 _ rfl
          have q5 := hD5.cell 5 _ rfl
          clear hY
          go_wp2
          have hY := HY.out
          have hF := HF.out
          clear HY HF x0 x1 x2 x3 x4 x5 z0 z1 z2 z3 z4 z5 q0 q1 q2 q3 q4 q5
          generalize hXX : put6 wr w.heap.size (.int .i64 6) (.int .i64 0) (.int .u64 0) (.string ⟨#[]⟩) (.slice none 0 0) (.slice p acc.length cp) = Y at hY hF
          simp only [put6] at hXX
          rw [hXX]
          clear hXX
          exact bodyPost_ret (results_und _ hY) rfl hF
        · rw [if_neg c0] at hup
          by_cases c1 : s[k]'hlt = 1
          · rw [if_pos c1] at hup
            have a2 : ((s[k]'hlt).toNat : Int) = 1 := by rw [c1]; rfl
            have sl : ∀ W : World, (Instr.slice 9 (.string s) (some (.int .i64 ((k : Int) + 1))) none none).run Tryd.prog W = .ok (.string (s.extract (k + 1) s.size)) W := fun W => slice_tail s (k + 1) ((k : Int) + 1) (by omega) (by omega) W
            have hx : (s.extract (k + 1) s.size).data.toList = s.data.toList.drop (k + 1) := by rw [extL, ← lenB, List.take_length]
            have hxs : (s.extract (k + 1) s.size).size = s.size - (k + 1) := by rw [← lenB, hx]; exact HDL.out (k + 1)
            have kd0 := hst.d.cell 0 _ rfl
            simp only [List.getElem_toArray, List.getElem_cons_zero] at kd0
            have HC1 := hide (unchD_any wr (s.extract (k + 1) s.size) (by rw [hxs]; omega))
            rw [hx] at HC1
            have HST := hide hst
            have HUP := hide hup
            have IB : (i : Int) + 1 ≤ 9223372036854775807 := by omega
            clear hup eu ea c0 c1 hst hx hxs
            generalize s.extract (k + 1) s.size = s1 at *
            go_upto_region 39 with (go_at_call 47; refine (unhide HC1).mono ?_; rintro e w1 ⟨⟨tt, mm, rfl, hres⟩, h3⟩; rw [h3]; clear h3)
            rcases hres with ⟨r1, rfl, rfl⟩ | ⟨r1, r2, r3⟩
            · have hu : uM (n + 1) s.data.toList = none := by
                have h1 := HUP.out
                unfold uE at h1
                rw [r1] at h1
                rw [HU.out, ← h1]
                rfl
              have hr5 := HST.out.r
              have hn5 := HST.out.n0
              have hB5 := HST.out.b
              simp only [Int.natCast_zero]
              clear HUP HU HIH HST HC1 r1
              go_upto_region 40 with fail
              have hY := put6_blk hr5 (.int .i64 0) (.int .i64 0) (.int .u64 0) (.string ⟨#[]⟩) (.slice none 0 0) (.slice none 0 0)
              have HY := hide hY
              have HF := hide (und_none (l := s.data.toList) hB5 hu)
              have x0 := hr5.cell 0 _ rfl
              have x1 := hr5.cell 1 _ rfl
              have x2 := hr5.cell 2 _ rfl
              have x3 := hr5.cell 3 _ rfl
              have x4 := hr5.cell 4 _ rfl
              have x5 := hr5.cell 5 _ rfl
              have z0 := Blk.froz hr5 0
              have z1 := Blk.froz hr5 1
              have z2 := Blk.froz hr5 2
              have z3 := Blk.froz hr5 3
              have z4 := Blk.froz hr5 4
              have z5 := Blk.froz hr5 5
              have q0 := hn5.cell 0 _ rfl
              have q1 := hn5.cell 1 _ rfl
              have q2 := hn5.cell 2 _ rfl
              have q3 := hn5.cell 3 _ rfl
              have q4 := hn5.cell 4 _ rfl
              have q5 := hn5.cell 5 _ rfl
              clear hY
              go_wp2
              have hY := HY.out
              have hF := HF.out
              clear HY HF x0 x1 x2 x3 x4 x5 z0 z1 z2 z3 z4 z5 q0 q1 q2 q3 q4 q5
              generalize hXX : put6 wr w.heap.size (.int .i64 0) (.int .i64 0) (.int .u64 0) (.string ⟨#[]⟩) (.slice none 0 0) (.slice none 0 0) = Y at hY hF
              simp only [put6] at hXX
              rw [hXX]
              clear hXX
              exact bodyPost_ret (results_und _ hY) rfl hF
            · have hm0 := HDL.out (k + 1)
              have htl := unch_len r3
              rw [hm0] at r2 htl
              have hkey : tt.size ≤ maxLen := by
                rw [lenB] at htl
                unfold maxLen
                omega
              have HK := hide hkey
              have sl2 : ∀ W : World, (Instr.slice 9 (.string s) (some (.int .i64 ((k : Int) + 1 + (mm : Int)))) none none).run Tryd.prog W = .ok (.string (s.extract (k + 1 + mm) s.size)) W := fun W => slice_tail s (k + 1 + mm) ((k : Int) + 1 + (mm : Int)) (by omega) (by omega) W
              have hx2 : (s.extract (k + 1 + mm) s.size).data.toList = s.data.toList.drop (k + 1 + mm) := by rw [extL, ← lenB, List.take_length]
              have hxs2 : (s.extract (k + 1 + mm) s.size).size = s.size - (k + 1 + mm) := by rw [← lenB, hx2]; exact HDL.out (k + 1 + mm)
              have j1 : ¬ (mm : Int) = 0 := by omega
              have j2 : ((mm : Int) == 0) = false := beq_false_of_ne j1
              have j3 : (k : Int) + 1 + (mm : Int) ≤ 9223372036854775807 := by omega
              have HC := hide (HIH.out wr (s.extract (k + 1 + mm) s.size) (by rw [hxs2]; omega))
              rw [hx2] at HC
              have HUP2 : Hid ((match (uM n (s.data.toList.drop (k + 1 + mm))).map (fun q => (ent tt.data.toList q.1, q.2)) with | none => none | some q => upL (uE (uM n)) fu (acc ++ [q.1]) q.2) = TT) := hide (by
                have h1 := HUP.out
                have e1 : uE (uM n) (s.data.toList.drop (k + 1)) = (uM n (s.data.toList.drop (k + 1 + mm))).map (fun q => (ent tt.data.toList q.1, q.2)) := by
                  unfold uE
                  rw [r3]
                  dsimp only
                  rw [List.drop_drop]
                rw [e1] at h1
                exact h1)
              have SB : Hid (k + 1 + mm ≤ s.size) := hide (by omega)
              clear hx2 hxs2 HUP HC1 r1 r2 r3 htl hm0 hkey
              generalize s.extract (k + 1 + mm) s.size = s2 at *
              go_upto_region 44 with (go_at_call 23; refine (unhide HC).mono ?_; rintro e w2 ⟨hres, hb2⟩; rcases hres with ⟨hr, rfl⟩ | ⟨y, m, kk, nn, b, z, pL, nL, cL, pE, nE, cE, ⟨hm1, hm2⟩, hr, rfl, hlv⟩)
              · have hA := (HST.out.later hb2).later ((Below.refl _ w2).alloc (Nat.le_refl _) (.cells #[.int .i64 0, .int .i64 0, .int .u64 0, .string ⟨#[]⟩, .slice none 0 0, .slice none 0 0] 26))
                have hu : uM (n + 1) s.data.toList = none := by
                  have := HUP2.out
                  rw [hr] at this
                  rw [HU.out, ← this]
                  rfl
                have hr5 := hA.r
                have hn5 := hA.n0
                have hB5 := hA.b
                clear HUP2 HU HIH HST HC hA hr
                generalize w2.alloc (.cells #[.int .i64 0, .int .i64 0, .int .u64 0, .string ⟨#[]⟩, .slice none 0 0, .slice none 0 0] 26) = X at *
                go_upto_region 45 with fail
                have hY := put6_blk hr5 (.int .i64 0) (.int .i64 0) (.int .u64 0) (.string ⟨#[]⟩) (.slice none 0 0) (.slice none 0 0)
                have HY := hide hY
                have HF := hide (und_none (l := s.data.toList) hB5 hu)
                have x0 := hr5.cell 0 _ rfl
                have x1 := hr5.cell 1 _ rfl
                have x2 := hr5.cell 2 _ rfl
                have x3 := hr5.cell 3 _ rfl
                have x4 := hr5.cell 4 _ rfl
                have x5 := hr5.cell 5 _ rfl
                have z0 := Blk.froz hr5 0
                have z1 := Blk.froz hr5 1
                have z2 := Blk.froz hr5 2
                have z3 := Blk.froz hr5 3
                have z4 := Blk.froz hr5 4
                have z5 := Blk.froz hr5 5
                have q0 := hn5.cell 0 _ rfl
                have q1 := hn5.cell 1 _ rfl
                have q2 := hn5.cell 2 _ rfl
                have q3 := hn5.cell 3 _ rfl
                have q4 := hn5.cell 4 _ rfl
                have q5 := hn5.cell 5 _ rfl
                clear hY
                go_wp2
                have hY := HY.out
                have hF := HF.out
                clear HY HF x0 x1 x2 x3 x4 x5 z0 z1 z2 z3 z4 z5 q0 q1 q2 q3 q4 q5
                generalize hXX : put6 X w.heap.size (.int .i64 0) (.int .i64 0) (.int .u64 0) (.string ⟨#[]⟩) (.slice none 0 0) (.slice none 0 0) = Y at hY hF
                simp only [put6] at hXX
                rw [hXX]
                clear hXX
                exact bodyPost_ret (results_und _ hY) rfl hF
              · have hm3 := HDL.out (k + 1 + mm)
                rw [hm3] at hm2
                have sb := SB.out
                obtain ⟨p', cp', W', hrun, hdW, hnx⟩ := HST.out.push hb2 tt kk nn b z pL nL cL pE nE cE y HK.out hlv (by omega)
                have hA := (HST.out.later hb2).later ((Below.refl _ w2).alloc (Nat.le_refl _) (.cells #[.int .i64 kk, .int .i64 nn, .int .u64 (b : Int), .string z, .slice pL nL cL, .slice pE nE cE] 26))
                have hup2 : upL (uE (uM n)) fu (acc ++ [ent tt.data.toList y]) (s.data.toList.drop (k + 1 + mm + m)) = TT := by
                  have := HUP2.out
                  rw [hr] at this
                  dsimp only [Option.map_some] at this
                  rwa [List.drop_drop] at this
                have g1 : ¬ (m : Int) = 0 := by omega
                have g2 : ((m : Int) == 0) = false := beq_false_of_ne g1
                have g3 : (k : Int) + 1 + (mm : Int) + (m : Int) ≤ 9223372036854775807 := by omega
                have d0 := hA.d.cell 0 _ rfl
                have d5 := hA.d.cell 5 _ rfl
                have hX := blk_alloc w2 #[.int .i64 kk, .int .i64 nn, .int .u64 (b : Int), .string z, .slice pL nL cL, .slice pE nE cE] 26
                have x0 := hX.cell 0 _ rfl
                have x1 := hX.cell 1 _ rfl
                have x2 := hX.cell 2 _ rfl
                have x3 := hX.cell 3 _ rfl
                have x4 := hX.cell 4 _ rfl
                have x5 := hX.cell 5 _ rfl
                have hA2 := hA.d.alloc (.cells #[.string tt, .int .i64 kk, .int .i64 nn, .int .u64 (b : Int), .string z, .slice pL nL cL, .slice pE nE cE] 54)
                have f5 := hA2.cell 5 _ rfl
                have w5 := hdW.cell 5 _ rfl
                have w5' := Blk.froz hdW 5
                simp only [List.getElem_toArray, List.getElem_cons_zero, List.getElem_cons_succ] at d0 d5 f5 w5
                have NX : Hid ((1 ≤ k + 1 + mm + m ∧ k + 1 + mm + m ≤ s.size ∧ s.size < fu + (k + 1 + mm + m) ∧ (acc ++ [ent tt.data.toList y]).length ≤ k + 1 + mm + m) ∧ upL (uE (uM n)) fu (acc ++ [ent tt.data.toList y]) (s.data.toList.drop (k + 1 + mm + m)) = TT ∧ DT w (W'.setCell ⟨w.heap.size + 2, 5, none⟩ (.slice p' (acc.length + 1) cp')) n (acc ++ [ent tt.data.toList y]) p' cp') := hide ⟨⟨by omega, by omega, by omega, by simp; omega⟩, hup2, hnx⟩
                have SM : Hid (k + 1 + mm + m ≤ s.size) := hide (by omega)
                clear hnx hup2 hr hA hA2 hdW hX HUP2 HC HST hlv hm3 hb2 sb
                go_wp2_with (at_builtin; refine Lib.wpList_append_run _ rfl _ _ _ _ rfl _ _ rfl rfl _ _ hrun ?_)
                go_roundw
                case rel => exact ⟨k + 1 + mm + m, fu, acc ++ [ent tt.data.toList y], p', cp', by go_num, NX⟩
                case measure => simp only [intOf]; have := SM.out; omega
          · rw [if_neg c1] at hup
            have hu : uM (n + 1) s.data.toList = none := by rw [HU.out, ← hup]; rfl
            have a3 : ((s[k]'hlt).toNat : Int) > 1 := by
              have h0 : (s[k]'hlt).toNat ≠ 0 := fun e => c0 (UInt8.toNat_inj.1 e)
              have h1 : (s[k]'hlt).toNat ≠ 1 := fun e => c1 (UInt8.toNat_inj.1 e)
              omega
            have hr5 := hst.r
            have hn5 := hst.n0
            have hB5 := hst.b
            clear hup eu ea c0 c1 HU HIH hst
            go_upto_region 32 with fail
            have hY := put6_blk hr5 (.int .i64 0) (.int .i64 0) (.int .u64 0) (.string ⟨#[]⟩) (.slice none 0 0) (.slice none 0 0)
            have HY := hide hY
            have HF := hide (und_none (l := s.data.toList) hB5 hu)
            have x0 := hr5.cell 0 _ rfl
            have x1 := hr5.cell 1 _ rfl
            have x2 := hr5.cell 2 _ rfl
            have x3 := hr5.cell 3 _ rfl
            have x4 := hr5.cell 4 _ rfl
            have x5 := hr5.cell 5 _ rfl
            have z0 := Blk.froz hr5 0
            have z1 := Blk.froz hr5 1
            have z2 := Blk.froz hr5 2
            have z3 := Blk.froz hr5 3
            have z4 := Blk.froz hr5 4
            have z5 := Blk.froz hr5 5
            have q0 := hn5.cell 0 _ rfl
            have q1 := hn5.cell 1 _ rfl
            have q2 := hn5.cell 2 _ rfl
            have q3 := hn5.cell 3 _ rfl
            have q4 := hn5.cell 4 _ rfl
            have q5 := hn5.cell 5 _ rfl
            clear hY
            go_wp2
            have hY := HY.out
            have hF := HF.out
            clear HY HF x0 x1 x2 x3 x4 x5 z0 z1 z2 z3 z4 z5 q0 q1 q2 q3 q4 q5
            generalize hXX : put6 wr w.heap.size (.int .i64 0) (.int .i64 0) (.int .u64 0) (.string ⟨#[]⟩) (.slice none 0 0) (.slice none 0 0) = Y at hY hF
            simp only [put6] at hXX
            rw [hXX]
            clear hXX
            exact bodyPost_ret (results_und _ hY) rfl hF
      · have i1 : (k : Int) ≥ (s.size : Int) := by omega
        have hu : uM (n + 1) s.data.toList = none := by
          rw [HU.out, ← hup, List.drop_eq_nil_of_le (by rw [lenB]; omega)]
          rfl
        have hr5 := hst.r
        have hn5 := hst.n0
        have hB5 := hst.b
        clear hup HU HIH hst
        go_upto_region 32 with fail
        have hY := put6_blk hr5 (.int .i64 0) (.int .i64 0) (.int .u64 0) (.string ⟨#[]⟩) (.slice none 0 0) (.slice none 0 0)
        have HY := hide hY
        have HF := hide (und_none (l := s.data.toList) hB5 hu)
        have x0 := hr5.cell 0 _ rfl
        have x1 := hr5.cell 1 _ rfl
        have x2 := hr5.cell 2 _ rfl
        have x3 := hr5.cell 3 _ rfl
        have x4 := hr5.cell 4 _ rfl
        have x5 := hr5.cell 5 _ rfl
        have z0 := Blk.froz hr5 0
        have z1 := Blk.froz hr5 1
        have z2 := Blk.froz hr5 2
        have z3 := Blk.froz hr5 3
        have z4 := Blk.froz hr5 4
        have z5 := Blk.froz hr5 5
        have q0 := hn5.cell 0 _ rfl
        have q1 := hn5.cell 1 _ rfl
        have q2 := hn5.cell 2 _ rfl
        have q3 := hn5.cell 3 _ rfl
        have q4 := hn5.cell 4 _ rfl
        have q5 := hn5.cell 5 _ rfl
        clear hY
        go_wp2
        have hY := HY.out
        have hF := HF.out
        clear HY HF x0 x1 x2 x3 x4 x5 z0 z1 z2 z3 z4 z5 q0 q1 q2 q3 q4 q5
        generalize hXX : put6 wr w.heap.size (.int .i64 0) (.int .i64 0) (.int .u64 0) (.string ⟨#[]⟩) (.slice none 0 0) (.slice none 0 0) = Y at hY hF
        simp only [put6] at hXX
        rw [hXX]
        clear hXX
        exact bodyPost_ret (results_und _ hY) rfl hF
end Go.Proofs.YtdpoiagnjdajbaaDoor.valus
