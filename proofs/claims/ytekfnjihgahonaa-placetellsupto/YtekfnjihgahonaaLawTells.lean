/- The walk of the law that each call answers what the document says. -/
import Derived.Test.YtekfnjihgahonaaRef
set_option linter.unusedVariables false
namespace Go.Proofs.Ytekfnjihgahonaa.walks
open Go.RowKit
open plain

theorem equal_same (w : World) (b1 b2 n c d : Nat) (L : List Nat) (hn : L.length = n) (hn2 : n ≤ 1048577) (h1 : Nums w b1 L) (h2 : Nums w b2 L) :
    Calls Try.prog 9 #[.slice (some ⟨b1, 0, none⟩) n c, .slice (some ⟨b2, 0, none⟩) n d] w fun e w' => e = .returned (.bool true) ∧ Below w.heap.size w w' := by
  have hl : (L.map (fun (n : Nat) => (n : Int))).length = n := by rw [List.length_map, hn]
  have hg : ∀ b, Nums w b L → ∀ j, j < (L.map (fun (n : Nat) => (n : Int))).length → w.cell? ⟨b, 0 + j, none⟩ = some (.int .i64 (L.map (fun (n : Nat) => (n : Int)))[j]!) := fun b h j hj => by
    have hj' : j < L.length := by simpa using hj
    rw [Nat.zero_add, h.2 j hj']
    simp [List.getD, hj']
  have c0 := Try.slices_Equal (Value.int .i64) (fun x y => x == y) (NeqAt.int _ _ _) b1 0 n c b2 0 n d (L.map (fun (n : Nat) => (n : Int))) (L.map (fun (n : Nat) => (n : Int))) w (by omega) (by omega) (by omega) (by omega) (hg b1 h1) (hg b2 h2)
  rw [Lib.allEq_all _ _ _ rfl (fun j hj => by simp)] at c0
  refine c0.mono fun e w' ⟨he, q, hw⟩ => ⟨he, ?_⟩
  subst hw
  exact below_drewN (Below.refl _ _) q

/-- The last line so far that begins at the place or ahead of it. -/
def kk (i c : Nat) : Nat := if i ≤ c + 1 then i - 1 else c
theorem kk_low {i c : Nat} (h : i ≤ c) : kk (i + 1) c = i := by unfold kk; rw [if_pos (by omega)]; omega
theorem kk_high {i c : Nat} (h : c < i) : kk (i + 1) c = kk i c := by
  unfold kk
  rw [if_neg (by omega)]
  by_cases e : i ≤ c + 1
  · rw [if_pos e]; omega
  · rw [if_neg e]
theorem kk_end {N c : Nat} (h : c ≤ N) : kk (N + 1) c = c := by
  unfold kk
  by_cases e : N + 1 ≤ c + 1
  · rw [if_pos e]; omega
  · rw [if_neg e]

set_option maxHeartbeats 4000000 in
set_option maxRecDepth 100000 in
theorem tells_out_none (s : ByteArray) (k : Int) (line col : Int) (w : World) (hs : s.size ≤ 1048576) (hk : k < 0 ∨ (s.size : Int) < k) (h1 : line ≤ 9223372036854775807) (hn : line < 1 ∨ (s.data.toList.count 10 : Int) + 1 < line) :
    Calls Try.prog 3 #[.string s, .int .i64 k, .int .i64 line, .int .i64 col] w fun e w' => e = .returned (.bool true) ∧ Below w.heap.size w w' := by
  have hN : cnt s.data.toList s.size = s.data.toList.count 10 := by rw [← len_list s, cnt_all]
  have hS := stK_length s.data.toList s.size (by rw [len_list]; exact Nat.le_refl _)
  have hY := syK_length s.data.toList s.size (by rw [len_list]; exact Nat.le_refl _)
  have hcl := cnt_le s.data.toList s.size
  have C0 := hide (linesOf_any s w hs)
  have C2 : ∀ w, Hid _ := fun w => hide (starts_any s w hs)
  rw [hS] at C2
  have C1 : ∀ w, Hid _ := fun w => hide (of_out s k w (by omega) hk)
  have C4 : ∀ w, Hid _ := fun w => hide (at_none s line col w (by omega) h1 hn)
  have C5 : ∀ w, Hid _ := fun w => hide (line_none s line w (by omega) h1 hn)
  rw [← hN] at hn
  clear hN
  generalize hL0 : stK s.data.toList s.size = L at *
  generalize syK s.data.toList s.size = Y at *
  generalize cnt s.data.toList s.size = N at *
  go_enter Try.func3, Try.ntmps3
  go_wp2_with fail
  refine (unhide C0).mono ?_
  rintro e w1 ⟨b1, c1, b2, c2, rfl, n1, y1, d1⟩
  clear C0
  go_wp2_with fail
  refine (unhide (C1 _)).mono ?_
  rintro e w2 ⟨rfl, rfl⟩
  clear C1
  go_wp2_with fail
  refine (unhide (C2 _)).mono ?_
  rintro e w3 ⟨b3, c3, rfl, n3, d3⟩
  clear C2
  have n1' := n1.below d3
  have y1' := y1.below d3
  have d13 := d1.trans (d3.mono d1.size)
  clear n1 y1 d1 d3
  go_wp2_with fail
  refine (equal_same w3 b3 b1 (N + 1) c3 c1 L hS (by omega) n3 n1').mono ?_
  rintro e w4 ⟨rfl, d4⟩
  have n4 := n1'.below d4
  have y4 := y1'.below d4
  have d14 := d13.trans (d4.mono d13.size)
  clear n1' y1' n3 d13 d4
  clear n4 y4 hS hY hL0
  rcases hk with hk | hk
  · go_wp2_with fail
    refine (unhide (C4 _)).mono ?_
    rintro e w5 ⟨rfl, rfl⟩
    go_wp2_with fail
    refine (unhide (C5 _)).mono ?_
    rintro e w5 ⟨rfl, rfl⟩
    rcases hn with hn | hn
    · go_wp2
      go_ret
      exact ⟨rfl, d14⟩
    · have t1 : ¬ line < 1 := by omega
      go_wp2
      go_ret
      exact ⟨rfl, d14⟩
  · have t0 : ¬ k < 0 := by omega
    go_wp2_with fail
    refine (unhide (C4 _)).mono ?_
    rintro e w5 ⟨rfl, rfl⟩
    go_wp2_with fail
    refine (unhide (C5 _)).mono ?_
    rintro e w5 ⟨rfl, rfl⟩
    rcases hn with hn | hn
    · go_wp2
      go_ret
      exact ⟨rfl, d14⟩
    · have t1 : ¬ line < 1 := by omega
      go_wp2
      go_ret
      exact ⟨rfl, d14⟩
set_option maxHeartbeats 4000000 in
set_option maxRecDepth 100000 in
theorem tells_out_out (s : ByteArray) (k : Int) (p a b : Nat) (col : Int) (w : World) (hs : s.size ≤ 1048576) (hk : k < 0 ∨ (s.size : Int) < k) (hL : Ln s.data.toList (p + 1) a b) (h0 : col ≤ 9223372036854775807) (h2 : col < 1 ∨ (b : Int) - a + 1 < col) :
    Calls Try.prog 3 #[.string s, .int .i64 k, .int .i64 ((p : Int) + 1), .int .i64 col] w fun e w' => e = .returned (.bool true) ∧ Below w.heap.size w w' := by
  have hN : cnt s.data.toList s.size = s.data.toList.count 10 := by rw [← len_list s, cnt_all]
  have hS := stK_length s.data.toList s.size (by rw [len_list]; exact Nat.le_refl _)
  have hY := syK_length s.data.toList s.size (by rw [len_list]; exact Nat.le_refl _)
  have hcl := cnt_le s.data.toList s.size
  have C0 := hide (linesOf_any s w hs)
  have C2 : ∀ w, Hid _ := fun w => hide (starts_any s w hs)
  rw [hS] at C2
  have C1 : ∀ w, Hid _ := fun w => hide (of_out s k w (by omega) hk)
  have ep : ((p + 1 : Nat) : Int) = (p : Int) + 1 := by omega
  have hpN := hL.le
  rw [← hN] at hpN
  have hab := hL.ab
  have hbl := hL.bl
  rw [len_list] at hbl
  have C5 : ∀ w, Hid _ := fun w => hide (line_in s (p + 1) a b w (by omega) hL)
  have C4 : ∀ w, Hid _ := fun w => hide (at_out s (p + 1) a b col w (by omega) hL h0 h2)
  rw [ep] at C4 C5
  have hsp : (stK s.data.toList s.size).getD p 0 = a := by have h := stK_line hL; rw [len_list] at h; exact h
  have hyp : (syK s.data.toList s.size).getD p [] = (s.data.toList.take b).drop a := by have h := syK_line hL; rw [len_list] at h; exact h
  have hey : (⟨((s.data.toList.take b).drop a).toArray⟩ : ByteArray) = s.extract a b := by apply ByteArray.ext; apply Array.toList_inj.1; rw [ext_list]
  have hxs : (s.extract a b).size = b - a := by rw [ByteArray.size_extract]; omega
  clear hL ep
  clear hN
  generalize hL0 : stK s.data.toList s.size = L at *
  generalize syK s.data.toList s.size = Y at *
  generalize cnt s.data.toList s.size = N at *
  generalize s.extract a b = x at *
  go_enter Try.func3, Try.ntmps3
  go_wp2_with fail
  refine (unhide C0).mono ?_
  rintro e w1 ⟨b1, c1, b2, c2, rfl, n1, y1, d1⟩
  clear C0
  go_wp2_with fail
  refine (unhide (C1 _)).mono ?_
  rintro e w2 ⟨rfl, rfl⟩
  clear C1
  go_wp2_with fail
  refine (unhide (C2 _)).mono ?_
  rintro e w3 ⟨b3, c3, rfl, n3, d3⟩
  clear C2
  have n1' := n1.below d3
  have y1' := y1.below d3
  have d13 := d1.trans (d3.mono d1.size)
  clear n1 y1 d1 d3
  go_wp2_with fail
  refine (equal_same w3 b3 b1 (N + 1) c3 c1 L hS (by omega) n3 n1').mono ?_
  rintro e w4 ⟨rfl, d4⟩
  have n4 := n1'.below d4
  have y4 := y1'.below d4
  have d14 := d13.trans (d4.mono d13.size)
  clear n1' y1' n3 d13 d4
  have cp : w4.cell? ⟨b1, p, none⟩ = some (.int .i64 (a : Int)) := by rw [n4.2 p (by omega), hsp]
  have cy : w4.cell? ⟨b2, p, none⟩ = some (.string x) := by rw [y4.2 p (by omega), hyp, hey]
  clear hsp hyp hey
  clear n4 y4 hS hY hL0
  rcases hk with hk | hk
  · go_wp2_with fail
    refine (unhide (C4 _)).mono ?_
    rintro e w5 ⟨rfl, rfl⟩
    go_wp2_with fail
    refine (unhide (C5 _)).mono ?_
    rintro e w5 ⟨rfl, rfl⟩
    rcases h2 with h2 | h2
    · go_wp2
      go_ret
      exact ⟨rfl, d14⟩
    · have t1 : ¬ col < 1 := by omega
      have t2 : (x.size : Int) + 1 < col := by omega
      go_wp2
      go_ret
      exact ⟨rfl, d14⟩
  · have t0 : ¬ k < 0 := by omega
    go_wp2_with fail
    refine (unhide (C4 _)).mono ?_
    rintro e w5 ⟨rfl, rfl⟩
    go_wp2_with fail
    refine (unhide (C5 _)).mono ?_
    rintro e w5 ⟨rfl, rfl⟩
    rcases h2 with h2 | h2
    · go_wp2
      go_ret
      exact ⟨rfl, d14⟩
    · have t1 : ¬ col < 1 := by omega
      have t2 : (x.size : Int) + 1 < col := by omega
      go_wp2
      go_ret
      exact ⟨rfl, d14⟩
set_option maxHeartbeats 4000000 in
set_option maxRecDepth 100000 in
theorem tells_out_in (s : ByteArray) (k : Int) (p a b : Nat) (col : Int) (w : World) (hs : s.size ≤ 1048576) (hk : k < 0 ∨ (s.size : Int) < k) (hL : Ln s.data.toList (p + 1) a b) (h0 : 1 ≤ col) (h2 : col ≤ (b : Int) - a + 1) :
    Calls Try.prog 3 #[.string s, .int .i64 k, .int .i64 ((p : Int) + 1), .int .i64 col] w fun e w' => e = .returned (.bool true) ∧ Below w.heap.size w w' := by
  have hN : cnt s.data.toList s.size = s.data.toList.count 10 := by rw [← len_list s, cnt_all]
  have hS := stK_length s.data.toList s.size (by rw [len_list]; exact Nat.le_refl _)
  have hY := syK_length s.data.toList s.size (by rw [len_list]; exact Nat.le_refl _)
  have hcl := cnt_le s.data.toList s.size
  have C0 := hide (linesOf_any s w hs)
  have C2 : ∀ w, Hid _ := fun w => hide (starts_any s w hs)
  rw [hS] at C2
  have C1 : ∀ w, Hid _ := fun w => hide (of_out s k w (by omega) hk)
  have ep : ((p + 1 : Nat) : Int) = (p : Int) + 1 := by omega
  have hpN := hL.le
  rw [← hN] at hpN
  have hab := hL.ab
  have hbl := hL.bl
  rw [len_list] at hbl
  have C5 : ∀ w, Hid _ := fun w => hide (line_in s (p + 1) a b w (by omega) hL)
  have C4 : ∀ w, Hid _ := fun w => hide (at_in s (p + 1) a b col w (by omega) hL h0 h2)
  rw [ep] at C4 C5
  have hsp : (stK s.data.toList s.size).getD p 0 = a := by have h := stK_line hL; rw [len_list] at h; exact h
  have hyp : (syK s.data.toList s.size).getD p [] = (s.data.toList.take b).drop a := by have h := syK_line hL; rw [len_list] at h; exact h
  have hey : (⟨((s.data.toList.take b).drop a).toArray⟩ : ByteArray) = s.extract a b := by apply ByteArray.ext; apply Array.toList_inj.1; rw [ext_list]
  have hxs : (s.extract a b).size = b - a := by rw [ByteArray.size_extract]; omega
  clear hL ep
  clear hN
  generalize hL0 : stK s.data.toList s.size = L at *
  generalize syK s.data.toList s.size = Y at *
  generalize cnt s.data.toList s.size = N at *
  generalize s.extract a b = x at *
  go_enter Try.func3, Try.ntmps3
  go_wp2_with fail
  refine (unhide C0).mono ?_
  rintro e w1 ⟨b1, c1, b2, c2, rfl, n1, y1, d1⟩
  clear C0
  go_wp2_with fail
  refine (unhide (C1 _)).mono ?_
  rintro e w2 ⟨rfl, rfl⟩
  clear C1
  go_wp2_with fail
  refine (unhide (C2 _)).mono ?_
  rintro e w3 ⟨b3, c3, rfl, n3, d3⟩
  clear C2
  have n1' := n1.below d3
  have y1' := y1.below d3
  have d13 := d1.trans (d3.mono d1.size)
  clear n1 y1 d1 d3
  go_wp2_with fail
  refine (equal_same w3 b3 b1 (N + 1) c3 c1 L hS (by omega) n3 n1').mono ?_
  rintro e w4 ⟨rfl, d4⟩
  have n4 := n1'.below d4
  have y4 := y1'.below d4
  have d14 := d13.trans (d4.mono d13.size)
  clear n1' y1' n3 d13 d4
  have cp : w4.cell? ⟨b1, p, none⟩ = some (.int .i64 (a : Int)) := by rw [n4.2 p (by omega), hsp]
  have cy : w4.cell? ⟨b2, p, none⟩ = some (.string x) := by rw [y4.2 p (by omega), hyp, hey]
  clear hsp hyp hey
  clear n4 y4 hS hY hL0
  rcases hk with hk | hk
  · go_wp2_with fail
    refine (unhide (C4 _)).mono ?_
    rintro e w5 ⟨rfl, rfl⟩
    go_wp2_with fail
    refine (unhide (C5 _)).mono ?_
    rintro e w5 ⟨rfl, rfl⟩
    have t1 : ¬ col < 1 := by omega
    have t2 : ¬ (x.size : Int) + 1 < col := by omega
    go_wp2
    go_ret
    exact ⟨rfl, d14⟩
  · have t0 : ¬ k < 0 := by omega
    go_wp2_with fail
    refine (unhide (C4 _)).mono ?_
    rintro e w5 ⟨rfl, rfl⟩
    go_wp2_with fail
    refine (unhide (C5 _)).mono ?_
    rintro e w5 ⟨rfl, rfl⟩
    have t1 : ¬ col < 1 := by omega
    have t2 : ¬ (x.size : Int) + 1 < col := by omega
    go_wp2
    go_ret
    exact ⟨rfl, d14⟩
set_option maxHeartbeats 4000000 in
set_option maxRecDepth 100000 in
theorem tells_in_none (s : ByteArray) (k : Nat) (line col : Int) (w : World) (hs : s.size ≤ 1048576) (hk : k ≤ s.size) (h1 : line ≤ 9223372036854775807) (hn : line < 1 ∨ (s.data.toList.count 10 : Int) + 1 < line) :
    Calls Try.prog 3 #[.string s, .int .i64 k, .int .i64 line, .int .i64 col] w fun e w' => e = .returned (.bool true) ∧ Below w.heap.size w w' := by
  have hN : cnt s.data.toList s.size = s.data.toList.count 10 := by rw [← len_list s, cnt_all]
  have hS := stK_length s.data.toList s.size (by rw [len_list]; exact Nat.le_refl _)
  have hY := syK_length s.data.toList s.size (by rw [len_list]; exact Nat.le_refl _)
  have hcl := cnt_le s.data.toList s.size
  have C0 := hide (linesOf_any s w hs)
  have C2 : ∀ w, Hid _ := fun w => hide (starts_any s w hs)
  rw [hS] at C2
  have C1 : ∀ w, Hid _ := fun w => hide (of_in s k w (by omega) hk)
  have hck : cnt s.data.toList k ≤ cnt s.data.toList s.size := cnt_mono _ hk
  have hst : (stK s.data.toList s.size).getD (cnt s.data.toList k) 0 = front s.data.toList k := by have h := stK_line (ln_at (l := s.data.toList) (k := k) (by rw [len_list]; exact hk)); rw [len_list] at h; exact h
  have hle : Hid (∀ j, j ≤ cnt s.data.toList s.size → ((stK s.data.toList s.size).getD j 0 ≤ k ↔ j ≤ cnt s.data.toList k)) := fun j hj => by have h := stK_le (l := s.data.toList) (k := k) (j := j) (by rw [len_list]; exact hk) (by omega); rw [len_list] at h; exact h
  have hfl := front_le s.data.toList k
  have C4 : ∀ w, Hid _ := fun w => hide (at_none s line col w (by omega) h1 hn)
  have C5 : ∀ w, Hid _ := fun w => hide (line_none s line w (by omega) h1 hn)
  rw [← hN] at hn
  clear hN
  generalize hL0 : stK s.data.toList s.size = L at *
  generalize syK s.data.toList s.size = Y at *
  generalize cnt s.data.toList s.size = N at *
  generalize cnt s.data.toList k = c at *
  generalize front s.data.toList k = f at *
  go_enter Try.func3, Try.ntmps3
  go_wp2_with fail
  refine (unhide C0).mono ?_
  rintro e w1 ⟨b1, c1, b2, c2, rfl, n1, y1, d1⟩
  clear C0
  go_wp2_with fail
  refine (unhide (C1 _)).mono ?_
  rintro e w2 ⟨rfl, rfl⟩
  clear C1
  go_wp2_with fail
  refine (unhide (C2 _)).mono ?_
  rintro e w3 ⟨b3, c3, rfl, n3, d3⟩
  clear C2
  have n1' := n1.below d3
  have y1' := y1.below d3
  have d13 := d1.trans (d3.mono d1.size)
  clear n1 y1 d1 d3
  go_wp2_with fail
  refine (equal_same w3 b3 b1 (N + 1) c3 c1 L hS (by omega) n3 n1').mono ?_
  rintro e w4 ⟨rfl, d4⟩
  have n4 := n1'.below d4
  have y4 := y1'.below d4
  have d14 := d13.trans (d4.mono d13.size)
  clear n1' y1' n3 d13 d4
  have cf : w4.cell? ⟨b1, c, none⟩ = some (.int .i64 (f : Int)) := by rw [n4.2 c (by omega), hst]
  have cj : Hid (∀ j, j ≤ N → w4.cell? ⟨b1, j, none⟩ = some (.int .i64 ((L.getD j 0 : Nat) : Int))) := fun j hj => n4.2 j (by omega)
  clear hst
  clear n4 y4 hS hY hL0
  go_wp2_with fail
  go_loopw [14, 58] (fun u i wr => ∃ j : Nat, j ≤ N + 1 ∧ i = .int .i64 j ∧ u = .int .i64 (kk j c) ∧ wr = w4) (fun _ i _ => N + 1 - (intOf i).toNat)
  case atStart => exact ⟨0, Nat.zero_le _, rfl, rfl, rfl⟩
  case round =>
    obtain ⟨j, hj, rfl, rfl, rfl⟩ := hrel
    by_cases hlt : j < N + 1
    · have cc := cj.out j (by omega)
      have hiff := hle.out j (by omega)
      generalize L.getD j 0 = z at *
      by_cases hjc : j ≤ c
      · have hz := hiff.2 hjc
        have HK := hide (kk_low hjc)
        clear hiff
        go_wp2
        go_roundw
        case rel => exact ⟨j + 1, by omega, by go_num, by rw [unhide HK], by trivial⟩
        case measure => simp only [intOf]; omega
      · have hz : ¬ z ≤ k := fun h => hjc (hiff.1 h)
        have HK := hide (kk_high (i := j) (c := c) (by omega))
        clear hiff
        go_wp2
        go_roundw
        case rel => exact ⟨j + 1, by omega, by go_num, by rw [unhide HK], by trivial⟩
        case measure => simp only [intOf]; omega
    · have hjN : j = N + 1 := by omega
      subst hjN
      have hke := kk_end hck
      generalize kk (N + 1) c = q at *
      subst hke
      go_wp2_with fail
      refine (unhide (C4 _)).mono ?_
      rintro e w5 ⟨rfl, rfl⟩
      go_wp2_with fail
      refine (unhide (C5 _)).mono ?_
      rintro e w5 ⟨rfl, rfl⟩
      rcases hn with hn | hn
      · go_wp2
        go_ret
        exact ⟨rfl, d14⟩
      · have t1 : ¬ line < 1 := by omega
        go_wp2
        go_ret
        exact ⟨rfl, d14⟩
set_option maxHeartbeats 4000000 in
set_option maxRecDepth 100000 in
theorem tells_in_out (s : ByteArray) (k : Nat) (p a b : Nat) (col : Int) (w : World) (hs : s.size ≤ 1048576) (hk : k ≤ s.size) (hL : Ln s.data.toList (p + 1) a b) (h0 : col ≤ 9223372036854775807) (h2 : col < 1 ∨ (b : Int) - a + 1 < col) :
    Calls Try.prog 3 #[.string s, .int .i64 k, .int .i64 ((p : Int) + 1), .int .i64 col] w fun e w' => e = .returned (.bool true) ∧ Below w.heap.size w w' := by
  have hN : cnt s.data.toList s.size = s.data.toList.count 10 := by rw [← len_list s, cnt_all]
  have hS := stK_length s.data.toList s.size (by rw [len_list]; exact Nat.le_refl _)
  have hY := syK_length s.data.toList s.size (by rw [len_list]; exact Nat.le_refl _)
  have hcl := cnt_le s.data.toList s.size
  have C0 := hide (linesOf_any s w hs)
  have C2 : ∀ w, Hid _ := fun w => hide (starts_any s w hs)
  rw [hS] at C2
  have C1 : ∀ w, Hid _ := fun w => hide (of_in s k w (by omega) hk)
  have hck : cnt s.data.toList k ≤ cnt s.data.toList s.size := cnt_mono _ hk
  have hst : (stK s.data.toList s.size).getD (cnt s.data.toList k) 0 = front s.data.toList k := by have h := stK_line (ln_at (l := s.data.toList) (k := k) (by rw [len_list]; exact hk)); rw [len_list] at h; exact h
  have hle : Hid (∀ j, j ≤ cnt s.data.toList s.size → ((stK s.data.toList s.size).getD j 0 ≤ k ↔ j ≤ cnt s.data.toList k)) := fun j hj => by have h := stK_le (l := s.data.toList) (k := k) (j := j) (by rw [len_list]; exact hk) (by omega); rw [len_list] at h; exact h
  have hfl := front_le s.data.toList k
  have ep : ((p + 1 : Nat) : Int) = (p : Int) + 1 := by omega
  have hpN := hL.le
  rw [← hN] at hpN
  have hab := hL.ab
  have hbl := hL.bl
  rw [len_list] at hbl
  have C5 : ∀ w, Hid _ := fun w => hide (line_in s (p + 1) a b w (by omega) hL)
  have C4 : ∀ w, Hid _ := fun w => hide (at_out s (p + 1) a b col w (by omega) hL h0 h2)
  rw [ep] at C4 C5
  have hsp : (stK s.data.toList s.size).getD p 0 = a := by have h := stK_line hL; rw [len_list] at h; exact h
  have hyp : (syK s.data.toList s.size).getD p [] = (s.data.toList.take b).drop a := by have h := syK_line hL; rw [len_list] at h; exact h
  have hey : (⟨((s.data.toList.take b).drop a).toArray⟩ : ByteArray) = s.extract a b := by apply ByteArray.ext; apply Array.toList_inj.1; rw [ext_list]
  have hxs : (s.extract a b).size = b - a := by rw [ByteArray.size_extract]; omega
  clear hL ep
  clear hN
  generalize hL0 : stK s.data.toList s.size = L at *
  generalize syK s.data.toList s.size = Y at *
  generalize cnt s.data.toList s.size = N at *
  generalize cnt s.data.toList k = c at *
  generalize front s.data.toList k = f at *
  generalize s.extract a b = x at *
  go_enter Try.func3, Try.ntmps3
  go_wp2_with fail
  refine (unhide C0).mono ?_
  rintro e w1 ⟨b1, c1, b2, c2, rfl, n1, y1, d1⟩
  clear C0
  go_wp2_with fail
  refine (unhide (C1 _)).mono ?_
  rintro e w2 ⟨rfl, rfl⟩
  clear C1
  go_wp2_with fail
  refine (unhide (C2 _)).mono ?_
  rintro e w3 ⟨b3, c3, rfl, n3, d3⟩
  clear C2
  have n1' := n1.below d3
  have y1' := y1.below d3
  have d13 := d1.trans (d3.mono d1.size)
  clear n1 y1 d1 d3
  go_wp2_with fail
  refine (equal_same w3 b3 b1 (N + 1) c3 c1 L hS (by omega) n3 n1').mono ?_
  rintro e w4 ⟨rfl, d4⟩
  have n4 := n1'.below d4
  have y4 := y1'.below d4
  have d14 := d13.trans (d4.mono d13.size)
  clear n1' y1' n3 d13 d4
  have cp : w4.cell? ⟨b1, p, none⟩ = some (.int .i64 (a : Int)) := by rw [n4.2 p (by omega), hsp]
  have cy : w4.cell? ⟨b2, p, none⟩ = some (.string x) := by rw [y4.2 p (by omega), hyp, hey]
  clear hsp hyp hey
  have cf : w4.cell? ⟨b1, c, none⟩ = some (.int .i64 (f : Int)) := by rw [n4.2 c (by omega), hst]
  have cj : Hid (∀ j, j ≤ N → w4.cell? ⟨b1, j, none⟩ = some (.int .i64 ((L.getD j 0 : Nat) : Int))) := fun j hj => n4.2 j (by omega)
  clear hst
  clear n4 y4 hS hY hL0
  go_wp2_with fail
  go_loopw [14, 58] (fun u i wr => ∃ j : Nat, j ≤ N + 1 ∧ i = .int .i64 j ∧ u = .int .i64 (kk j c) ∧ wr = w4) (fun _ i _ => N + 1 - (intOf i).toNat)
  case atStart => exact ⟨0, Nat.zero_le _, rfl, rfl, rfl⟩
  case round =>
    obtain ⟨j, hj, rfl, rfl, rfl⟩ := hrel
    by_cases hlt : j < N + 1
    · have cc := cj.out j (by omega)
      have hiff := hle.out j (by omega)
      generalize L.getD j 0 = z at *
      by_cases hjc : j ≤ c
      · have hz := hiff.2 hjc
        have HK := hide (kk_low hjc)
        clear hiff
        go_wp2
        go_roundw
        case rel => exact ⟨j + 1, by omega, by go_num, by rw [unhide HK], by trivial⟩
        case measure => simp only [intOf]; omega
      · have hz : ¬ z ≤ k := fun h => hjc (hiff.1 h)
        have HK := hide (kk_high (i := j) (c := c) (by omega))
        clear hiff
        go_wp2
        go_roundw
        case rel => exact ⟨j + 1, by omega, by go_num, by rw [unhide HK], by trivial⟩
        case measure => simp only [intOf]; omega
    · have hjN : j = N + 1 := by omega
      subst hjN
      have hke := kk_end hck
      generalize kk (N + 1) c = q at *
      subst hke
      go_wp2_with fail
      refine (unhide (C4 _)).mono ?_
      rintro e w5 ⟨rfl, rfl⟩
      go_wp2_with fail
      refine (unhide (C5 _)).mono ?_
      rintro e w5 ⟨rfl, rfl⟩
      rcases h2 with h2 | h2
      · go_wp2
        go_ret
        exact ⟨rfl, d14⟩
      · have t1 : ¬ col < 1 := by omega
        have t2 : (x.size : Int) + 1 < col := by omega
        go_wp2
        go_ret
        exact ⟨rfl, d14⟩
set_option maxHeartbeats 4000000 in
set_option maxRecDepth 100000 in
theorem tells_in_in (s : ByteArray) (k : Nat) (p a b : Nat) (col : Int) (w : World) (hs : s.size ≤ 1048576) (hk : k ≤ s.size) (hL : Ln s.data.toList (p + 1) a b) (h0 : 1 ≤ col) (h2 : col ≤ (b : Int) - a + 1) :
    Calls Try.prog 3 #[.string s, .int .i64 k, .int .i64 ((p : Int) + 1), .int .i64 col] w fun e w' => e = .returned (.bool true) ∧ Below w.heap.size w w' := by
  have hN : cnt s.data.toList s.size = s.data.toList.count 10 := by rw [← len_list s, cnt_all]
  have hS := stK_length s.data.toList s.size (by rw [len_list]; exact Nat.le_refl _)
  have hY := syK_length s.data.toList s.size (by rw [len_list]; exact Nat.le_refl _)
  have hcl := cnt_le s.data.toList s.size
  have C0 := hide (linesOf_any s w hs)
  have C2 : ∀ w, Hid _ := fun w => hide (starts_any s w hs)
  rw [hS] at C2
  have C1 : ∀ w, Hid _ := fun w => hide (of_in s k w (by omega) hk)
  have hck : cnt s.data.toList k ≤ cnt s.data.toList s.size := cnt_mono _ hk
  have hst : (stK s.data.toList s.size).getD (cnt s.data.toList k) 0 = front s.data.toList k := by have h := stK_line (ln_at (l := s.data.toList) (k := k) (by rw [len_list]; exact hk)); rw [len_list] at h; exact h
  have hle : Hid (∀ j, j ≤ cnt s.data.toList s.size → ((stK s.data.toList s.size).getD j 0 ≤ k ↔ j ≤ cnt s.data.toList k)) := fun j hj => by have h := stK_le (l := s.data.toList) (k := k) (j := j) (by rw [len_list]; exact hk) (by omega); rw [len_list] at h; exact h
  have hfl := front_le s.data.toList k
  have ep : ((p + 1 : Nat) : Int) = (p : Int) + 1 := by omega
  have hpN := hL.le
  rw [← hN] at hpN
  have hab := hL.ab
  have hbl := hL.bl
  rw [len_list] at hbl
  have C5 : ∀ w, Hid _ := fun w => hide (line_in s (p + 1) a b w (by omega) hL)
  have C4 : ∀ w, Hid _ := fun w => hide (at_in s (p + 1) a b col w (by omega) hL h0 h2)
  rw [ep] at C4 C5
  have hsp : (stK s.data.toList s.size).getD p 0 = a := by have h := stK_line hL; rw [len_list] at h; exact h
  have hyp : (syK s.data.toList s.size).getD p [] = (s.data.toList.take b).drop a := by have h := syK_line hL; rw [len_list] at h; exact h
  have hey : (⟨((s.data.toList.take b).drop a).toArray⟩ : ByteArray) = s.extract a b := by apply ByteArray.ext; apply Array.toList_inj.1; rw [ext_list]
  have hxs : (s.extract a b).size = b - a := by rw [ByteArray.size_extract]; omega
  clear hL ep
  clear hN
  generalize hL0 : stK s.data.toList s.size = L at *
  generalize syK s.data.toList s.size = Y at *
  generalize cnt s.data.toList s.size = N at *
  generalize cnt s.data.toList k = c at *
  generalize front s.data.toList k = f at *
  generalize s.extract a b = x at *
  go_enter Try.func3, Try.ntmps3
  go_wp2_with fail
  refine (unhide C0).mono ?_
  rintro e w1 ⟨b1, c1, b2, c2, rfl, n1, y1, d1⟩
  clear C0
  go_wp2_with fail
  refine (unhide (C1 _)).mono ?_
  rintro e w2 ⟨rfl, rfl⟩
  clear C1
  go_wp2_with fail
  refine (unhide (C2 _)).mono ?_
  rintro e w3 ⟨b3, c3, rfl, n3, d3⟩
  clear C2
  have n1' := n1.below d3
  have y1' := y1.below d3
  have d13 := d1.trans (d3.mono d1.size)
  clear n1 y1 d1 d3
  go_wp2_with fail
  refine (equal_same w3 b3 b1 (N + 1) c3 c1 L hS (by omega) n3 n1').mono ?_
  rintro e w4 ⟨rfl, d4⟩
  have n4 := n1'.below d4
  have y4 := y1'.below d4
  have d14 := d13.trans (d4.mono d13.size)
  clear n1' y1' n3 d13 d4
  have cp : w4.cell? ⟨b1, p, none⟩ = some (.int .i64 (a : Int)) := by rw [n4.2 p (by omega), hsp]
  have cy : w4.cell? ⟨b2, p, none⟩ = some (.string x) := by rw [y4.2 p (by omega), hyp, hey]
  clear hsp hyp hey
  have cf : w4.cell? ⟨b1, c, none⟩ = some (.int .i64 (f : Int)) := by rw [n4.2 c (by omega), hst]
  have cj : Hid (∀ j, j ≤ N → w4.cell? ⟨b1, j, none⟩ = some (.int .i64 ((L.getD j 0 : Nat) : Int))) := fun j hj => n4.2 j (by omega)
  clear hst
  clear n4 y4 hS hY hL0
  go_wp2_with fail
  go_loopw [14, 58] (fun u i wr => ∃ j : Nat, j ≤ N + 1 ∧ i = .int .i64 j ∧ u = .int .i64 (kk j c) ∧ wr = w4) (fun _ i _ => N + 1 - (intOf i).toNat)
  case atStart => exact ⟨0, Nat.zero_le _, rfl, rfl, rfl⟩
  case round =>
    obtain ⟨j, hj, rfl, rfl, rfl⟩ := hrel
    by_cases hlt : j < N + 1
    · have cc := cj.out j (by omega)
      have hiff := hle.out j (by omega)
      generalize L.getD j 0 = z at *
      by_cases hjc : j ≤ c
      · have hz := hiff.2 hjc
        have HK := hide (kk_low hjc)
        clear hiff
        go_wp2
        go_roundw
        case rel => exact ⟨j + 1, by omega, by go_num, by rw [unhide HK], by trivial⟩
        case measure => simp only [intOf]; omega
      · have hz : ¬ z ≤ k := fun h => hjc (hiff.1 h)
        have HK := hide (kk_high (i := j) (c := c) (by omega))
        clear hiff
        go_wp2
        go_roundw
        case rel => exact ⟨j + 1, by omega, by go_num, by rw [unhide HK], by trivial⟩
        case measure => simp only [intOf]; omega
    · have hjN : j = N + 1 := by omega
      subst hjN
      have hke := kk_end hck
      generalize kk (N + 1) c = q at *
      subst hke
      go_wp2_with fail
      refine (unhide (C4 _)).mono ?_
      rintro e w5 ⟨rfl, rfl⟩
      go_wp2_with fail
      refine (unhide (C5 _)).mono ?_
      rintro e w5 ⟨rfl, rfl⟩
      have t1 : ¬ col < 1 := by omega
      have t2 : ¬ (x.size : Int) + 1 < col := by omega
      go_wp2
      go_ret
      exact ⟨rfl, d14⟩

theorem lawTells (s : ByteArray) (at_ line col : Int) (w : World) (hs : s.size ≤ 1048576) (h1 : line ≤ 9223372036854775807) (h2 : col ≤ 9223372036854775807) :
    Calls Try.prog 3 #[.string s, .int .i64 at_, .int .i64 line, .int .i64 col] w fun e w' => e = .returned (.bool true) ∧ Below w.heap.size w w' := by
  by_cases ha : at_ < 0 ∨ (s.size : Int) < at_
  · by_cases hn : line < 1 ∨ (s.data.toList.count 10 : Int) + 1 < line
    · exact tells_out_none s at_ line col w hs ha h1 hn
    · obtain ⟨p, rfl⟩ : ∃ p : Nat, line = (p : Int) + 1 := ⟨(line - 1).toNat, by omega⟩
      obtain ⟨a, b, hL⟩ := ln_exists (l := s.data.toList) (n := p + 1) (by omega) (by omega)
      by_cases hc : col < 1 ∨ (b : Int) - a + 1 < col
      · exact tells_out_out s at_ p a b col w hs ha hL h2 hc
      · exact tells_out_in s at_ p a b col w hs ha hL (by omega) (by omega)
  · obtain ⟨k, rfl⟩ : ∃ k : Nat, at_ = k := ⟨at_.toNat, by omega⟩
    by_cases hn : line < 1 ∨ (s.data.toList.count 10 : Int) + 1 < line
    · exact tells_in_none s k line col w hs (by omega) h1 hn
    · obtain ⟨p, rfl⟩ : ∃ p : Nat, line = (p : Int) + 1 := ⟨(line - 1).toNat, by omega⟩
      obtain ⟨a, b, hL⟩ := ln_exists (l := s.data.toList) (n := p + 1) (by omega) (by omega)
      by_cases hc : col < 1 ∨ (b : Int) - a + 1 < col
      · exact tells_in_out s k p a b col w hs (by omega) hL h2 hc
      · exact tells_in_in s k p a b col w hs (by omega) hL (by omega) (by omega)
end Go.Proofs.Ytekfnjihgahonaa.walks
