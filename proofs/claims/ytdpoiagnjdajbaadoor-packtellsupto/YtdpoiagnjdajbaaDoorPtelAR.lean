/- A row of bytes that is being made. -/
import Derived.Test.YtdpoiagnjdajbaaDoorPtelAP
import Derived.Test.YtdpoiagnjdajbaaDoorPtelAE
import Derived.Test.YtdpoiagnjdajbaaDoorPtelAQ
import Derived.Test.YtdpoiagnjdajbaaDoorChecked
import Derived.Lib.AppendStr
import Derived.Lib.AppendZeros
import Derived.Maps.AppendAt
import Derived.WalkKit
import Derived.Test.YtdpoiagnjdajbaaDoorPtelAD
import Derived.Lib.Replace
import Derived.Lib.CountLaws
import Derived.Lib.ReplaceLaws
set_option linter.unusedVariables false
namespace Go.Proofs.YtdpoiagnjdajbaaDoor.valus
open Go.RowKit Go.Shelf

def cellB (c : UInt8) : Value := .int .u8 (c.toNat : Int)
/-- The slice v is these bytes, in a block of its own from n0 on. -/
def OwnB (n0 : Nat) (W : World) (v : Value) (l : List UInt8) : Prop := W.ownsRow n0 5 1 v l.length (l.map cellB)
theorem OwnB.nil (n0 : Nat) (W : World) : OwnB n0 W (.slice none 0 0) [] := World.ownsRow_nil W n0 5 1
/-- What else was there stands; the row lies where it lay, or in a new block. -/
structure Grew (w w' : World) (v v' : Value) : Prop where
  by' : w.grownBy w' v.ownBlock
  at' : v'.ownBlock = v.ownBlock ∨ ∃ g, v'.ownBlock = some g ∧ w.heap.size ≤ g
theorem Grew.refl (w : World) (v : Value) : Grew w w v v := ⟨⟨rfl, rfl, rfl, Nat.le_refl _, fun _ _ _ => rfl⟩, .inl rfl⟩
theorem Grew.block {w w' : World} {v v' : Value} (h : Grew w w' v v') {b : Nat} (hb : b < w.heap.size) (hn : some b ≠ v.ownBlock) : w'.heap[b]? = w.heap[b]? ∧ some b ≠ v'.ownBlock :=
  ⟨h.by'.block b hb hn, fun e => by
    rcases h.at' with h1 | ⟨g, h1, h2⟩
    · exact hn (e.trans h1)
    · rw [h1] at e
      injection e with e
      omega⟩
theorem Grew.trans {a b c : World} {u v x : Value} (h : Grew a b u v) (k : Grew b c v x) : Grew a c u x := by
  have s1 := h.by'.size
  have s2 := k.by'.size
  refine ⟨⟨k.by'.os.trans h.by'.os, k.by'.tape.trans h.by'.tape, k.by'.output.trans h.by'.output, by omega, fun q hq hn => ?_⟩, ?_⟩
  · obtain ⟨e1, e2⟩ := h.block hq hn
    exact (k.by'.block q (by omega) e2).trans e1
  · rcases k.at' with h1 | ⟨g, h1, h2⟩
    · rcases h.at' with h3 | ⟨g', h3, h4⟩
      · exact .inl (h1.trans h3)
      · exact .inr ⟨g', h1.trans h3, h4⟩
    · exact .inr ⟨g, h1, by omega⟩
theorem Grew.below {w w' : World} (hb : Below w.heap.size w w') (v : Value) : Grew w w' v v := ⟨⟨hb.os, hb.tape, hb.output, hb.size, fun b hlt _ => hb.block b hlt⟩, .inl rfl⟩
theorem Grew.to_below {w w' : World} {v v' : Value} {n0 : Nat} (h : Grew w w' v v') (hn : n0 ≤ w.heap.size) (hv : ∀ g, v.ownBlock = some g → n0 ≤ g) : Below n0 w w' :=
  ⟨h.by'.os, h.by'.tape, h.by'.output, h.by'.size, fun b hb => h.by'.block b (by omega) (fun e => by have := hv b e.symm; omega)⟩
theorem OwnB.lt {n0 : Nat} {W : World} {v : Value} {l : List UInt8} (h : OwnB n0 W v l) : ∀ g, v.ownBlock = some g → n0 ≤ g ∧ g < W.heap.size := fun g hg => World.ownsRow.lt h g hg
/-- New blocks leave it. -/
theorem OwnB.later {n0 : Nat} {W W' : World} {v : Value} {l : List UInt8} (h : OwnB n0 W v l) (hb : Below W.heap.size W W') : OwnB n0 W' v l := by
  refine World.ownsRow.kept h (row := none) ⟨hb.os, hb.tape, hb.output, hb.size, fun b hlt _ => hb.block b hlt⟩ ?_
  cases hv : v.ownBlock with
  | none => exact .inl rfl
  | some g => exact .inr (by simp)
theorem infoB : (Tryd.prog.info? 5).map (fun i => (i.zero, i.size, i.bytes)) = some (some (.int .u8 0), 1, 1) := by kernel_rfl
/-- append of bytes that lie in a block. -/
theorem push_row {n0 : Nat} {W : World} {v : Value} {l : List UInt8} (h : OwnB n0 W v l) (hn : n0 ≤ W.heap.size) (b m : Nat) (c : Nat) (x : List UInt8) (hm : x.length = m) (hc : ∀ j u, (x.map cellB)[j]? = some u → W.cell? ⟨b, j, none⟩ = some u) (hlen : l.length + m ≤ 1000000000) (ty : TypeId) :
    ∃ v' W', (Builtin.append_ #[27, 27] ty #[v, .slice (some ⟨b, 0, none⟩) m c]).run Tryd.prog W = .ok v' W' ∧ OwnB n0 W' v' (l ++ x) ∧ Grew W W' v v' := by
  obtain ⟨i0, hi, hz0, hz1, hz2⟩ := info_parts infoB
  obtain ⟨v', W', hr, ho, hg, _, hat⟩ := run_append_own_at (P := Tryd.prog) W n0 27 ty 5 i0 _ 1 1 Tryd.underlying27 hi hz0 hz1 hz2 rfl (by decide) v _ _ h ⟨b, 0, none⟩ m c (x.map cellB) (by simp [hm]) (fun j u hj => by rw [Addr.add_lit, Nat.zero_add]; exact hc j u hj) (fun u hu => by obtain ⟨y, _, rfl⟩ := List.mem_map.1 hu; rfl) (by unfold maxLen; omega) (by omega) hn
  refine ⟨v', W', hr, ?_, hg, hat.imp id (fun h => ⟨_, h, Nat.le_refl _⟩)⟩
  unfold OwnB
  rw [List.length_append, List.map_append, hm]
  exact ho
theorem one_new (w : World) (c : UInt8) : ∀ j u, (([c] : List UInt8).map cellB)[j]? = some u → (w.alloc (.cells #[cellB c] 5)).cell? ⟨w.heap.size, j, none⟩ = some u := fun j u h => Blk.cell (blk_alloc w #[cellB c] 5) j u (by simpa using h)
theorem two_new (w : World) (c d : UInt8) : ∀ j u, (([c, d] : List UInt8).map cellB)[j]? = some u → (w.alloc (.cells #[cellB c, cellB d] 5)).cell? ⟨w.heap.size, j, none⟩ = some u := fun j u h => Blk.cell (blk_alloc w #[cellB c, cellB d] 5) j u (by simpa using h)
/-- One more byte. -/
theorem push_one {n0 : Nat} {W : World} {v : Value} {l : List UInt8} (h : OwnB n0 W v l) (hn : n0 ≤ W.heap.size) (c : UInt8) (hlen : l.length + 1 ≤ 1000000000) (ty : TypeId) :
    ∃ v' W', (Builtin.append_ #[27, 27] ty #[v, .slice (some ⟨W.heap.size, 0, none⟩) 1 1]).run Tryd.prog (W.alloc (.cells #[cellB c] 5)) = .ok v' W' ∧ OwnB n0 W' v' (l ++ [c]) ∧ Grew W W' v v' := by
  have hb : Below W.heap.size W (W.alloc (.cells #[cellB c] 5)) := (Below.refl _ W).alloc (Nat.le_refl _) _
  obtain ⟨v', W', hr, ho, hg⟩ := push_row (h.later hb) (by simp; omega) W.heap.size 1 1 [c] rfl (one_new W c) hlen ty
  exact ⟨v', W', hr, ho, (Grew.below hb v).trans hg⟩
/-- append of a text. -/
theorem push_text {n0 : Nat} {W : World} {g n cap : Nat} {l : List UInt8} (h : OwnB n0 W (.slice (some ⟨g, 0, none⟩) n cap) l) (hn : n0 ≤ W.heap.size) (s : ByteArray) (hlen : l.length + s.size ≤ 1000000000) (ty : TypeId) :
    ∃ v' W', (Builtin.append_ #[27, 9] ty #[.slice (some ⟨g, 0, none⟩) n cap, .string s]).run Tryd.prog W = .ok v' W' ∧ OwnB n0 W' v' (l ++ s.data.toList) ∧ Grew W W' (.slice (some ⟨g, 0, none⟩) n cap) v' := by
  obtain ⟨i0, hi, hz0, hz1, hz2⟩ := info_parts infoB
  obtain ⟨v', W', hr, ho, hg, _⟩ := Lib.run_append_own_string (P := Tryd.prog) W n0 27 9 ty 5 i0 Tryd.underlying27 Tryd.underlying9 hi hz0 hz1 hz2 _ _ _ h s (by unfold maxLen; omega) (by omega) hn
  have hsz : s.data.toList.length = s.size := by simp
  refine ⟨v', W', hr, ?_, hg, ?_⟩
  · unfold OwnB
    rw [List.length_append, List.map_append, hsz]
    have e : s.data.toList.map cellB = Lib.strCells s := rfl
    rw [e]
    exact ho
  · rcases h.2 with ⟨h1, h2⟩ | ⟨g1, cap1, cur, h1, h2, h3, h4, h5, h6, h7⟩
    · cases h1
    · cases h1
      by_cases hroom : l.length + s.size ≤ cap
      · have := Lib.run_append_room_string (P := Tryd.prog) W 27 9 ty 5 i0 Tryd.underlying27 Tryd.underlying9 hi hz1 g l.length cap cur h3 s hroom (by omega)
        rw [hr] at this
        injection this with e1 e2
        rw [e1]
        exact .inl rfl
      · have := Lib.run_append_grow_string (P := Tryd.prog) W 27 9 ty 5 i0 _ Tryd.underlying27 Tryd.underlying9 hi hz0 ⟨g, 0, none⟩ l.length cap (l.map cellB) (by rw [hz1]; simp) (World.ownsRow.cells (g := g) h rfl) s (by omega) (by omega) (by rw [hz2]; exact growslice_fits (by omega) (by omega))
        rw [hr] at this
        injection this with e1 e2
        rw [e1]
        exact .inr ⟨_, rfl, Nat.le_refl _⟩
end Go.Proofs.YtdpoiagnjdajbaaDoor.valus
/- Numbers, turned and as bytes. -/
set_option linter.unusedVariables false
namespace Go.Proofs.YtdpoiagnjdajbaaDoor.valus
open Go.RowKit Go.Shelf

theorem xor_low {m : Nat} (h : m < 9223372036854775808) : m ^^^ 9223372036854775808 = m + 9223372036854775808 := by
  have e2 : (9223372036854775808 : Nat) = 2 ^ 63 := by decide
  have e3 : m + 9223372036854775808 = 2 ^ 63 ||| m := by
    have := Nat.two_pow_add_eq_or_of_lt (i := 63) (b := m) (by omega) 1
    rw [Nat.mul_one] at this
    rw [← this]
    omega
  rw [e3, e2]
  apply Nat.eq_of_testBit_eq
  intro i
  rw [Nat.testBit_xor, Nat.testBit_or, Nat.testBit_two_pow]
  by_cases hi : 63 = i
  · subst hi
    rw [Nat.testBit_lt_two_pow (by omega)]
    rfl
  · simp [hi]
theorem xor_high {m : Nat} (h1 : 9223372036854775808 ≤ m) (h2 : m < 18446744073709551616) : m ^^^ 9223372036854775808 = m - 9223372036854775808 := by
  have e := xor_low (m := m - 9223372036854775808) (by omega)
  rw [Nat.sub_add_cancel h1] at e
  have e2 : m ^^^ 9223372036854775808 = (m - 9223372036854775808 ^^^ 9223372036854775808) ^^^ 9223372036854775808 := by rw [e]
  rw [e2, Nat.xor_assoc, Nat.xor_self, Nat.xor_zero]
theorem bits_xor {m : Nat} (hm : m < 18446744073709551616) : Go.bits .xor .u64 (m : Int) 9223372036854775808 = ((m ^^^ 9223372036854775808 : Nat) : Int) := by
  have h : Go.bits .xor .u64 (m : Int) 9223372036854775808 = IntKind.u64.wrap ((BitVec.ofInt 64 (m : Int) ^^^ BitVec.ofInt 64 ((9223372036854775808 : Nat) : Int)).toNat : Int) := rfl
  have hx : m ^^^ 9223372036854775808 < 18446744073709551616 := by
    rcases Nat.lt_or_ge m 9223372036854775808 with h | h
    · rw [xor_low h]
      omega
    · rw [xor_high h hm]
      omega
  rw [h, BitVec.toNat_xor, BitVec.ofInt_natCast, BitVec.ofInt_natCast, BitVec.toNat_ofNat, BitVec.toNat_ofNat, Nat.mod_eq_of_lt (by omega), Nat.mod_eq_of_lt (by omega), wraps64 _ (by omega) (by omega)]
theorem ret_u64' {a b : Int} (h : a = b) : Ending.returned (.int .u64 a) = Ending.returned (.int .u64 b) := by rw [h]
set_option maxHeartbeats 2000000 in
theorem turnWhole_any (w : World) (m : Nat) (hm : m < 18446744073709551616) : Calls Tryd.prog 34 #[.int .u64 (m : Int)] w fun e w' => e = .returned (.int .u64 ((m ^^^ 9223372036854775808 : Nat) : Int)) ∧ w' = w := by
  have h := bits_xor hm
  go_enter Tryd.func34, Tryd.ntmps34
  go_wp2
  go_ret
  exact ⟨rfl, rfl⟩
set_option maxHeartbeats 4000000 in
set_option maxRecDepth 100000 in
theorem number_any (n0 : Nat) (w : World) (v : Value) (l : List UInt8) (hO : OwnB n0 w v l) (hn0 : n0 ≤ w.heap.size) (n : Nat) (hn : n < 18446744073709551616) (hlen : l.length + 8 ≤ 900000000) :
    Calls Tryd.prog 33 #[v, .int .u64 (n : Int)] w fun e w' => ∃ v', e = .returned v' ∧ OwnB n0 w' v' (l ++ encB 8 n) ∧ Grew w w' v v' := by
  go_enter Tryd.func33, Tryd.ntmps33
  go_wp2
  go_loopw [0, 5] (fun u i wr => ∃ k : Nat, k ≤ 8 ∧ i = .int .i64 (56 - 8 * (k : Int)) ∧ Hid (OwnB n0 wr u (l ++ (encB 8 n).take k)) ∧ Hid (Grew w wr v u)) (fun _ i _ => ((intOf i) + 8).toNat)
  case atStart => exact ⟨0, by omega, by simp, hide (by simpa using hO), hide (Grew.refl w v)⟩
  case round =>
    obtain ⟨k, hk, rfl, hO', hG⟩ := hrel
    have hcases : k = 0 ∨ k = 1 ∨ k = 2 ∨ k = 3 ∨ k = 4 ∨ k = 5 ∨ k = 6 ∨ k = 7 ∨ k = 8 := by omega
    have hgs := hG.out.by'.size
    rcases hcases with rfl | rfl | rfl | rfl | rfl | rfl | rfl | rfl | rfl
    · have e : (56 - 8 * ((0 : Nat) : Int)) = 56 := by decide
      have hc : cellB (UInt8.ofNat (n / 72057594037927936 % 256)) = .int .u8 ((n : Int) / 72057594037927936) := by unfold cellB; rw [u8_small (by omega)]; congr 1; omega
      have hl : (encB 8 n).take (0 + 1) = (encB 8 n).take 0 ++ [UInt8.ofNat (n / 72057594037927936 % 256)] := by rfl
      have hP := fun ty => push_one hO'.out (by omega) (UInt8.ofNat (n / 72057594037927936 % 256)) (by rw [List.length_append, List.length_take, encB_len]; omega) ty
      rw [hc] at hP
      obtain ⟨v', W', hr, ho, hg⟩ := hP 27
      rw [List.append_assoc, ← hl] at ho
      have HO := hide ho
      have HG := hide (hG.out.trans hg)
      rw [e]
      clear e hc hl hP ho hg
      go_wp2_with (at_builtin; refine Lib.wpList_append_run _ rfl _ _ _ _ rfl _ _ rfl rfl _ _ hr ?_)
      go_roundw
      case rel => exact ⟨0 + 1, by omega, by simp, HO, HG⟩
      case measure => simp only [intOf]; omega
    · have e : (56 - 8 * ((1 : Nat) : Int)) = 48 := by decide
      have hc : cellB (UInt8.ofNat (n / 281474976710656 % 256)) = .int .u8 ((n : Int) / 281474976710656 % 256) := by unfold cellB; rw [u8_small (by omega)]; congr 1
      have hl : (encB 8 n).take (1 + 1) = (encB 8 n).take 1 ++ [UInt8.ofNat (n / 281474976710656 % 256)] := by rfl
      have hP := fun ty => push_one hO'.out (by omega) (UInt8.ofNat (n / 281474976710656 % 256)) (by rw [List.length_append, List.length_take, encB_len]; omega) ty
      rw [hc] at hP
      obtain ⟨v', W', hr, ho, hg⟩ := hP 27
      rw [List.append_assoc, ← hl] at ho
      have HO := hide ho
      have HG := hide (hG.out.trans hg)
      rw [e]
      clear e hc hl hP ho hg
      go_wp2_with (at_builtin; refine Lib.wpList_append_run _ rfl _ _ _ _ rfl _ _ rfl rfl _ _ hr ?_)
      go_roundw
      case rel => exact ⟨1 + 1, by omega, by simp, HO, HG⟩
      case measure => simp only [intOf]; omega
    · have e : (56 - 8 * ((2 : Nat) : Int)) = 40 := by decide
      have hc : cellB (UInt8.ofNat (n / 1099511627776 % 256)) = .int .u8 ((n : Int) / 1099511627776 % 256) := by unfold cellB; rw [u8_small (by omega)]; congr 1
      have hl : (encB 8 n).take (2 + 1) = (encB 8 n).take 2 ++ [UInt8.ofNat (n / 1099511627776 % 256)] := by rfl
      have hP := fun ty => push_one hO'.out (by omega) (UInt8.ofNat (n / 1099511627776 % 256)) (by rw [List.length_append, List.length_take, encB_len]; omega) ty
      rw [hc] at hP
      obtain ⟨v', W', hr, ho, hg⟩ := hP 27
      rw [List.append_assoc, ← hl] at ho
      have HO := hide ho
      have HG := hide (hG.out.trans hg)
      rw [e]
      clear e hc hl hP ho hg
      go_wp2_with (at_builtin; refine Lib.wpList_append_run _ rfl _ _ _ _ rfl _ _ rfl rfl _ _ hr ?_)
      go_roundw
      case rel => exact ⟨2 + 1, by omega, by simp, HO, HG⟩
      case measure => simp only [intOf]; omega
    · have e : (56 - 8 * ((3 : Nat) : Int)) = 32 := by decide
      have hc : cellB (UInt8.ofNat (n / 4294967296 % 256)) = .int .u8 ((n : Int) / 4294967296 % 256) := by unfold cellB; rw [u8_small (by omega)]; congr 1
      have hl : (encB 8 n).take (3 + 1) = (encB 8 n).take 3 ++ [UInt8.ofNat (n / 4294967296 % 256)] := by rfl
      have hP := fun ty => push_one hO'.out (by omega) (UInt8.ofNat (n / 4294967296 % 256)) (by rw [List.length_append, List.length_take, encB_len]; omega) ty
      rw [hc] at hP
      obtain ⟨v', W', hr, ho, hg⟩ := hP 27
      rw [List.append_assoc, ← hl] at ho
      have HO := hide ho
      have HG := hide (hG.out.trans hg)
      rw [e]
      clear e hc hl hP ho hg
      go_wp2_with (at_builtin; refine Lib.wpList_append_run _ rfl _ _ _ _ rfl _ _ rfl rfl _ _ hr ?_)
      go_roundw
      case rel => exact ⟨3 + 1, by omega, by simp, HO, HG⟩
      case measure => simp only [intOf]; omega
    · have e : (56 - 8 * ((4 : Nat) : Int)) = 24 := by decide
      have hc : cellB (UInt8.ofNat (n / 16777216 % 256)) = .int .u8 ((n : Int) / 16777216 % 256) := by unfold cellB; rw [u8_small (by omega)]; congr 1
      have hl : (encB 8 n).take (4 + 1) = (encB 8 n).take 4 ++ [UInt8.ofNat (n / 16777216 % 256)] := by rfl
      have hP := fun ty => push_one hO'.out (by omega) (UInt8.ofNat (n / 16777216 % 256)) (by rw [List.length_append, List.length_take, encB_len]; omega) ty
      rw [hc] at hP
      obtain ⟨v', W', hr, ho, hg⟩ := hP 27
      rw [List.append_assoc, ← hl] at ho
      have HO := hide ho
      have HG := hide (hG.out.trans hg)
      rw [e]
      clear e hc hl hP ho hg
      go_wp2_with (at_builtin; refine Lib.wpList_append_run _ rfl _ _ _ _ rfl _ _ rfl rfl _ _ hr ?_)
      go_roundw
      case rel => exact ⟨4 + 1, by omega, by simp, HO, HG⟩
      case measure => simp only [intOf]; omega
    · have e : (56 - 8 * ((5 : Nat) : Int)) = 16 := by decide
      have hc : cellB (UInt8.ofNat (n / 65536 % 256)) = .int .u8 ((n : Int) / 65536 % 256) := by unfold cellB; rw [u8_small (by omega)]; congr 1
      have hl : (encB 8 n).take (5 + 1) = (encB 8 n).take 5 ++ [UInt8.ofNat (n / 65536 % 256)] := by rfl
      have hP := fun ty => push_one hO'.out (by omega) (UInt8.ofNat (n / 65536 % 256)) (by rw [List.length_append, List.length_take, encB_len]; omega) ty
      rw [hc] at hP
      obtain ⟨v', W', hr, ho, hg⟩ := hP 27
      rw [List.append_assoc, ← hl] at ho
      have HO := hide ho
      have HG := hide (hG.out.trans hg)
      rw [e]
      clear e hc hl hP ho hg
      go_wp2_with (at_builtin; refine Lib.wpList_append_run _ rfl _ _ _ _ rfl _ _ rfl rfl _ _ hr ?_)
      go_roundw
      case rel => exact ⟨5 + 1, by omega, by simp, HO, HG⟩
      case measure => simp only [intOf]; omega
    · have e : (56 - 8 * ((6 : Nat) : Int)) = 8 := by decide
      have hc : cellB (UInt8.ofNat (n / 256 % 256)) = .int .u8 ((n : Int) / 256 % 256) := by unfold cellB; rw [u8_small (by omega)]; congr 1
      have hl : (encB 8 n).take (6 + 1) = (encB 8 n).take 6 ++ [UInt8.ofNat (n / 256 % 256)] := by rfl
      have hP := fun ty => push_one hO'.out (by omega) (UInt8.ofNat (n / 256 % 256)) (by rw [List.length_append, List.length_take, encB_len]; omega) ty
      rw [hc] at hP
      obtain ⟨v', W', hr, ho, hg⟩ := hP 27
      rw [List.append_assoc, ← hl] at ho
      have HO := hide ho
      have HG := hide (hG.out.trans hg)
      rw [e]
      clear e hc hl hP ho hg
      go_wp2_with (at_builtin; refine Lib.wpList_append_run _ rfl _ _ _ _ rfl _ _ rfl rfl _ _ hr ?_)
      go_roundw
      case rel => exact ⟨6 + 1, by omega, by simp, HO, HG⟩
      case measure => simp only [intOf]; omega
    · have e : (56 - 8 * ((7 : Nat) : Int)) = 0 := by decide
      have hc : cellB (UInt8.ofNat (n % 256)) = .int .u8 ((n : Int) % 256) := by unfold cellB; rw [u8_small (by omega)]; congr 1
      have hl : (encB 8 n).take (7 + 1) = (encB 8 n).take 7 ++ [UInt8.ofNat (n % 256)] := by
        have e1 : n % 256 = n / 256 ^ 0 % 256 := by rw [Nat.pow_zero, Nat.div_one]
        rw [e1]
        rfl
      have hP := fun ty => push_one hO'.out (by omega) (UInt8.ofNat (n % 256)) (by rw [List.length_append, List.length_take, encB_len]; omega) ty
      rw [hc] at hP
      obtain ⟨v', W', hr, ho, hg⟩ := hP 27
      rw [List.append_assoc, ← hl] at ho
      have HO := hide ho
      have HG := hide (hG.out.trans hg)
      rw [e]
      clear e hc hl hP ho hg
      go_wp2_with (at_builtin; refine Lib.wpList_append_run _ rfl _ _ _ _ rfl _ _ rfl rfl _ _ hr ?_)
      go_roundw
      case rel => exact ⟨7 + 1, by omega, by simp, HO, HG⟩
      case measure => simp only [intOf]; omega
    · have e : (56 - 8 * ((8 : Nat) : Int)) = -8 := by decide
      have ho := hO'.out
      rw [List.take_of_length_le (by rw [encB_len]; omega)] at ho
      have HO := hide ho
      clear ho hO'
      rw [e]
      clear e
      go_wp2
      go_ret
      exact ⟨_, rfl, HO.out, hG.out⟩
end Go.Proofs.YtdpoiagnjdajbaaDoor.valus
/- A byte 0 in a text, marked: as strings.ReplaceAll has it. -/
set_option linter.unusedVariables false
namespace Go.Proofs.YtdpoiagnjdajbaaDoor.valus

theorem index_zero (s : List UInt8) : (Lib.index s [0] = -1 ∧ chainF s = s) ∨ ∃ i : Nat, Lib.index s [0] = i ∧ i < s.length ∧ chainF s = s.take i ++ (0 :: 255 :: chainF (s.drop (i + 1))) := by
  induction s with
  | nil => exact .inl ⟨rfl, rfl⟩
  | cons b l ih =>
    have hd : Lib.index (b :: l) [0] = if ([0] : List UInt8).isPrefixOf (b :: l) then 0 else if Lib.index l [0] == -1 then -1 else Lib.index l [0] + 1 := rfl
    have hp : ([0] : List UInt8).isPrefixOf (b :: l) = (0 == b) := by simp [List.isPrefixOf]
    rw [hd, hp, chainF_cons]
    by_cases hb : b = 0
    · subst hb
      exact .inr ⟨0, by simp, by simp, by simp⟩
    · have hb' : ((0 : UInt8) == b) = false := by
        rw [beq_eq_false_iff_ne]
        exact fun e => hb e.symm
      rw [hb', if_neg hb]
      rcases ih with ⟨h1, h2⟩ | ⟨i, h1, h2, h3⟩
      · rw [h1, h2]
        exact .inl ⟨by simp, rfl⟩
      · refine .inr ⟨i + 1, ?_, by simp; omega, ?_⟩
        · rw [h1]
          have : ((i : Int) == -1) = false := by
            rw [beq_eq_false_iff_ne]
            omega
          rw [this]
          simp
        · rw [h3]
          simp
theorem replaceK_zero : ∀ (n : Nat) (s : List UInt8), s.length ≤ n → Lib.replaceK [0] [0, 255] (Lib.count s [0]) s = chainF s
  | n, s, hn => by
    rcases index_zero s with ⟨h1, h2⟩ | ⟨i, h1, h2, h3⟩
    · rw [Lib.count_miss h1, h2]
      rfl
    · cases n with
      | zero => omega
      | succ n =>
        have hc := Lib.count_hit (s := s) (sub := [0]) (i := i) (by simp) h1
        rw [hc, Nat.add_comm, Lib.replaceK_hit _ _ _ _ i h1]
        have hl : ([0] : List UInt8).length = 1 := rfl
        rw [hl, replaceK_zero n (s.drop (i + 1)) (by rw [List.length_drop]; omega), h3]
        simp
theorem replaceAll_zero (s : List UInt8) : Lib.replaceAll s [0] [0, 255] = chainF s := by
  unfold Lib.replaceAll Lib.replace Lib.replaceNum
  rw [if_neg (by decide), if_pos (.inl (by decide))]
  exact replaceK_zero s.length s (Nat.le_refl _)
end Go.Proofs.YtdpoiagnjdajbaaDoor.valus
/- A text as bytes. -/
set_option linter.unusedVariables false
namespace Go.Proofs.YtdpoiagnjdajbaaDoor.valus
open Go.RowKit Go.Shelf

theorem OwnB.form {n0 : Nat} {W : World} {v : Value} {l : List UInt8} (h : OwnB n0 W v l) (hl : l ≠ []) : ∃ g cap, v = .slice (some ⟨g, 0, none⟩) l.length cap ∧ n0 ≤ g ∧ g < W.heap.size := by
  rcases h.2 with ⟨_, h2⟩ | ⟨g, cap, cur, h1, h2, h3, _⟩
  · exact absurd (List.eq_nil_of_length_eq_zero h2) hl
  · exact ⟨g, cap, h1, h2, (Array.getElem?_eq_some_iff.1 h3).1⟩
theorem conv_mark (w : World) :
    (convert 27 9 (.slice (some ⟨w.heap.size, 0, none⟩) 2 2)).run Tryd.prog (w.alloc (.cells #[.int .u8 0, .int .u8 255] 5)) = .ok (.string ⟨#[0, 255]⟩) (w.alloc (.cells #[.int .u8 0, .int .u8 255] 5)) := by
  rw [run_convert_bytes_string _ 27 9 5 _ _ _ Tryd.underlying27 Tryd.underlying5 Tryd.underlying9]
  have h := run_loadCells_list (P := Tryd.prog) (w := w.alloc (.cells #[.int .u8 0, .int .u8 255] 5)) ⟨w.heap.size, 0, none⟩ [.int .u8 0, .int .u8 255] (fun j u hj => by rw [Addr.add_lit, Nat.zero_add]; exact Blk.cell (blk_alloc w #[.int .u8 0, .int .u8 255] 5) j u (by simpa using hj))
  rw [run_bytesToString _ _ 2 2 [0, 255] h]
  rfl
set_option maxHeartbeats 4000000 in
set_option maxRecDepth 100000 in
theorem chain_any (n0 : Nat) (w : World) (v : Value) (l : List UInt8) (hO : OwnB n0 w v l) (hl : l ≠ []) (hn0 : n0 ≤ w.heap.size) (m : Int) (hm : w.cell? ⟨0, 0, none⟩ = some (.int .i64 m)) (s : ByteArray) (hs : s.size ≤ 1000000) (hlen : l.length ≤ 800000000) :
    Calls Tryd.prog 36 #[v, .string s] w fun e w' => ∃ v', e = .returned v' ∧ OwnB n0 w' v' (l ++ chainL s.data.toList) ∧ Grew w w' v v' := by
  obtain ⟨g, cap, rfl, hg0, hgl⟩ := hO.form hl
  have hGl := World.block_lt_of_cell? w _ hm
  have hcv := conv_mark w
  obtain ⟨W1, hW1⟩ : ∃ W1, W1 = w.alloc (.cells #[.int .u8 0, .int .u8 255] 5) := ⟨_, rfl⟩
  have b1 : Below w.heap.size w W1 := by rw [hW1]; exact (Below.refl _ w).alloc (Nat.le_refl _) _
  have hcnt := Lib.countB_le ⟨#[0]⟩ (by decide) s.size s (Nat.le_refl _)
  have hz : (⟨#[0, 255]⟩ : ByteArray).size = 2 := rfl
  have K := Tryd.strings_ReplaceAll s ⟨#[0]⟩ ⟨#[0, 255]⟩ m W1 (by omega) ((b1.cell (p := ⟨0, 0, none⟩) hGl).trans hm) (by decide) (by rw [hz]; omega)
  have e0 : (⟨#[0]⟩ : ByteArray).data.toList = [0] := rfl
  have e1 : (⟨#[0, 255]⟩ : ByteArray).data.toList = [0, 255] := rfl
  rw [e0, e1, replaceAll_zero] at K
  have hcl := chainF_len s.data.toList
  have hsz : s.data.toList.length = s.size := by simp
  have hz2 : (⟨(chainF s.data.toList).toArray⟩ : ByteArray).size = (chainF s.data.toList).length := rfl
  have ed : (⟨(chainF s.data.toList).toArray⟩ : ByteArray).data.toList = chainF s.data.toList := rfl
  have HA : Hid (∀ w2, Below W1.heap.size W1 w2 → ∃ v1 W3, (Builtin.append_ #[27, 9] 27 #[.slice (some ⟨g, 0, none⟩) l.length cap, .string ⟨(chainF s.data.toList).toArray⟩]).run Tryd.prog w2 = .ok v1 W3 ∧ OwnB n0 W3 v1 (l ++ chainF s.data.toList) ∧ Grew w W3 (.slice (some ⟨g, 0, none⟩) l.length cap) v1) := fun w2 b2 => by
    have hb2 : Below w.heap.size w w2 := b1.trans (b2.mono b1.size)
    obtain ⟨v1, W3, hr1, ho1, hg1⟩ := push_text (hO.later hb2) (Nat.le_trans hn0 hb2.size) ⟨(chainF s.data.toList).toArray⟩ (by rw [hz2]; omega) 27
    rw [ed] at ho1
    exact ⟨v1, W3, hr1, ho1, (Grew.below hb2 _).trans hg1⟩
  have HB : Hid (∀ v1 W3, OwnB n0 W3 v1 (l ++ chainF s.data.toList) → Grew w W3 (.slice (some ⟨g, 0, none⟩) l.length cap) v1 → ∃ v2 W4, (Builtin.append_ #[27, 27] 27 #[v1, .slice (some ⟨W3.heap.size, 0, none⟩) 2 2]).run Tryd.prog (W3.alloc (.cells #[.int .u8 0, .int .u8 0] 5)) = .ok v2 W4 ∧ OwnB n0 W4 v2 (l ++ chainL s.data.toList) ∧ Grew w W4 (.slice (some ⟨g, 0, none⟩) l.length cap) v2) := fun v1 W3 ho1 hg1 => by
    have s3 := hg1.by'.size
    obtain ⟨v2, W4, hr2, ho2, hg2⟩ := push_row (ho1.later (W' := W3.alloc (.cells #[.int .u8 0, .int .u8 0] 5)) ((Below.refl _ W3).alloc (Nat.le_refl _) _)) (by simp; omega) W3.heap.size 2 2 [0, 0] rfl (two_new W3 0 0) (by rw [List.length_append]; omega) 27
    rw [List.append_assoc] at ho2
    exact ⟨v2, W4, hr2, ho2, hg1.trans ((Grew.below ((Below.refl _ W3).alloc (Nat.le_refl _) _) v1).trans hg2)⟩
  have HK := hide K
  have H1 := hide hW1
  rw [hW1] at HK
  clear K hcnt hW1 e0 e1 hz2 ed hsz hcl hO
  go_enter Tryd.func36, Tryd.ntmps36
  go_wp2_with (first
    | (go_at_call 64; refine (unhide HK).mono ?_; rintro e w2 ⟨rfl, b2⟩; rw [← H1.out] at b2)
    | (at_builtin; obtain ⟨v1, W3, hr1, ho1, hg1⟩ := HA.out _ b2; refine Lib.wpList_append_run _ rfl _ _ _ _ rfl _ _ rfl rfl _ _ hr1 ?_)
    | (at_builtin; obtain ⟨v2, W4, hr2, ho2, hg2⟩ := HB.out _ _ ho1 hg1; refine Lib.wpList_append_run _ rfl _ _ _ _ rfl _ _ rfl rfl _ _ hr2 ?_))
  go_ret
  exact ⟨v2, rfl, ho2, hg2⟩
end Go.Proofs.YtdpoiagnjdajbaaDoor.valus
/- A value's bytes: how the program begins. -/
set_option linter.unusedVariables false
namespace Go.Proofs.YtdpoiagnjdajbaaDoor.valus
open Go.RowKit Go.Shelf

/-- What appendValue promises of a value. -/
def AppV (f : Nat) (t : V) : Prop :=
  ∀ (n0 : Nat) (w : World) (v : Value) (l : List UInt8) (ok : Nat → Prop) (a0 a1 a2 a3 a4 a5 : Value) (m : Int), (∀ b, ok b → b < n0) → LiesV ok f w [a0, a1, a2, a3, a4, a5] t → OwnB n0 w v l → n0 ≤ w.heap.size → 0 < n0 →
    w.cell? ⟨0, 0, none⟩ = some (.int .i64 m) → l.length + 10000 * nodesV f t ≤ 700000000 →
    Calls Tryd.prog 21 #[v, .agg #[a0, a1, a2, a3, a4, a5]] w fun e w' => ∃ v', e = .returned v' ∧ OwnB n0 w' v' (l ++ encV f t) ∧ Grew w w' v v'
/-- What stands below n0 stands. -/
theorem Grew.old {w w' : World} {v v' : Value} {n0 : Nat} {l : List UInt8} (h : Grew w w' v v') (hO : OwnB n0 w v l) (hn : n0 ≤ w.heap.size) : Below n0 w w' := h.to_below hn (fun g hg => (hO.lt g hg).1)
theorem begin_any (n0 : Nat) (w : World) (v : Value) (l : List UInt8) (hO : OwnB n0 w v l) (hn0 : n0 ≤ w.heap.size) (us : Array Value) (c : UInt8) (hlen : l.length ≤ 800000000) :
    ∃ v1 W2, (Builtin.append_ #[27, 27] 27 #[v, .slice (some ⟨w.heap.size + 1, 0, none⟩) 1 1]).run Tryd.prog ((w.alloc (.cells us 26)).alloc (.cells #[cellB c] 5)) = .ok v1 W2 ∧ OwnB n0 W2 v1 (l ++ [c]) ∧ Grew w W2 v v1 ∧ Blk W2 w.heap.size us 26 ∧ w.heap.size < W2.heap.size ∧ some w.heap.size ≠ v1.ownBlock := by
  have hb : Below w.heap.size w (w.alloc (.cells us 26)) := (Below.refl _ w).alloc (Nat.le_refl _) _
  obtain ⟨v1, W2, hr, ho, hg⟩ := push_one (hO.later hb) (by simp; omega) c (by omega) 27
  rw [World.size_alloc] at hr
  have hs := hg.by'.size
  rw [World.size_alloc] at hs
  have hne : some w.heap.size ≠ v.ownBlock := fun e => by have := (hO.lt _ e.symm).2; omega
  obtain ⟨e1, e2⟩ := hg.block (b := w.heap.size) (by simp) hne
  exact ⟨v1, W2, hr, ho, (Grew.below hb v).trans hg, e1.trans (blk_alloc w us 26), by omega, e2⟩
end Go.Proofs.YtdpoiagnjdajbaaDoor.valus
/- Null, and texts. -/
set_option linter.unusedVariables false
namespace Go.Proofs.YtdpoiagnjdajbaaDoor.valus
open Go.RowKit Go.Shelf

set_option maxHeartbeats 4000000 in
set_option maxRecDepth 100000 in
theorem val0_any (n0 : Nat) (w : World) (v : Value) (l : List UInt8) (n : Int) (b : Nat) (s : ByteArray) (pL pE : Option Addr) (nL cL nE cE : Nat) (hO : OwnB n0 w v l) (hn0 : n0 ≤ w.heap.size) (hlen : l.length ≤ 800000000) :
    Calls Tryd.prog 21 #[v, .agg #[.int .i64 0, .int .i64 n, .int .u64 (b : Int), .string s, .slice pL nL cL, .slice pE nE cE]] w fun e w' => ∃ v', e = .returned v' ∧ OwnB n0 w' v' (l ++ [1]) ∧ Grew w w' v v' := by
  obtain ⟨v1, W2, hr, ho, hg, hbk, hlt, hne⟩ := begin_any n0 w v l hO hn0 #[.int .i64 0, .int .i64 n, .int .u64 (b : Int), .string s, .slice pL nL cL, .slice pE nE cE] 1 hlen
  have hc : cellB 1 = .int .u8 1 := rfl
  rw [hc] at hr
  have c0 := hbk.cell 0 _ rfl
  have HO := hide ho
  have HG := hide hg
  clear ho hg hbk hO
  go_enter Tryd.func21, Tryd.ntmps21
  go_wp2_with (at_builtin; refine Lib.wpList_append_run _ rfl _ _ _ _ rfl _ _ rfl rfl _ _ hr ?_)
  go_ret
  exact ⟨v1, rfl, HO.out, HG.out⟩
set_option maxHeartbeats 4000000 in
set_option maxRecDepth 100000 in
theorem val4_any (n0 : Nat) (w : World) (v : Value) (l : List UInt8) (n : Int) (b : Nat) (s : ByteArray) (pL pE : Option Addr) (nL cL nE cE : Nat) (hO : OwnB n0 w v l) (hn0 : n0 ≤ w.heap.size) (hlen : l.length ≤ 700000000) (m : Int) (hG : 0 < n0) (hm : w.cell? ⟨0, 0, none⟩ = some (.int .i64 m)) (hs : s.size ≤ 1000000) :
    Calls Tryd.prog 21 #[v, .agg #[.int .i64 4, .int .i64 n, .int .u64 (b : Int), .string s, .slice pL nL cL, .slice pE nE cE]] w fun e w' => ∃ v', e = .returned v' ∧ OwnB n0 w' v' (l ++ (5 :: chainL s.data.toList)) ∧ Grew w w' v v' := by
  obtain ⟨v1, W2, hr, ho, hg, hbk, hlt, hne⟩ := begin_any n0 w v l hO hn0 #[.int .i64 4, .int .i64 n, .int .u64 (b : Int), .string s, .slice pL nL cL, .slice pE nE cE] 5 (by omega)
  have hc : cellB 5 = .int .u8 5 := rfl
  rw [hc] at hr
  have c0 := hbk.cell 0 _ rfl
  have c3 := hbk.cell 3 _ rfl
  have hbl := hg.old hO hn0
  have HK := hide (chain_any n0 W2 v1 (l ++ [5]) ho (by simp) (Nat.le_trans hn0 hbl.size) m ((hbl.cell (p := ⟨0, 0, none⟩) hG).trans hm) s hs (by simp; omega))
  have HG := hide hg
  clear ho hg hbk hO hbl hm
  go_enter Tryd.func21, Tryd.ntmps21
  go_wp2_with (first
    | (at_builtin; refine Lib.wpList_append_run _ rfl _ _ _ _ rfl _ _ rfl rfl _ _ hr ?_)
    | (go_at_call 36; refine (unhide HK).mono ?_; rintro e w3 ⟨v3, rfl, ho3, hg3⟩))
  go_ret
  exact ⟨v3, rfl, by rw [List.append_assoc] at ho3; exact ho3, HG.out.trans hg3⟩
end Go.Proofs.YtdpoiagnjdajbaaDoor.valus
