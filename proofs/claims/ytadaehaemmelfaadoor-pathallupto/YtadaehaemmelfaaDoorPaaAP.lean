/- Of our texts, what this claim reaches. -/
import Derived.Test.YtadaehaemmelfaaDoorPaaAN
import Derived.Test.YtadaehaemmelfaaDoorPaaAO
import Derived.WalkSmall
set_option linter.unusedVariables false
set_option maxHeartbeats 2000000
set_option maxRecDepth 100000
namespace Go.Proofs.YtadaehaemmelfaaDoor.escs
open Go.RowKit
open utfs
open bigs (digB bru64 formatBits_16 tabKeep)
def Bld (B b : Nat) (l : List UInt8) (w : World) : Prop := Lib.IsBuilderF 99 5 B b (Lib.byteCells l) w
def Kept (b : Nat) (w w' : World) : Prop := Lib.OthersKept 5 (some b) w w'
theorem Bld.below {B b : Nat} {l : List UInt8} {w w' : World} (h : Bld B b l w) (hb : Below w.heap.size w w') : Bld B b l w' := by
 have at_ : ∀ p, Lib.BuilderAtF 99 5 B b p (Lib.byteCells l) w → Lib.BuilderAtF 99 5 B b p (Lib.byteCells l) w' := fun p h => by
  have hlt := h.lt
  obtain ⟨hB, v, hv, hown, hne⟩ := h
  exact ⟨hB, v, (hb.block b hlt).trans hv, hown.kept (row := none) ⟨hb.os, hb.tape, hb.output, hb.size, fun k hk _ => hb.block k hk⟩ (Classical.em _), hne⟩
 exact h.elim (fun x => .inl (at_ _ x)) (fun x => .inr (at_ _ x))
theorem Kept.below {b : Nat} {w w' : World} (hb : Below w.heap.size w w') : Kept b w w' := fun k o hk _ _ => (hb.block k (Array.getElem?_eq_some_iff.1 hk).1).trans hk
theorem Kept.trans {b : Nat} {w1 w2 w3 : World} (h1 : Kept b w1 w2) (h2 : Kept b w2 w3) : Kept b w1 w3 := Lib.OthersKept.trans h1 h2
theorem byte_b (B b : Nat) (l : List UInt8) (x : Int) (c : UInt8) (hx : x = (c.toNat : Int)) (w : World) (h : Bld B b l w) (hl : l.length + 1 ≤ 140737488355328) (hB : B ≤ w.heap.size) :
  Calls Tryd.prog 106 #[.pointer (some ⟨b, 0, none⟩), .int .u8 x] w fun e w' => e = .returned .nilIface ∧ Bld B b (l ++ [c]) w' ∧ Below B w w' ∧ Kept b w w' := by
 subst hx
 refine (Tryd.Builder_WriteByte_k B b (Lib.byteCells l) _ w h (by rw [Lib.byteCells_length]; exact hl) hB).mono ?_
 rintro e w' ⟨rfl, h1, h2, h3⟩
 refine ⟨rfl, ?_, h2, h3⟩
 unfold Bld
 rw [Lib.byteCells_append]
 exact .inr h1
theorem str_b (B b : Nat) (l m : List UInt8) (w : World) (h : Bld B b l w) (hl : l.length + m.length ≤ 140737488355328) (hB : B ≤ w.heap.size) :
  Calls Tryd.prog 52 #[.pointer (some ⟨b, 0, none⟩), .string ⟨m.toArray⟩] w fun e w' => (∃ n : Int, e = .returned (.tuple #[.int .i64 n, .nilIface])) ∧ Bld B b (l ++ m) w' ∧ Below B w w' ∧ Kept b w w' := by
 refine (Tryd.Builder_WriteString_k B b (Lib.byteCells l) ⟨m.toArray⟩ w h (by rw [Lib.byteCells_length]; exact hl) hB).mono ?_
 rintro e w' ⟨rfl, h1, h2, h3⟩
 refine ⟨⟨_, rfl⟩, ?_, h2, h3⟩
 unfold Bld
 rw [Lib.byteCells_append]
 exact .inr h1
theorem rune_b (B b : Nat) (l : List UInt8) (r : Int) (hs : sc r = true) (w : World) (h : Bld B b l w) (hl : l.length + 4 ≤ 140737488355328) (hB : B ≤ w.heap.size) :
  Calls Tryd.prog 113 #[.pointer (some ⟨b, 0, none⟩), .int .i32 r] w fun e w' => (∃ n : Int, e = .returned (.tuple #[.int .i64 n, .nilIface])) ∧ Bld B b (l ++ Lib.encodeRune r) w' ∧ Below B w w' ∧ Kept b w w' := by
 have h0 := sc_true hs
 refine (Tryd.Builder_WriteRune_k B b (Lib.byteCells l) r (by omega) (by omega) w h (by rw [Lib.byteCells_length]; exact hl) hB).mono ?_
 rintro e w' ⟨rfl, h1, h2, h3⟩
 refine ⟨⟨_, rfl⟩, ?_, h2, h3⟩
 unfold Bld
 rw [Lib.byteCells_append, Lib.byteCells_encodeRune]
 exact .inr h1
theorem text_b (B b : Nat) (l : List UInt8) (w : World) (h : Bld B b l w) (hB : B ≤ w.heap.size) :
  Calls Tryd.prog 54 #[.pointer (some ⟨b, 0, none⟩)] w fun e w' => e = .returned (.string ⟨l.toArray⟩) ∧ Below B w w' := by
 refine (Tryd.Builder_String_any_k B b l w h hB).mono ?_
 rintro e w' ⟨rfl, _, h2, _⟩
 exact ⟨rfl, h2⟩
theorem hexI (w : World) (u : Nat) (hu : u < 256) (ht : Lib.TabIs Tryd.prog w "math/bits.deBruijn64tab" .u8 bru64) :
  Calls Tryd.prog 108 #[.int .i64 (u : Int), .int .i64 16] w fun e w' => e = .returned (.string ⟨(digB 16 u).toArray⟩) ∧ Below w.heap.size w w' := by
 have K := hide (formatBits_16 w u (by omega) ht)
 clear ht
 have i1 : ¬ (u : Int) < 0 := by omega
 go_enter Tryd.func108, Tryd.ntmps108
 go_wp2_with fail
 refine (unhide K).mono ?_
 rintro e w' ⟨rfl, b1⟩
 have B := hide b1
 clear b1 K
 go_wp2
 go_ret
 exact ⟨rfl, unhide B⟩
theorem hex_any (w : World) (u : Nat) (hu : u < 256) (ht : Lib.TabIs Tryd.prog w "math/bits.deBruijn64tab" .u8 bru64) :
  Calls Tryd.prog 89 #[.int .i64 (u : Int), .int .i64 16] w fun e w' => e = .returned (.string ⟨(digB 16 u).toArray⟩) ∧ Below w.heap.size w w' := by
 have K := hide (hexI w u hu ht)
 clear ht
 go_enter Tryd.func89, Tryd.ntmps89
 go_wp2_with fail
 refine (unhide K).mono ?_
 rintro e w' ⟨rfl, b1⟩
 have B := hide b1
 clear b1 K
 go_wp2
 go_ret
 exact ⟨rfl, unhide B⟩
theorem catL (a b : List UInt8) (h : a.length + b.length ≤ 9223372036854775807) (u : World) : (Op.stringOp .add ⟨a.toArray⟩ ⟨b.toArray⟩).run Tryd.prog u = .ok (.string ⟨(a ++ b).toArray⟩) u := by
 rw [run_string_add_sum _ _ _ (by show a.toArray.size + b.toArray.size ≤ _; rw [List.size_toArray, List.size_toArray]; exact h)]
 congr 2
theorem wq_any (B b : Nat) (l : List UInt8) (r : Int) (hs : sc r = true) (w : World) (h : Bld B b l w) (hl : l.length + 16 ≤ 140737488355328) (hB : B ≤ w.heap.size) (ht : Lib.TabIs Tryd.prog w "math/bits.deBruijn64tab" .u8 bru64) :
  Calls Tryd.prog 107 #[.pointer (some ⟨b, 0, none⟩), .int .i32 r] w fun e w' => e = .returned (.tuple #[]) ∧ Bld B b (l ++ qr r) w' ∧ Below B w w' ∧ Kept b w w' := by
 have h0 := sc_true hs
 rcases qr_cases r hs with c | ⟨c, h34, h92, h10, h9, h13⟩ | ⟨c, h127, h34, h92⟩
 ·rcases c with rfl | rfl | rfl | rfl | rfl
  ·have K1 := hide (byte_b B b l 92 92 rfl w h (by omega) hB)
   have e : Hid (l ++ qr 34 = l ++ [92] ++ Lib.encodeRune 34) := hide (by rw [List.append_assoc]; rfl)
   clear ht h
   go_enter Tryd.func107, Tryd.ntmps107
   go_wp2_with fail
   refine (unhide K1).mono ?_
   rintro _ w1 ⟨rfl, b1, k1, o1⟩
   have K2 := hide (rune_b B b (l ++ [92]) 34 hs w1 b1 (by simp; omega) (Nat.le_trans hB k1.size))
   go_wp2_with fail
   refine (unhide K2).mono ?_
   rintro _ w2 ⟨⟨n, rfl⟩, b2, k2, o2⟩
   go_wp2
   go_end0
   rw [unhide e]
   exact ⟨rfl, b2, k1.trans k2, o1.trans o2⟩
  ·have K1 := hide (byte_b B b l 92 92 rfl w h (by omega) hB)
   have e : Hid (l ++ qr 92 = l ++ [92] ++ Lib.encodeRune 92) := hide (by rw [List.append_assoc]; rfl)
   clear ht h
   go_enter Tryd.func107, Tryd.ntmps107
   go_wp2_with fail
   refine (unhide K1).mono ?_
   rintro _ w1 ⟨rfl, b1, k1, o1⟩
   have K2 := hide (rune_b B b (l ++ [92]) 92 hs w1 b1 (by simp; omega) (Nat.le_trans hB k1.size))
   go_wp2_with fail
   refine (unhide K2).mono ?_
   rintro _ w2 ⟨⟨n, rfl⟩, b2, k2, o2⟩
   go_wp2
   go_end0
   rw [unhide e]
   exact ⟨rfl, b2, k1.trans k2, o1.trans o2⟩
  ·have K1 := hide (str_b B b l [92, 110] w h (by simp; omega) hB)
   have e : Hid (l ++ qr 10 = l ++ [92, 110]) := hide rfl
   clear ht h
   go_enter Tryd.func107, Tryd.ntmps107
   go_wp2_with fail
   refine (unhide K1).mono ?_
   rintro _ w1 ⟨⟨n, rfl⟩, b1, k1, o1⟩
   go_wp2
   go_end0
   rw [unhide e]
   exact ⟨rfl, b1, k1, o1⟩
  ·have K1 := hide (str_b B b l [92, 116] w h (by simp; omega) hB)
   have e : Hid (l ++ qr 9 = l ++ [92, 116]) := hide rfl
   clear ht h
   go_enter Tryd.func107, Tryd.ntmps107
   go_wp2_with fail
   refine (unhide K1).mono ?_
   rintro _ w1 ⟨⟨n, rfl⟩, b1, k1, o1⟩
   go_wp2
   go_end0
   rw [unhide e]
   exact ⟨rfl, b1, k1, o1⟩
  ·have K1 := hide (str_b B b l [92, 114] w h (by simp; omega) hB)
   have e : Hid (l ++ qr 13 = l ++ [92, 114]) := hide rfl
   clear ht h
   go_enter Tryd.func107, Tryd.ntmps107
   go_wp2_with fail
   refine (unhide K1).mono ?_
   rintro _ w1 ⟨⟨n, rfl⟩, b1, k1, o1⟩
   go_wp2
   go_end0
   rw [unhide e]
   exact ⟨rfl, b1, k1, o1⟩
 ·obtain ⟨u, rfl⟩ : ∃ u : Nat, r = u := ⟨r.toNat, by omega⟩
  have hu : u < 256 := by omega
  have KH := hide (hex_any w u hu ht)
  have e : Hid (l ++ qr (u : Int) = l ++ ([92, 117, 123] ++ digB 16 u ++ [125])) := hide (by rw [qr_hex c h10 h9 h13]; simp)
  have hd : (digB 16 u).length ≤ 2 := by
   rcases hex_two h0.1 c with ⟨d, _, _, eg⟩ | ⟨a, d, _, _, _, eg⟩ <;> rw [Int.toNat_natCast] at eg <;> rw [eg] <;> simp
  generalize digB 16 u = D at *
  have a1 := catL [92, 117, 123] D (by simp; omega)
  have a2 := catL ([92, 117, 123] ++ D) [125] (by simp; omega)
  have hm : ([92, 117, 123] ++ D ++ [125]).length ≤ 6 := by simp; omega
  generalize [92, 117, 123] ++ D ++ [125] = M at *
  generalize [92, 117, 123] ++ D = M1 at *
  have i34 : ((u : Int) == 34) = false := beq_false_of_ne h34
  have i92 : ((u : Int) == 92) = false := beq_false_of_ne h92
  have i10 : ((u : Int) == 10) = false := beq_false_of_ne h10
  have i9 : ((u : Int) == 9) = false := beq_false_of_ne h9
  have i13 : ((u : Int) == 13) = false := beq_false_of_ne h13
  have H := hide h
  by_cases c1 : (u : Int) < 32
  ·clear h34 h92 h10 h9 h13 c ht h hs hd
   go_enter Tryd.func107, Tryd.ntmps107
   go_wp2_with fail
   refine (unhide KH).mono ?_
   rintro _ w1 ⟨rfl, k1⟩
   have K2 := hide (str_b B b l M w1 ((unhide H).below k1) (by omega) (Nat.le_trans hB k1.size))
   go_wp2_with fail
   refine (unhide K2).mono ?_
   rintro _ w2 ⟨⟨n, rfl⟩, b2, k2, o2⟩
   go_wp2
   go_end0
   rw [unhide e]
   exact ⟨rfl, b2, (k1.mono hB).trans k2, (Kept.below k1).trans o2⟩
  ·have i127 : ((u : Int) == 127) = true := by rw [show (u : Int) = 127 by omega]; rfl
   clear h34 h92 h10 h9 h13 c ht h hs hd
   go_enter Tryd.func107, Tryd.ntmps107
   go_wp2_with fail
   refine (unhide KH).mono ?_
   rintro _ w1 ⟨rfl, k1⟩
   have K2 := hide (str_b B b l M w1 ((unhide H).below k1) (by omega) (Nat.le_trans hB k1.size))
   go_wp2_with fail
   refine (unhide K2).mono ?_
   rintro _ w2 ⟨⟨n, rfl⟩, b2, k2, o2⟩
   go_wp2
   go_end0
   rw [unhide e]
   exact ⟨rfl, b2, (k1.mono hB).trans k2, (Kept.below k1).trans o2⟩
 ·have K1 := hide (rune_b B b l r hs w h (by omega) hB)
  have e : Hid (l ++ qr r = l ++ Lib.encodeRune r) := hide (by rw [qr_plain c h127 h34 h92])
  have i34 : (r == 34) = false := beq_false_of_ne h34
  have i92 : (r == 92) = false := beq_false_of_ne h92
  have i10 : (r == 10) = false := beq_false_of_ne (by omega)
  have i9 : (r == 9) = false := beq_false_of_ne (by omega)
  have i13 : (r == 13) = false := beq_false_of_ne (by omega)
  have i127 : (r == 127) = false := beq_false_of_ne h127
  have i32 : ¬ r < 32 := by omega
  clear ht h h34 h92 h127
  go_enter Tryd.func107, Tryd.ntmps107
  go_wp2_with fail
  refine (unhide K1).mono ?_
  rintro _ w1 ⟨⟨n, rfl⟩, b1, k1, o1⟩
  go_wp2
  go_end0
  rw [unhide e]
  exact ⟨rfl, b1, k1, o1⟩
theorem quote_bad (s : ByteArray) (w : World) (hs : s.size ≤ 9223372036854775807) (hT : Lib.Utf8Tabs 1 2 w) (hb : 0 ≤ bad s.data.toList) :
  Calls Tryd.prog 88 #[.string s] w fun e w' => e = .returned (.tuple #[.string ⟨#[]⟩, .int .i64 3]) ∧ Below w.heap.size w w' := by
 have K := hide (bad_any s w hs hT)
 clear hT
 generalize bad s.data.toList = v at *
 go_enter Tryd.func88, Tryd.ntmps88
 go_wp2_with fail
 refine (unhide K).mono ?_
 rintro _ w1 ⟨rfl, b1⟩
 clear K
 go_wp2
 go_ret2
 exact ⟨rfl, b1⟩
theorem runes_step {s : ByteArray} {rs acc : List Int} {pos : Nat} {r : Int} {rest : List Int} (hl : s.data.toList = enc rs) (hsc : ∀ q ∈ rs, sc q = true) (hr : rs = acc ++ r :: rest) (hp : pos = (enc acc).length) :
  pos < s.size ∧ Utf8.decode s pos = (r.toNat, (Lib.encodeRune r).length) ∧ sc r = true ∧ pos + (Lib.encodeRune r).length = (enc (acc ++ [r])).length := by
 have hq : sc r = true := hsc r (by rw [hr]; simp)
 have h4 := encodeRune_length r
 have hd := Lib.decodeL_drop s pos
 have he : s.data.toList.drop pos = Lib.encodeRune r ++ enc rest := by
  rw [hl, hr, enc_append, enc_cons, hp, List.drop_left' rfl]
 rw [he, dec_enc hq] at hd
 have hlen := congrArg List.length hl
 rw [len_list, hr, enc_append, enc_cons, List.length_append, List.length_append] at hlen
 refine ⟨by omega, hd.symm, hq, ?_⟩
 rw [enc_append, enc_one, List.length_append, hp]
theorem quote_good (s : ByteArray) (rs : List Int) (w : World) (hs : s.size ≤ 1073741824) (hT : Lib.Utf8Tabs 1 2 w) (ht : Lib.TabIs Tryd.prog w "math/bits.deBruijn64tab" .u8 bru64) (hl : s.data.toList = enc rs) (hsc : ∀ r ∈ rs, sc r = true) :
  Calls Tryd.prog 88 #[.string s] w fun e w' => e = .returned (.tuple #[.string ⟨(quoteL rs).toArray⟩, .int .i64 0]) ∧ Below w.heap.size w w' := by
 have K := bad_any s w (by omega) hT
 rw [hl, bad_enc hsc] at K
 have K := hide K
 have HL := hide hl
 have HSC := hide hsc
 have HT := hide ht
 clear hT ht hl hsc
 go_enter Tryd.func88, Tryd.ntmps88
 go_wp2_with fail
 refine (unhide K).mono ?_
 rintro _ w1 ⟨rfl, b1⟩
 have B1 := hide b1
 clear K
 have I0 : Hid (Bld w1.heap.size w1.heap.size [] (w1.alloc (.cells #[.pointer none, .slice none 0 0] 99))) := hide (Lib.IsBuilderF.of (Lib.fresh_isBuilder 99 5 w1))
 go_wp2_with fail
 refine (byte_b w1.heap.size w1.heap.size [] 34 34 rfl _ (unhide I0) (by simp) (by simp)).mono ?_
 rintro _ w2 ⟨rfl, i2, b2, o2⟩
 have b2' : Below w1.heap.size w1 w2 := ((Below.refl _ w1).alloc (Nat.le_refl _) _).trans b2
 have lt2 : w1.heap.size < w2.heap.size := by have := b2.size; simp at this; omega
 have I2 := hide i2
 have B2 := hide b2'
 clear i2 b2 b2' o2 I0 b1
 have hN : w.heap.size ≤ w1.heap.size := (unhide B1).size
 generalize w1.heap.size = N at *
 generalize hM : w2.heap.size = M at *
 go_wp2_with fail
 go_loopw [] (fun wr => ∃ (acc rest : List Int) (pos : Nat), wr.heap[M]? = some (.stringIter s pos) ∧ Hid (rs = acc ++ rest) ∧ Hid (pos = (enc acc).length) ∧ Hid (Bld N N (34 :: qs acc) wr) ∧ Hid (Below N w1 wr)) (fun wr => s.size - wr.iterPos M)
 case atStart =>
  refine ⟨[], rs, 0, ?_, hide rfl, hide rfl, hide (Lib.IsBuilderF.alloc (unhide I2) _), hide ((unhide B2).alloc (by omega) _)⟩
  rw [← hM]
  have := World.iter_heap w2 s 0
  simpa using this
 case round =>
  obtain ⟨acc, rest, pos, hit, hr, hp, hI, hB⟩ := hrel
  have hsz : M < wr.heap.size := (Array.getElem?_eq_some_iff.1 hit).1
  cases rest with
  | nil =>
   have hps : ¬ pos < s.size := by
    have h1 := congrArg List.length (unhide HL)
    have h2 := unhide hr
    rw [List.append_nil] at h2
    rw [len_list, h2] at h1
    have := unhide hp
    omega
   have hnx : ∀ ty, (Instr.next (.pointer (some ⟨M, 0, none⟩)) true ty).run Tryd.prog wr = _ := fun ty => Lib.run_next_end_at wr M s pos ty hit hps
   have hlen : (34 :: qs acc).length ≤ 6 * s.size + 1 := by
    have h2 := unhide hr
    rw [List.append_nil] at h2
    have h3 := qs_le rs (unhide HSC)
    rw [← unhide HL, len_list, h2] at h3
    simp only [List.length_cons]
    omega
   have E : Hid (quoteL rs = 34 :: qs acc ++ [34]) := hide (by
    have h2 := unhide hr
    rw [List.append_nil] at h2
    rw [h2]; rfl)
   clear hr hp hit hps
   generalize 34 :: qs acc = L at *
   go_wp2_with fail
   refine (byte_b N N L 34 34 rfl wr (unhide hI) (by omega) (by omega)).mono ?_
   rintro _ w3 ⟨rfl, i3, b3, o3⟩
   have I3 := hide i3
   have B3 := hide ((unhide hB).trans b3)
   have s3 := b3.size
   clear i3 b3 o3 hI hB
   go_wp2_with fail
   refine (text_b N N (L ++ [34]) w3 (unhide I3) (by omega)).mono ?_
   rintro _ w4 ⟨rfl, b4⟩
   go_wp2
   go_ret2
   rw [unhide E]
   exact ⟨rfl, (unhide B1).trans (((unhide B3).trans b4).mono hN)⟩
  | cons r rest =>
   obtain ⟨hps, hdec, hq, hnext⟩ := runes_step (unhide HL) (unhide HSC) (unhide hr) (unhide hp)
   have h0 := sc_true hq
   have h4 := encodeRune_length r
   have hnx : ∀ ty, (Instr.next (.pointer (some ⟨M, 0, none⟩)) true ty).run Tryd.prog wr = .ok (.tuple #[.bool true, .int .i64 (pos : Int), .int .i32 r]) (wr.iterAt M s (pos + (Lib.encodeRune r).length)) := fun ty => by
    rw [Lib.run_next_any_at wr M s pos ty hit hps, hdec]
    simp only
    rw [show ((r.toNat : Nat) : Int) = r by omega]
   have hlen : (34 :: qs acc).length ≤ 6 * s.size + 1 := by
    have h2 := unhide hr
    have h3 := qs_le acc (fun q hq => unhide HSC q (by rw [h2]; exact List.mem_append_left _ hq))
    have := unhide hp
    simp only [List.length_cons]
    omega
   have I2 : Hid (Bld N N (34 :: qs acc) (wr.iterAt M s (pos + (Lib.encodeRune r).length))) := hide (Lib.IsBuilderF.iterAt (unhide hI) hit _)
   have hit2 := Lib.iterAt_heap wr M s pos (pos + (Lib.encodeRune r).length) hit
   have B3 := hide (Lib.below_iterAt (unhide hB) (k := M) (by omega) s (pos + (Lib.encodeRune r).length))
   have T2 := hide (tabKeep (unhide HT) ((unhide B1).trans ((unhide B3).mono hN)))
   have hr2 : Hid (rs = (acc ++ [r]) ++ rest) := hide (by rw [unhide hr]; simp)
   have hn2 : Hid (pos + (Lib.encodeRune r).length = (enc (acc ++ [r])).length) := hide hnext
   have hq2 : Hid (34 :: qs (acc ++ [r]) = 34 :: qs acc ++ qr r) := hide (by rw [qs_append, qs_one]; rfl)
   have hsz2 : N ≤ (wr.iterAt M s (pos + (Lib.encodeRune r).length)).heap.size := by rw [Lib.iterAt_size]; omega
   have hqp : Hid (wr.iterPos M = pos) := hide (by simp only [World.iterPos, hit])
   clear hr hp hI hB hnext hdec hit
   generalize 34 :: qs acc = L at *
   generalize (Lib.encodeRune r).length = n at *
   go_wp2_with fail
   refine (wq_any N N L r hq _ (unhide I2) (by omega) hsz2 (unhide T2)).mono ?_
   rintro _ w3 ⟨rfl, i3, b3, o3⟩
   have hit3 : w3.heap[M]? = some (.stringIter s (pos + n)) := o3 M _ hit2 (by simp; omega) (by simp)
   have I3 := hide i3
   have B4 := hide ((unhide B3).trans b3)
   clear i3 b3 o3 I2 B3 T2
   go_wp2
   go_roundw
   case rel => exact ⟨acc ++ [r], rest, pos + n, hit3, hr2, hn2, hide (by rw [unhide hq2]; exact unhide I3), B4⟩
   case measure =>
    have := unhide hqp
    rw [this]
    simp only [World.iterPos, hit3]
    omega
end Go.Proofs.YtadaehaemmelfaaDoor.escs
