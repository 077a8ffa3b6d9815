/- Of our texts, what this claim reaches. -/
import Derived.Test.YtnbfnjhbmeocfabGreatDoorPssAM
import Derived.Test.YtnbfnjhbmeocfabGreatDoorPssAI
import Derived.Test.YtnbfnjhbmeocfabGreatDoorPssAN
import Derived.Deep.QuietTactic
import Derived.BigQuiet
import Derived.Test.YtnbfnjhbmeocfabGreatDoorPssAP
import Derived.Test.YtnbfnjhbmeocfabGreatDoorPssAA
set_option linter.unusedVariables false
set_option maxHeartbeats 1000000
set_option maxRecDepth 100000
namespace Go.Proofs.YtnbfnjhbmeocfabGreatDoor.escs
open Go.RowKit
open utfs
def resT : Res → List UInt8
 | .inl _ => []
 | .inr (rs, _) => enc rs
def resE : Res → Int
 | .inl e => e
 | .inr (_, _) => 0
end Go.Proofs.YtnbfnjhbmeocfabGreatDoor.escs
namespace Go.Proofs.YtnbfnjhbmeocfabGreatDoor.escs
open Go.RowKit
open utfs
open bigs (hexc digB bru64 tabKeep)
theorem ascii_enc : ∀ (l : List UInt8), (∀ c ∈ l, c.toNat < 128) → ∃ ls : List Int, (∀ r ∈ ls, sc r = true) ∧ l = enc ls
 | [], _ => ⟨[], by simp, rfl⟩
 | c :: l, h => by
  obtain ⟨ls, h1, h2⟩ := ascii_enc l (fun d hd => h d (List.mem_cons_of_mem _ hd))
  have hc := h c List.mem_cons_self
  refine ⟨(c.toNat : Int) :: ls, ?_, ?_⟩
  ·intro r hr
   rcases List.mem_cons.1 hr with rfl | hr
   ·exact sc_low (by omega) (by omega)
   ·exact h1 r hr
  ·rw [enc_cons, enc_low (by omega) (by omega), ← h2]
   simp
theorem hexc_low {d : Nat} (h : d < 16) : (hexc d).toNat < 128 ∧ hexc d ≠ 10 := by
 have : ∀ k : Fin 16, (hexc k).toNat < 128 ∧ hexc k ≠ 10 := by decide
 exact this ⟨d, h⟩
theorem qr_good {r : Int} (hs : sc r = true) : (∃ ls : List Int, (∀ q ∈ ls, sc q = true) ∧ qr r = enc ls) ∧ (10 : UInt8) ∉ qr r := by
 have h0 := sc_true hs
 rcases qr_cases r hs with h | ⟨h, h34, h92, h10, h9, h13⟩ | ⟨h, h127, h34, h92⟩
 ·rcases h with rfl | rfl | rfl | rfl | rfl
  all_goals exact ⟨ascii_enc _ (by decide), by decide⟩
 ·rw [qr_hex h h10 h9 h13]
  rcases hex_two h0.1 h with ⟨d, hd, _, eg⟩ | ⟨a, d, ha, hd, _, eg⟩
  ·rw [eg]
   have x := hexc_low hd
   refine ⟨ascii_enc _ ?_, ?_⟩
   ·simp [x.1]
   ·simp [Ne.symm x.2]
  ·rw [eg]
   have x := hexc_low hd
   have y := hexc_low ha
   refine ⟨ascii_enc _ ?_, ?_⟩
   ·simp [x.1, y.1]
   ·simp [Ne.symm x.2, Ne.symm y.2]
 ·rw [qr_plain h h127 h34 h92]
  refine ⟨⟨[r], by simpa using hs, by rw [enc_one]⟩, ?_⟩
  have ten : ∀ x : Int, 0 ≤ x → x < 256 → x ≠ 10 → (10 : UInt8) ≠ x.toNat.toUInt8 := fun x a b c e => by
   have := congrArg UInt8.toNat e
   rw [byte_toNat a b] at this
   have t : (10 : UInt8).toNat = 10 := rfl
   omega
  rcases code_forms hs with ⟨a, e⟩ | ⟨a, b, e⟩ | ⟨a, b, e⟩ | ⟨a, e⟩ <;> rw [e]
  ·simp only [List.mem_singleton]
   exact ten _ (by omega) (by omega) (by omega)
  ·simp only [List.mem_cons, List.not_mem_nil, or_false, not_or]
   exact ⟨ten _ (by omega) (by omega) (by omega), ten _ (by omega) (by omega) (by omega)⟩
  ·simp only [List.mem_cons, List.not_mem_nil, or_false, not_or]
   exact ⟨ten _ (by omega) (by omega) (by omega), ten _ (by omega) (by omega) (by omega), ten _ (by omega) (by omega) (by omega)⟩
  ·simp only [List.mem_cons, List.not_mem_nil, or_false, not_or]
   exact ⟨ten _ (by omega) (by omega) (by omega), ten _ (by omega) (by omega) (by omega), ten _ (by omega) (by omega) (by omega), ten _ (by omega) (by omega) (by omega)⟩
theorem qs_good : ∀ (rs : List Int), (∀ r ∈ rs, sc r = true) → (∃ ls : List Int, (∀ q ∈ ls, sc q = true) ∧ qs rs = enc ls) ∧ (10 : UInt8) ∉ qs rs
 | [], _ => ⟨⟨[], by simp, rfl⟩, by simp [qs]⟩
 | r :: rs, h => by
  obtain ⟨⟨l1, a1, e1⟩, n1⟩ := qr_good (h r List.mem_cons_self)
  obtain ⟨⟨l2, a2, e2⟩, n2⟩ := qs_good rs (fun q hq => h q (List.mem_cons_of_mem _ hq))
  rw [qs_cons]
  refine ⟨⟨l1 ++ l2, ?_, by rw [enc_append, e1, e2]⟩, ?_⟩
  ·intro q hq
   rcases List.mem_append.1 hq with k | k
   ·exact a1 q k
   ·exact a2 q k
  ·intro k
   rcases List.mem_append.1 k with k | k
   ·exact n1 k
   ·exact n2 k
theorem quoteL_good {rs : List Int} (h : ∀ r ∈ rs, sc r = true) : bad (quoteL rs) = -1 ∧ (10 : UInt8) ∉ quoteL rs := by
 obtain ⟨⟨ls, a, e⟩, n⟩ := qs_good rs h
 have he : quoteL rs = enc (34 :: (ls ++ [34])) := by
  have e34 : Lib.encodeRune 34 = [34] := by decide
  unfold quoteL
  rw [enc_cons, enc_append, enc_one, e34, e]
  rfl
 refine ⟨?_, ?_⟩
 ·rw [he]
  apply bad_enc
  intro r hr
  rcases List.mem_cons.1 hr with rfl | hr
  ·rfl
  ·rcases List.mem_append.1 hr with k | k
   ·exact a r k
   ·simp only [List.mem_singleton] at k
    rw [k]; rfl
 ·unfold quoteL
  intro k
  rcases List.mem_cons.1 k with k | k
  ·cases k
  ·rcases List.mem_append.1 k with k | k
   ·exact n k
   ·simp only [List.mem_singleton] at k
    cases k
theorem quoteL_len {rs : List Int} (h : ∀ r ∈ rs, sc r = true) : (quoteL rs).length ≤ 6 * (enc rs).length + 2 := by
 have := qs_le rs h
 unfold quoteL
 simp only [List.length_cons, List.length_append, List.length_nil]
 omega
structure EscTabs (w : World) : Prop where
 utf : Lib.Utf8Tabs 1 2 w
 bru : Lib.TabIs Tryz.prog w "math/bits.deBruijn64tab" .u8 bru64
theorem text_of {s : ByteArray} {l : List UInt8} (h : s.data.toList = l) : (⟨l.toArray⟩ : ByteArray) = s := by
 rw [← h]
def keyT (l : List UInt8) : List UInt8 := if bareL l = true then l else if 0 ≤ bad l then [] else quoteL (runes l)
def keyE (l : List UInt8) : Int := if bareL l = true then 0 else if 0 ≤ bad l then 3 else 0
def quoT (l : List UInt8) : List UInt8 := if 0 ≤ bad l then [] else quoteL (runes l)
def quoE (l : List UInt8) : Int := if 0 ≤ bad l then 3 else 0
theorem quote_any (w : World) (s : ByteArray) (hs : s.size ≤ 1073741824) (hT : EscTabs w) :
  Calls Tryz.prog 115 #[.string s] w fun e w' => e = .returned (.tuple #[.string ⟨(quoT s.data.toList).toArray⟩, .int .i64 (quoE s.data.toList)]) ∧ Below w.heap.size w w' := by
 unfold quoT quoE
 by_cases h : 0 ≤ bad s.data.toList
 ·rw [if_pos h, if_pos h]
  exact quote_bad s w (by omega) hT.utf h
 ·rw [if_neg h, if_neg h]
  obtain ⟨a, b⟩ := good_runes (l := s.data.toList) (by omega)
  exact quote_good s _ w hs hT.utf hT.bru a b
theorem key_any (w : World) (s : ByteArray) (hs : s.size ≤ 1073741824) (hT : EscTabs w) :
  Calls Tryz.prog 111 #[.string s] w fun e w' => e = .returned (.tuple #[.string ⟨(keyT s.data.toList).toArray⟩, .int .i64 (keyE s.data.toList)]) ∧ Below w.heap.size w w' := by
 have KB := hide (bare_any w s)
 have KQ := hide (quote_any w s hs hT)
 have e1 : keyT s.data.toList = if bareL s.data.toList = true then s.data.toList else quoT s.data.toList := rfl
 have e2 : keyE s.data.toList = if bareL s.data.toList = true then 0 else quoE s.data.toList := rfl
 rw [e1, e2]
 have et : (⟨s.data.toList.toArray⟩ : ByteArray) = s := text_of rfl
 clear hT e1 e2
 generalize bareL s.data.toList = b at *
 generalize quoT s.data.toList = T at *
 generalize quoE s.data.toList = E at *
 cases b with
 | true =>
  rw [if_pos rfl, if_pos rfl, et]
  clear et KQ
  go_enter Tryz.func111, Tryz.ntmps111
  go_wp2_with fail
  refine (unhide KB).mono ?_
  rintro _ w1 ⟨rfl, hw⟩
  rw [hw]
  clear hw
  go_wp2
  go_ret2
  exact ⟨rfl, Below.refl _ _⟩
 | false =>
  rw [if_neg (by decide), if_neg (by decide)]
  clear et
  go_enter Tryz.func111, Tryz.ntmps111
  go_wp2_with fail
  refine (unhide KB).mono ?_
  rintro _ w1 ⟨rfl, hw⟩
  rw [hw]
  clear hw
  go_wp2_with fail
  refine (unhide KQ).mono ?_
  rintro _ w1 ⟨rfl, b1⟩
  have B1 := hide b1
  clear b1 KQ KB
  go_wp2
  go_ret2
  exact ⟨rfl, unhide B1⟩
end Go.Proofs.YtnbfnjhbmeocfabGreatDoor.escs
namespace Go.Proofs.YtnbfnjhbmeocfabGreatDoor.valus
open bigs (tellB)
def leafT (F : Nat → List UInt8) (x : Lab) : List UInt8 :=
 if x.1 = 1 then (if x.2.1 = 1 then [116, 114, 117, 101] else [102, 97, 108, 115, 101])
 else if x.1 = 2 then tellB 10 x.2.1 else if x.1 = 3 then F x.2.2.1 else if x.1 = 4 then escs.quoT x.2.2.2 else [110, 117, 108, 108]
def inL (d : Nat) : List UInt8 := List.replicate (2 * d) 32
def commaL : List (List UInt8) → List UInt8
 | [] => []
 | [p] => p
 | p :: q :: r => p ++ 44 :: 32 :: commaL (q :: r)
def lineP (d : Nat) (p : List UInt8) : List UInt8 := 10 :: (inL (d + 1) ++ (p ++ [44]))
def linesL (d : Nat) (ps : List (List UInt8)) : List UInt8 := ps.flatMap (lineP d)
def betwL (many : Bool) (d : Nat) (ps : List (List UInt8)) : List UInt8 :=
 if many = true then (if ps = [] then [] else linesL d ps ++ 10 :: inL d) else commaL ps
def entT (k t : List UInt8) : List UInt8 := escs.keyT k ++ 58 :: 32 :: t
def toldV (F : Nat → List UInt8) (many : Bool) : Nat → Nat → V → List UInt8
 | 0, _, _ => []
 | f + 1, d, v =>
  if (opn v).1.1 = 5 then 91 :: (betwL many d ((opn v).2.1.map (toldV F many f (d + 1))) ++ [93])
  else if (opn v).1.1 = 6 then 123 :: (betwL many d ((opn v).2.2.map (fun e => entT (opnE e).1 (toldV F many f (d + 1) (opnE e).2))) ++ [125])
  else leafT F (opn v).1
theorem comma_more (p : List UInt8) : ∀ ps : List (List UInt8), commaL (ps ++ [p]) = commaL ps ++ (if ps = [] then p else 44 :: 32 :: p)
 | [] => rfl
 | [q] => rfl
 | q :: r :: t => by
  have ih := comma_more p (r :: t)
  rw [if_neg (by simp)] at ih ⊢
  show q ++ 44 :: 32 :: commaL (r :: t ++ [p]) = (q ++ 44 :: 32 :: commaL (r :: t)) ++ _
  rw [ih]
  simp
theorem lines_more (d : Nat) (p : List UInt8) (ps : List (List UInt8)) : linesL d (ps ++ [p]) = linesL d ps ++ lineP d p := by
 unfold linesL
 simp
theorem comma_le : ∀ (ps : List (List UInt8)) (k : Nat), (commaL (ps.take k)).length ≤ (commaL ps).length
 | [], k => by simp
 | [p], 0 => by simp [commaL]
 | [p], k + 1 => by simp
 | p :: q :: r, 0 => by simp [commaL]
 | p :: q :: r, 1 => by simp [commaL]
 | p :: q :: r, k + 2 => by
  have ih := comma_le (q :: r) (k + 1)
  simp only [List.take_succ_cons] at ih ⊢
  simp only [commaL, List.length_append, List.length_cons] at ih ⊢
  omega
theorem lines_le (d : Nat) : ∀ (ps : List (List UInt8)) (k : Nat), (linesL d (ps.take k)).length ≤ (linesL d ps).length
 | [], k => by simp
 | p :: r, 0 => by simp [linesL]
 | p :: r, k + 1 => by
  have ih := lines_le d r k
  rw [List.take_succ_cons]
  unfold linesL at ih ⊢
  simp only [List.flatMap_cons, List.length_append] at ih ⊢
  omega
theorem inL_len (d : Nat) : (inL d).length = 2 * d := by unfold inL; simp
theorem lineP_len (d : Nat) (p : List UInt8) : (lineP d p).length = 2 * d + 4 + p.length := by
 unfold lineP
 simp only [List.length_cons, List.length_append, inL_len, List.length_nil]
 omega
end Go.Proofs.YtnbfnjhbmeocfabGreatDoor.valus
