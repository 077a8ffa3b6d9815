/- The document's NumText. -/
import Derived.Test.YtjlbbmpefjkamaaDoorNumBaseW
set_option linter.unusedVariables false
namespace Go.Proofs.YtjlbbmpefjkamaaDoor.bigs
open Go.RowKit Go.Sort
def dgs16 : ByteArray := ⟨#[48, 49, 50, 51, 52, 53, 54, 55, 56, 57, 97, 98, 99, 100, 101, 102]⟩
theorem dgs16_at (d : Nat) (h : d < 16) : dgs16.extract d (d + 1) = ⟨#[hexc d]⟩ := by
  have : ∀ k : Fin 16, (dgs16.extract k.1 (k.1 + 1)).data = #[hexc k.1] := by decide +kernel
  exact ByteArray.ext (this ⟨d, h⟩)
/-- What is told of a number that is left, ahead of what has been told. -/
def Left (b : Nat) (N : Nat) (x : Int) (S : List UInt8) : Prop := (x = 0 ∧ S ≠ [] ∧ digB b N = S) ∨ (¬ (x = 0 ∧ S ≠ []) ∧ digB b N = digB b x.natAbs ++ S)
theorem left_len {b N : Nat} {x : Int} {S : List UInt8} (h : Left b N x S) (hl : (digB b N).length ≤ 64) : S.length ≤ 64 := by
  rcases h with ⟨_, _, e⟩ | ⟨_, e⟩
  · rw [← e]; exact hl
  · rw [e, List.length_append] at hl; omega
theorem left_step {b N : Nat} {x q : Int} {S : List UInt8} (hb : 2 ≤ b) (h : Left b N x S) (hgo : ¬ (x = 0 ∧ S ≠ [])) (hq : q.natAbs = x.natAbs / b) : Left b N q (hexc (x.natAbs % b) :: S) := by
  rcases h with ⟨e1, e2, _⟩ | ⟨_, e⟩
  · exact absurd ⟨e1, e2⟩ hgo
  · by_cases c : x.natAbs < b
    · left
      have : x.natAbs / b = 0 := Nat.div_eq_of_lt c
      refine ⟨by omega, by simp, ?_⟩
      rw [e, digB_low c, Nat.mod_eq_of_lt c]
      rfl
    · right
      have hp : 0 < x.natAbs / b := Nat.div_pos (by omega) (by omega)
      refine ⟨fun h => by omega, ?_⟩
      rw [e, digB_high hb (by omega), hq, List.append_assoc]
      rfl
theorem tdiv_abs (x : Int) (b : Nat) : (x.tdiv (b : Int)).natAbs = x.natAbs / b := by
  rw [Int.natAbs_tdiv]
  rfl
theorem tmod_abs (x : Int) (b : Nat) : (x.tmod (b : Int)).natAbs = x.natAbs % b := by
  rw [Int.natAbs_tmod]
  rfl
theorem i64_id (x : Int) (h0 : -9223372036854775808 ≤ x) (h1 : x ≤ 9223372036854775807) : IntKind.i64.wrap x = x := by
  simp [IntKind.wrap, IntKind.bits, IntKind.signed]
  omega
theorem str_empty (S : ByteArray) (h : S.data.toList ≠ []) : S.toList.isEmpty = false := by
  rw [ByteArray.toList_eq]
  cases hs : S.data.toList with
  | nil => exact absurd hs h
  | cons a r => rfl
theorem str_nil (S : ByteArray) (h : S.data.toList = []) : S = ⟨#[]⟩ := by
  apply ByteArray.ext
  apply Array.toList_inj.1
  rw [h]
theorem cat_front (F : List UInt8) (S : ByteArray) (h : F.length + S.size ≤ 9223372036854775807) (u : World) : (Op.stringOp .add ⟨F.toArray⟩ S).run Tryd.prog u = .ok (.string ⟨(F ++ S.data.toList).toArray⟩) u := by
  have := add_lists F S.data.toList (by rw [nlen]; exact h) u
  rwa [back_list] at this
set_option maxHeartbeats 8000000 in
set_option maxRecDepth 100000 in
theorem refText_2 (w : World) (n : Int) (b : Nat) (hb2 : 2 ≤ b) (hb : b ≤ 16) (h0 : -9223372036854775808 ≤ n) (h1 : n ≤ 9223372036854775807) (n0 : n ≠ 0) (T : ByteArray) (hT : Hid (T = ⟨((if n < 0 then [45] else []) ++ ([48, 98] ++ digB b n.natAbs)).toArray⟩)) (hl : Hid ((digB b n.natAbs).length ≤ 64))
    (f0 : ((b : Int) == 2) = true) :
    Calls Tryd.prog 11 #[.int .i64 n, .int .i64 (b : Int)] w fun e w' => e = .returned (.string T) ∧ w' = w := by
  have bz : ((b : Int) == 0) = false := beq_false_of_ne (by omega)
  go_enter Tryd.func11, Tryd.ntmps11
  go_wp2
  go_loopw [7, 6] (fun m s wr => ∃ (x : Int) (S : ByteArray), m = .int .i64 x ∧ s = .string S ∧ Hid (-9223372036854775808 ≤ x ∧ x ≤ 9223372036854775807) ∧ Hid (Left b n.natAbs x S.data.toList) ∧ Hid (x = 0 → S.data.toList ≠ []) ∧ wr = w) (fun m s _ => (intOf m).natAbs + (match s with | .string t => if t.size = 0 then 1 else 0 | _ => 0))
  case atStart => exact ⟨n, ⟨#[]⟩, rfl, rfl, hide ⟨h0, h1⟩, hide (.inr ⟨by simp, by simp⟩), hide (fun h => absurd h n0), rfl⟩
  case round =>
    obtain ⟨x, S, rfl, rfl, hx, hL, hne, rfl⟩ := hrel
    have SL : S.size ≤ 64 := by
      have := left_len (unhide hL) (unhide hl)
      rwa [nlen] at this
    by_cases stop : x = 0 ∧ S.data.toList ≠ []
    · obtain ⟨rfl, hS⟩ := stop
      have e : Hid (digB b n.natAbs = S.data.toList) := hide (by
        rcases unhide hL with ⟨_, _, e⟩ | ⟨e, _⟩
        · exact e
        · exact absurd ⟨rfl, hS⟩ e)
      have i1 := str_empty S hS
      clear hL hx hl hS hne
      by_cases neg : n < 0
      · have HT : Hid (T = ⟨([45, 48, 98] ++ S.data.toList).toArray⟩) := hide (by rw [unhide hT, if_pos neg, unhide e]; rfl)
        have a1 : ∀ u : World, (Op.stringOp .add ⟨#[45]⟩ ⟨#[48, 98]⟩).run Tryd.prog u = .ok (.string ⟨#[45, 48, 98]⟩) u := fun u => add_lists [45] [48, 98] (by simp) u
        have a2 : ∀ u : World, (Op.stringOp .add ⟨#[45, 48, 98]⟩ S).run Tryd.prog u = .ok (.string T) u := fun u => by rw [unhide HT]; exact cat_front [45, 48, 98] S (by simp; omega) u
        clear hT e HT
        go_wp2
        go_ret
        exact ⟨rfl, rfl⟩
      · have HT : Hid (T = ⟨([48, 98] ++ S.data.toList).toArray⟩) := hide (by rw [unhide hT, if_neg neg, unhide e]; rfl)
        have a2 : ∀ u : World, (Op.stringOp .add ⟨#[48, 98]⟩ S).run Tryd.prog u = .ok (.string T) u := fun u => by rw [unhide HT]; exact cat_front [48, 98] S (by simp; omega) u
        clear hT e HT
        go_wp2
        go_ret
        exact ⟨rfl, rfl⟩
    · have hd16 : x.natAbs % b < b := Nat.mod_lt _ (by omega)
      have st := fun q hq => left_step (q := q) hb2 (unhide hL) stop hq
      obtain ⟨q, hq⟩ : ∃ q, q = x.tdiv (b : Int) := ⟨_, rfl⟩
      obtain ⟨r, hr⟩ : ∃ r, r = x.tmod (b : Int) := ⟨_, rfl⟩
      have q1 := tdiv_abs x b
      have q2 := tmod_abs x b
      rw [← hq] at q1
      rw [← hr] at q2
      have h2 : x.natAbs / b ≤ x.natAbs / 2 := Nat.div_le_div_left hb2 (by decide)
      have hx1 := (unhide hx).1
      have hx2 := (unhide hx).2
      obtain ⟨xb, hxb⟩ : ∃ xb, xb = x.natAbs / b := ⟨_, rfl⟩
      rw [← hxb] at q1 h2
      have y1 : x.tmod (b : Int) = r := hr.symm
      have y2 : IntKind.i64.wrap (x.tdiv (b : Int)) = q := by rw [← hq, i64_id _ (by omega) (by omega)]
      have HS := hide (st q (by rw [q1, hxb]))
      have HB : Hid (-9223372036854775808 ≤ q ∧ q ≤ 9223372036854775807) := hide (by omega)
      have HM : Hid (q.natAbs < x.natAbs + (if S.size = 0 then 1 else 0)) := hide (by
        rw [q1, hxb]
        by_cases z : x.natAbs = 0
        · have : S.data.toList = [] := by
            rcases Classical.em (S.data.toList = []) with h | h
            · exact h
            · exact absurd ⟨by omega, h⟩ stop
          have : S.size = 0 := by rw [← nlen, this]; rfl
          rw [if_pos this, z]
          simp
        · have := Nat.div_lt_self (n := x.natAbs) (k := b) (by omega) (by omega)
          omega)
      obtain ⟨d, hd⟩ : ∃ d, d = x.natAbs % b := ⟨_, rfl⟩
      rw [← hd] at hd16 q2 HS
      have hd' : d < 16 := by omega
      have hext : (⟨#[48, 49, 50, 51, 52, 53, 54, 55, 56, 57, 97, 98, 99, 100, 101, 102]⟩ : ByteArray).extract d (d + 1) = ⟨#[hexc d]⟩ := dgs16_at d hd'
      have hadd : ∀ u : World, (Op.stringOp .add ⟨#[hexc d]⟩ S).run Tryd.prog u = .ok (.string ⟨(hexc d :: S.data.toList).toArray⟩) u := fun u => cat_front [hexc d] S (by simp; omega) u
      have z1 : IntKind.i64.wrap ((d : Int) + 1) = ((d + 1 : Nat) : Int) := by rw [i64_id _ (by omega) (by omega)]; omega
      have g : x ≠ 0 := fun z => stop ⟨z, unhide hne z⟩
      have p0 : (0 : Int) ≤ (d : Int) := by omega
      have p1 : (d : Int) ≤ ((d + 1 : Nat) : Int) := by omega
      have p2 : ((d + 1 : Nat) : Int) ≤ 16 := by omega
      obtain ⟨R, hR⟩ : ∃ R : ByteArray, R = ⟨(hexc d :: S.data.toList).toArray⟩ := ⟨_, rfl⟩
      have RL : Hid (Left b n.natAbs q R.data.toList) := hide (by rw [hR]; exact unhide HS)
      have RN : Hid (q = 0 → R.data.toList ≠ []) := hide (fun _ => by rw [hR]; simp)
      have RS : Hid (R.size ≠ 0) := hide (by rw [hR, nsize]; simp)
      rw [← hR] at hadd
      generalize hexc d = ch at *
      generalize hdd : d + 1 = d1 at *
      clear hne HS hR st hL hx hl hT stop q1 hd hr hdd hq hxb h2 hx1 hx2
      by_cases s1 : r < 0
      · have z2 : IntKind.i64.wrap (-r) = (d : Int) := by rw [i64_id _ (by omega) (by omega)]; omega
        clear q2
        have g3 : (x == 0) = false := beq_false_of_ne g
        go_wp2
        go_roundw
        case rel => exact ⟨q, R, by first | rfl | simp, rfl, HB, RL, RN, by trivial⟩
        case measure => have := unhide HM; have h := unhide RS; simp only [intOf]; rw [if_neg h]; omega
      · have z2 : r = (d : Int) := by omega
        clear q2
        subst z2
        have g3 : (x == 0) = false := beq_false_of_ne g
        go_wp2
        go_roundw
        case rel => exact ⟨q, R, by first | rfl | simp, rfl, HB, RL, RN, by trivial⟩
        case measure => have := unhide HM; have h := unhide RS; simp only [intOf]; rw [if_neg h]; omega
set_option maxHeartbeats 8000000 in
set_option maxRecDepth 100000 in
theorem refText0_2 (w : World) (b : Nat) (hb2 : 2 ≤ b) (hb : b ≤ 16)
    (f0 : ((b : Int) == 2) = true) :
    Calls Tryd.prog 11 #[.int .i64 0, .int .i64 (b : Int)] w fun e w' => e = .returned (.string ⟨#[48, 98, 48]⟩) ∧ w' = w := by
  have bz : ((b : Int) == 0) = false := beq_false_of_ne (by omega)
  have hext : (⟨#[48, 49, 50, 51, 52, 53, 54, 55, 56, 57, 97, 98, 99, 100, 101, 102]⟩ : ByteArray).extract 0 1 = ⟨#[48]⟩ := dgs16_at 0 (by decide)
  have hadd : ∀ u : World, (Op.stringOp .add ⟨#[48]⟩ ⟨#[]⟩).run Tryd.prog u = .ok (.string ⟨#[48]⟩) u := fun u => add_lists [48] [] (by simp) u
  have a2 : ∀ u : World, (Op.stringOp .add ⟨#[48, 98]⟩ ⟨#[48]⟩).run Tryd.prog u = .ok (.string ⟨#[48, 98, 48]⟩) u := fun u => add_lists [48, 98] [48] (by simp) u
  go_enter Tryd.func11, Tryd.ntmps11
  go_wp2
  go_loopw [7, 6] (fun m s wr => ∃ k : Nat, m = .int .i64 0 ∧ ((k = 0 ∧ s = .string ⟨#[]⟩) ∨ (k = 1 ∧ s = .string ⟨#[48]⟩)) ∧ wr = w) (fun m s _ => (match s with | .string t => if t.size = 0 then 1 else 0 | _ => 0))
  case atStart => exact ⟨0, rfl, .inl ⟨rfl, rfl⟩, rfl⟩
  case round =>
    obtain ⟨k, rfl, hk, rfl⟩ := hrel
    rcases hk with ⟨rfl, rfl⟩ | ⟨rfl, rfl⟩
    · go_wp2
      go_roundw
      case rel => exact ⟨1, by first | rfl | simp, .inr ⟨rfl, by first | rfl | trivial⟩, by trivial⟩
      case measure => decide
    · go_wp2
      go_ret
      exact ⟨rfl, rfl⟩
set_option maxHeartbeats 8000000 in
set_option maxRecDepth 100000 in
theorem refText_8 (w : World) (n : Int) (b : Nat) (hb2 : 2 ≤ b) (hb : b ≤ 16) (h0 : -9223372036854775808 ≤ n) (h1 : n ≤ 9223372036854775807) (n0 : n ≠ 0) (T : ByteArray) (hT : Hid (T = ⟨((if n < 0 then [45] else []) ++ ([48, 111] ++ digB b n.natAbs)).toArray⟩)) (hl : Hid ((digB b n.natAbs).length ≤ 64))
    (f0 : ((b : Int) == 2) = false) (f1 : ((b : Int) == 8) = true) :
    Calls Tryd.prog 11 #[.int .i64 n, .int .i64 (b : Int)] w fun e w' => e = .returned (.string T) ∧ w' = w := by
  have bz : ((b : Int) == 0) = false := beq_false_of_ne (by omega)
  go_enter Tryd.func11, Tryd.ntmps11
  go_wp2
  go_loopw [7, 6] (fun m s wr => ∃ (x : Int) (S : ByteArray), m = .int .i64 x ∧ s = .string S ∧ Hid (-9223372036854775808 ≤ x ∧ x ≤ 9223372036854775807) ∧ Hid (Left b n.natAbs x S.data.toList) ∧ Hid (x = 0 → S.data.toList ≠ []) ∧ wr = w) (fun m s _ => (intOf m).natAbs + (match s with | .string t => if t.size = 0 then 1 else 0 | _ => 0))
  case atStart => exact ⟨n, ⟨#[]⟩, rfl, rfl, hide ⟨h0, h1⟩, hide (.inr ⟨by simp, by simp⟩), hide (fun h => absurd h n0), rfl⟩
  case round =>
    obtain ⟨x, S, rfl, rfl, hx, hL, hne, rfl⟩ := hrel
    have SL : S.size ≤ 64 := by
      have := left_len (unhide hL) (unhide hl)
      rwa [nlen] at this
    by_cases stop : x = 0 ∧ S.data.toList ≠ []
    · obtain ⟨rfl, hS⟩ := stop
      have e : Hid (digB b n.natAbs = S.data.toList) := hide (by
        rcases unhide hL with ⟨_, _, e⟩ | ⟨e, _⟩
        · exact e
        · exact absurd ⟨rfl, hS⟩ e)
      have i1 := str_empty S hS
      clear hL hx hl hS hne
      by_cases neg : n < 0
      · have HT : Hid (T = ⟨([45, 48, 111] ++ S.data.toList).toArray⟩) := hide (by rw [unhide hT, if_pos neg, unhide e]; rfl)
        have a1 : ∀ u : World, (Op.stringOp .add ⟨#[45]⟩ ⟨#[48, 111]⟩).run Tryd.prog u = .ok (.string ⟨#[45, 48, 111]⟩) u := fun u => add_lists [45] [48, 111] (by simp) u
        have a2 : ∀ u : World, (Op.stringOp .add ⟨#[45, 48, 111]⟩ S).run Tryd.prog u = .ok (.string T) u := fun u => by rw [unhide HT]; exact cat_front [45, 48, 111] S (by simp; omega) u
        clear hT e HT
        go_wp2
        go_ret
        exact ⟨rfl, rfl⟩
      · have HT : Hid (T = ⟨([48, 111] ++ S.data.toList).toArray⟩) := hide (by rw [unhide hT, if_neg neg, unhide e]; rfl)
        have a2 : ∀ u : World, (Op.stringOp .add ⟨#[48, 111]⟩ S).run Tryd.prog u = .ok (.string T) u := fun u => by rw [unhide HT]; exact cat_front [48, 111] S (by simp; omega) u
        clear hT e HT
        go_wp2
        go_ret
        exact ⟨rfl, rfl⟩
    · have hd16 : x.natAbs % b < b := Nat.mod_lt _ (by omega)
      have st := fun q hq => left_step (q := q) hb2 (unhide hL) stop hq
      obtain ⟨q, hq⟩ : ∃ q, q = x.tdiv (b : Int) := ⟨_, rfl⟩
      obtain ⟨r, hr⟩ : ∃ r, r = x.tmod (b : Int) := ⟨_, rfl⟩
      have q1 := tdiv_abs x b
      have q2 := tmod_abs x b
      rw [← hq] at q1
      rw [← hr] at q2
      have h2 : x.natAbs / b ≤ x.natAbs / 2 := Nat.div_le_div_left hb2 (by decide)
      have hx1 := (unhide hx).1
      have hx2 := (unhide hx).2
      obtain ⟨xb, hxb⟩ : ∃ xb, xb = x.natAbs / b := ⟨_, rfl⟩
      rw [← hxb] at q1 h2
      have y1 : x.tmod (b : Int) = r := hr.symm
      have y2 : IntKind.i64.wrap (x.tdiv (b : Int)) = q := by rw [← hq, i64_id _ (by omega) (by omega)]
      have HS := hide (st q (by rw [q1, hxb]))
      have HB : Hid (-9223372036854775808 ≤ q ∧ q ≤ 9223372036854775807) := hide (by omega)
      have HM : Hid (q.natAbs < x.natAbs + (if S.size = 0 then 1 else 0)) := hide (by
        rw [q1, hxb]
        by_cases z : x.natAbs = 0
        · have : S.data.toList = [] := by
            rcases Classical.em (S.data.toList = []) with h | h
            · exact h
            · exact absurd ⟨by omega, h⟩ stop
          have : S.size = 0 := by rw [← nlen, this]; rfl
          rw [if_pos this, z]
          simp
        · have := Nat.div_lt_self (n := x.natAbs) (k := b) (by omega) (by omega)
          omega)
      obtain ⟨d, hd⟩ : ∃ d, d = x.natAbs % b := ⟨_, rfl⟩
      rw [← hd] at hd16 q2 HS
      have hd' : d < 16 := by omega
      have hext : (⟨#[48, 49, 50, 51, 52, 53, 54, 55, 56, 57, 97, 98, 99, 100, 101, 102]⟩ : ByteArray).extract d (d + 1) = ⟨#[hexc d]⟩ := dgs16_at d hd'
      have hadd : ∀ u : World, (Op.stringOp .add ⟨#[hexc d]⟩ S).run Tryd.prog u = .ok (.string ⟨(hexc d :: S.data.toList).toArray⟩) u := fun u => cat_front [hexc d] S (by simp; omega) u
      have z1 : IntKind.i64.wrap ((d : Int) + 1) = ((d + 1 : Nat) : Int) := by rw [i64_id _ (by omega) (by omega)]; omega
      have g : x ≠ 0 := fun z => stop ⟨z, unhide hne z⟩
      have p0 : (0 : Int) ≤ (d : Int) := by omega
      have p1 : (d : Int) ≤ ((d + 1 : Nat) : Int) := by omega
      have p2 : ((d + 1 : Nat) : Int) ≤ 16 := by omega
      obtain ⟨R, hR⟩ : ∃ R : ByteArray, R = ⟨(hexc d :: S.data.toList).toArray⟩ := ⟨_, rfl⟩
      have RL : Hid (Left b n.natAbs q R.data.toList) := hide (by rw [hR]; exact unhide HS)
      have RN : Hid (q = 0 → R.data.toList ≠ []) := hide (fun _ => by rw [hR]; simp)
      have RS : Hid (R.size ≠ 0) := hide (by rw [hR, nsize]; simp)
      rw [← hR] at hadd
      generalize hexc d = ch at *
      generalize hdd : d + 1 = d1 at *
      clear hne HS hR st hL hx hl hT stop q1 hd hr hdd hq hxb h2 hx1 hx2
      by_cases s1 : r < 0
      · have z2 : IntKind.i64.wrap (-r) = (d : Int) := by rw [i64_id _ (by omega) (by omega)]; omega
        clear q2
        have g3 : (x == 0) = false := beq_false_of_ne g
        go_wp2
        go_roundw
        case rel => exact ⟨q, R, by first | rfl | simp, rfl, HB, RL, RN, by trivial⟩
        case measure => have := unhide HM; have h := unhide RS; simp only [intOf]; rw [if_neg h]; omega
      · have z2 : r = (d : Int) := by omega
        clear q2
        subst z2
        have g3 : (x == 0) = false := beq_false_of_ne g
        go_wp2
        go_roundw
        case rel => exact ⟨q, R, by first | rfl | simp, rfl, HB, RL, RN, by trivial⟩
        case measure => have := unhide HM; have h := unhide RS; simp only [intOf]; rw [if_neg h]; omega
set_option maxHeartbeats 8000000 in
set_option maxRecDepth 100000 in
theorem refText0_8 (w : World) (b : Nat) (hb2 : 2 ≤ b) (hb : b ≤ 16)
    (f0 : ((b : Int) == 2) = false) (f1 : ((b : Int) == 8) = true) :
    Calls Tryd.prog 11 #[.int .i64 0, .int .i64 (b : Int)] w fun e w' => e = .returned (.string ⟨#[48, 111, 48]⟩) ∧ w' = w := by
  have bz : ((b : Int) == 0) = false := beq_false_of_ne (by omega)
  have hext : (⟨#[48, 49, 50, 51, 52, 53, 54, 55, 56, 57, 97, 98, 99, 100, 101, 102]⟩ : ByteArray).extract 0 1 = ⟨#[48]⟩ := dgs16_at 0 (by decide)
  have hadd : ∀ u : World, (Op.stringOp .add ⟨#[48]⟩ ⟨#[]⟩).run Tryd.prog u = .ok (.string ⟨#[48]⟩) u := fun u => add_lists [48] [] (by simp) u
  have a2 : ∀ u : World, (Op.stringOp .add ⟨#[48, 111]⟩ ⟨#[48]⟩).run Tryd.prog u = .ok (.string ⟨#[48, 111, 48]⟩) u := fun u => add_lists [48, 111] [48] (by simp) u
  go_enter Tryd.func11, Tryd.ntmps11
  go_wp2
  go_loopw [7, 6] (fun m s wr => ∃ k : Nat, m = .int .i64 0 ∧ ((k = 0 ∧ s = .string ⟨#[]⟩) ∨ (k = 1 ∧ s = .string ⟨#[48]⟩)) ∧ wr = w) (fun m s _ => (match s with | .string t => if t.size = 0 then 1 else 0 | _ => 0))
  case atStart => exact ⟨0, rfl, .inl ⟨rfl, rfl⟩, rfl⟩
  case round =>
    obtain ⟨k, rfl, hk, rfl⟩ := hrel
    rcases hk with ⟨rfl, rfl⟩ | ⟨rfl, rfl⟩
    · go_wp2
      go_roundw
      case rel => exact ⟨1, by first | rfl | simp, .inr ⟨rfl, by first | rfl | trivial⟩, by trivial⟩
      case measure => decide
    · go_wp2
      go_ret
      exact ⟨rfl, rfl⟩
set_option maxHeartbeats 8000000 in
set_option maxRecDepth 100000 in
theorem refText_16 (w : World) (n : Int) (b : Nat) (hb2 : 2 ≤ b) (hb : b ≤ 16) (h0 : -9223372036854775808 ≤ n) (h1 : n ≤ 9223372036854775807) (n0 : n ≠ 0) (T : ByteArray) (hT : Hid (T = ⟨((if n < 0 then [45] else []) ++ ([48, 120] ++ digB b n.natAbs)).toArray⟩)) (hl : Hid ((digB b n.natAbs).length ≤ 64))
    (f0 : ((b : Int) == 2) = false) (f1 : ((b : Int) == 8) = false) (f2 : ((b : Int) == 16) = true) :
    Calls Tryd.prog 11 #[.int .i64 n, .int .i64 (b : Int)] w fun e w' => e = .returned (.string T) ∧ w' = w := by
  have bz : ((b : Int) == 0) = false := beq_false_of_ne (by omega)
  go_enter Tryd.func11, Tryd.ntmps11
  go_wp2
  go_loopw [7, 6] (fun m s wr => ∃ (x : Int) (S : ByteArray), m = .int .i64 x ∧ s = .string S ∧ Hid (-9223372036854775808 ≤ x ∧ x ≤ 9223372036854775807) ∧ Hid (Left b n.natAbs x S.data.toList) ∧ Hid (x = 0 → S.data.toList ≠ []) ∧ wr = w) (fun m s _ => (intOf m).natAbs + (match s with | .string t => if t.size = 0 then 1 else 0 | _ => 0))
  case atStart => exact ⟨n, ⟨#[]⟩, rfl, rfl, hide ⟨h0, h1⟩, hide (.inr ⟨by simp, by simp⟩), hide (fun h => absurd h n0), rfl⟩
  case round =>
    obtain ⟨x, S, rfl, rfl, hx, hL, hne, rfl⟩ := hrel
    have SL : S.size ≤ 64 := by
      have := left_len (unhide hL) (unhide hl)
      rwa [nlen] at this
    by_cases stop : x = 0 ∧ S.data.toList ≠ []
    · obtain ⟨rfl, hS⟩ := stop
      have e : Hid (digB b n.natAbs = S.data.toList) := hide (by
        rcases unhide hL with ⟨_, _, e⟩ | ⟨e, _⟩
        · exact e
        · exact absurd ⟨rfl, hS⟩ e)
      have i1 := str_empty S hS
      clear hL hx hl hS hne
      by_cases neg : n < 0
      · have HT : Hid (T = ⟨([45, 48, 120] ++ S.data.toList).toArray⟩) := hide (by rw [unhide hT, if_pos neg, unhide e]; rfl)
        have a1 : ∀ u : World, (Op.stringOp .add ⟨#[45]⟩ ⟨#[48, 120]⟩).run Tryd.prog u = .ok (.string ⟨#[45, 48, 120]⟩) u := fun u => add_lists [45] [48, 120] (by simp) u
        have a2 : ∀ u : World, (Op.stringOp .add ⟨#[45, 48, 120]⟩ S).run Tryd.prog u = .ok (.string T) u := fun u => by rw [unhide HT]; exact cat_front [45, 48, 120] S (by simp; omega) u
        clear hT e HT
        go_wp2
        go_ret
        exact ⟨rfl, rfl⟩
      · have HT : Hid (T = ⟨([48, 120] ++ S.data.toList).toArray⟩) := hide (by rw [unhide hT, if_neg neg, unhide e]; rfl)
        have a2 : ∀ u : World, (Op.stringOp .add ⟨#[48, 120]⟩ S).run Tryd.prog u = .ok (.string T) u := fun u => by rw [unhide HT]; exact cat_front [48, 120] S (by simp; omega) u
        clear hT e HT
        go_wp2
        go_ret
        exact ⟨rfl, rfl⟩
    · have hd16 : x.natAbs % b < b := Nat.mod_lt _ (by omega)
      have st := fun q hq => left_step (q := q) hb2 (unhide hL) stop hq
      obtain ⟨q, hq⟩ : ∃ q, q = x.tdiv (b : Int) := ⟨_, rfl⟩
      obtain ⟨r, hr⟩ : ∃ r, r = x.tmod (b : Int) := ⟨_, rfl⟩
      have q1 := tdiv_abs x b
      have q2 := tmod_abs x b
      rw [← hq] at q1
      rw [← hr] at q2
      have h2 : x.natAbs / b ≤ x.natAbs / 2 := Nat.div_le_div_left hb2 (by decide)
      have hx1 := (unhide hx).1
      have hx2 := (unhide hx).2
      obtain ⟨xb, hxb⟩ : ∃ xb, xb = x.natAbs / b := ⟨_, rfl⟩
      rw [← hxb] at q1 h2
      have y1 : x.tmod (b : Int) = r := hr.symm
      have y2 : IntKind.i64.wrap (x.tdiv (b : Int)) = q := by rw [← hq, i64_id _ (by omega) (by omega)]
      have HS := hide (st q (by rw [q1, hxb]))
      have HB : Hid (-9223372036854775808 ≤ q ∧ q ≤ 9223372036854775807) := hide (by omega)
      have HM : Hid (q.natAbs < x.natAbs + (if S.size = 0 then 1 else 0)) := hide (by
        rw [q1, hxb]
        by_cases z : x.natAbs = 0
        · have : S.data.toList = [] := by
            rcases Classical.em (S.data.toList = []) with h | h
            · exact h
            · exact absurd ⟨by omega, h⟩ stop
          have : S.size = 0 := by rw [← nlen, this]; rfl
          rw [if_pos this, z]
          simp
        · have := Nat.div_lt_self (n := x.natAbs) (k := b) (by omega) (by omega)
          omega)
      obtain ⟨d, hd⟩ : ∃ d, d = x.natAbs % b := ⟨_, rfl⟩
      rw [← hd] at hd16 q2 HS
      have hd' : d < 16 := by omega
      have hext : (⟨#[48, 49, 50, 51, 52, 53, 54, 55, 56, 57, 97, 98, 99, 100, 101, 102]⟩ : ByteArray).extract d (d + 1) = ⟨#[hexc d]⟩ := dgs16_at d hd'
      have hadd : ∀ u : World, (Op.stringOp .add ⟨#[hexc d]⟩ S).run Tryd.prog u = .ok (.string ⟨(hexc d :: S.data.toList).toArray⟩) u := fun u => cat_front [hexc d] S (by simp; omega) u
      have z1 : IntKind.i64.wrap ((d : Int) + 1) = ((d + 1 : Nat) : Int) := by rw [i64_id _ (by omega) (by omega)]; omega
      have g : x ≠ 0 := fun z => stop ⟨z, unhide hne z⟩
      have p0 : (0 : Int) ≤ (d : Int) := by omega
      have p1 : (d : Int) ≤ ((d + 1 : Nat) : Int) := by omega
      have p2 : ((d + 1 : Nat) : Int) ≤ 16 := by omega
      obtain ⟨R, hR⟩ : ∃ R : ByteArray, R = ⟨(hexc d :: S.data.toList).toArray⟩ := ⟨_, rfl⟩
      have RL : Hid (Left b n.natAbs q R.data.toList) := hide (by rw [hR]; exact unhide HS)
      have RN : Hid (q = 0 → R.data.toList ≠ []) := hide (fun _ => by rw [hR]; simp)
      have RS : Hid (R.size ≠ 0) := hide (by rw [hR, nsize]; simp)
      rw [← hR] at hadd
      generalize hexc d = ch at *
      generalize hdd : d + 1 = d1 at *
      clear hne HS hR st hL hx hl hT stop q1 hd hr hdd hq hxb h2 hx1 hx2
      by_cases s1 : r < 0
      · have z2 : IntKind.i64.wrap (-r) = (d : Int) := by rw [i64_id _ (by omega) (by omega)]; omega
        clear q2
        have g3 : (x == 0) = false := beq_false_of_ne g
        go_wp2
        go_roundw
        case rel => exact ⟨q, R, by first | rfl | simp, rfl, HB, RL, RN, by trivial⟩
        case measure => have := unhide HM; have h := unhide RS; simp only [intOf]; rw [if_neg h]; omega
      · have z2 : r = (d : Int) := by omega
        clear q2
        subst z2
        have g3 : (x == 0) = false := beq_false_of_ne g
        go_wp2
        go_roundw
        case rel => exact ⟨q, R, by first | rfl | simp, rfl, HB, RL, RN, by trivial⟩
        case measure => have := unhide HM; have h := unhide RS; simp only [intOf]; rw [if_neg h]; omega
set_option maxHeartbeats 8000000 in
set_option maxRecDepth 100000 in
theorem refText0_16 (w : World) (b : Nat) (hb2 : 2 ≤ b) (hb : b ≤ 16)
    (f0 : ((b : Int) == 2) = false) (f1 : ((b : Int) == 8) = false) (f2 : ((b : Int) == 16) = true) :
    Calls Tryd.prog 11 #[.int .i64 0, .int .i64 (b : Int)] w fun e w' => e = .returned (.string ⟨#[48, 120, 48]⟩) ∧ w' = w := by
  have bz : ((b : Int) == 0) = false := beq_false_of_ne (by omega)
  have hext : (⟨#[48, 49, 50, 51, 52, 53, 54, 55, 56, 57, 97, 98, 99, 100, 101, 102]⟩ : ByteArray).extract 0 1 = ⟨#[48]⟩ := dgs16_at 0 (by decide)
  have hadd : ∀ u : World, (Op.stringOp .add ⟨#[48]⟩ ⟨#[]⟩).run Tryd.prog u = .ok (.string ⟨#[48]⟩) u := fun u => add_lists [48] [] (by simp) u
  have a2 : ∀ u : World, (Op.stringOp .add ⟨#[48, 120]⟩ ⟨#[48]⟩).run Tryd.prog u = .ok (.string ⟨#[48, 120, 48]⟩) u := fun u => add_lists [48, 120] [48] (by simp) u
  go_enter Tryd.func11, Tryd.ntmps11
  go_wp2
  go_loopw [7, 6] (fun m s wr => ∃ k : Nat, m = .int .i64 0 ∧ ((k = 0 ∧ s = .string ⟨#[]⟩) ∨ (k = 1 ∧ s = .string ⟨#[48]⟩)) ∧ wr = w) (fun m s _ => (match s with | .string t => if t.size = 0 then 1 else 0 | _ => 0))
  case atStart => exact ⟨0, rfl, .inl ⟨rfl, rfl⟩, rfl⟩
  case round =>
    obtain ⟨k, rfl, hk, rfl⟩ := hrel
    rcases hk with ⟨rfl, rfl⟩ | ⟨rfl, rfl⟩
    · go_wp2
      go_roundw
      case rel => exact ⟨1, by first | rfl | simp, .inr ⟨rfl, by first | rfl | trivial⟩, by trivial⟩
      case measure => decide
    · go_wp2
      go_ret
      exact ⟨rfl, rfl⟩
set_option maxHeartbeats 8000000 in
set_option maxRecDepth 100000 in
theorem refText_10 (w : World) (n : Int) (b : Nat) (hb2 : 2 ≤ b) (hb : b ≤ 16) (h0 : -9223372036854775808 ≤ n) (h1 : n ≤ 9223372036854775807) (n0 : n ≠ 0) (T : ByteArray) (hT : Hid (T = ⟨((if n < 0 then [45] else []) ++ ([] ++ digB b n.natAbs)).toArray⟩)) (hl : Hid ((digB b n.natAbs).length ≤ 64))
    (f0 : ((b : Int) == 2) = false) (f1 : ((b : Int) == 8) = false) (f2 : ((b : Int) == 16) = false) :
    Calls Tryd.prog 11 #[.int .i64 n, .int .i64 (b : Int)] w fun e w' => e = .returned (.string T) ∧ w' = w := by
  have bz : ((b : Int) == 0) = false := beq_false_of_ne (by omega)
  go_enter Tryd.func11, Tryd.ntmps11
  go_wp2
  go_loopw [7, 6] (fun m s wr => ∃ (x : Int) (S : ByteArray), m = .int .i64 x ∧ s = .string S ∧ Hid (-9223372036854775808 ≤ x ∧ x ≤ 9223372036854775807) ∧ Hid (Left b n.natAbs x S.data.toList) ∧ Hid (x = 0 → S.data.toList ≠ []) ∧ wr = w) (fun m s _ => (intOf m).natAbs + (match s with | .string t => if t.size = 0 then 1 else 0 | _ => 0))
  case atStart => exact ⟨n, ⟨#[]⟩, rfl, rfl, hide ⟨h0, h1⟩, hide (.inr ⟨by simp, by simp⟩), hide (fun h => absurd h n0), rfl⟩
  case round =>
    obtain ⟨x, S, rfl, rfl, hx, hL, hne, rfl⟩ := hrel
    have SL : S.size ≤ 64 := by
      have := left_len (unhide hL) (unhide hl)
      rwa [nlen] at this
    by_cases stop : x = 0 ∧ S.data.toList ≠ []
    · obtain ⟨rfl, hS⟩ := stop
      have e : Hid (digB b n.natAbs = S.data.toList) := hide (by
        rcases unhide hL with ⟨_, _, e⟩ | ⟨e, _⟩
        · exact e
        · exact absurd ⟨rfl, hS⟩ e)
      have i1 := str_empty S hS
      clear hL hx hl hS hne
      by_cases neg : n < 0
      · have HT : Hid (T = ⟨([45] ++ S.data.toList).toArray⟩) := hide (by rw [unhide hT, if_pos neg, unhide e]; rfl)
        have a1 : ∀ u : World, (Op.stringOp .add ⟨#[45]⟩ ⟨#[]⟩).run Tryd.prog u = .ok (.string ⟨#[45]⟩) u := fun u => add_lists [45] [] (by simp) u
        have a2 : ∀ u : World, (Op.stringOp .add ⟨#[45]⟩ S).run Tryd.prog u = .ok (.string T) u := fun u => by rw [unhide HT]; exact cat_front [45] S (by simp; omega) u
        clear hT e HT
        go_wp2
        go_ret
        exact ⟨rfl, rfl⟩
      · have HT : Hid (T = ⟨([] ++ S.data.toList).toArray⟩) := hide (by rw [unhide hT, if_neg neg, unhide e]; rfl)
        have a2 : ∀ u : World, (Op.stringOp .add ⟨#[]⟩ S).run Tryd.prog u = .ok (.string T) u := fun u => by rw [unhide HT]; exact cat_front [] S (by simp; omega) u
        clear hT e HT
        go_wp2
        go_ret
        exact ⟨rfl, rfl⟩
    · have hd16 : x.natAbs % b < b := Nat.mod_lt _ (by omega)
      have st := fun q hq => left_step (q := q) hb2 (unhide hL) stop hq
      obtain ⟨q, hq⟩ : ∃ q, q = x.tdiv (b : Int) := ⟨_, rfl⟩
      obtain ⟨r, hr⟩ : ∃ r, r = x.tmod (b : Int) := ⟨_, rfl⟩
      have q1 := tdiv_abs x b
      have q2 := tmod_abs x b
      rw [← hq] at q1
      rw [← hr] at q2
      have h2 : x.natAbs / b ≤ x.natAbs / 2 := Nat.div_le_div_left hb2 (by decide)
      have hx1 := (unhide hx).1
      have hx2 := (unhide hx).2
      obtain ⟨xb, hxb⟩ : ∃ xb, xb = x.natAbs / b := ⟨_, rfl⟩
      rw [← hxb] at q1 h2
      have y1 : x.tmod (b : Int) = r := hr.symm
      have y2 : IntKind.i64.wrap (x.tdiv (b : Int)) = q := by rw [← hq, i64_id _ (by omega) (by omega)]
      have HS := hide (st q (by rw [q1, hxb]))
      have HB : Hid (-9223372036854775808 ≤ q ∧ q ≤ 9223372036854775807) := hide (by omega)
      have HM : Hid (q.natAbs < x.natAbs + (if S.size = 0 then 1 else 0)) := hide (by
        rw [q1, hxb]
        by_cases z : x.natAbs = 0
        · have : S.data.toList = [] := by
            rcases Classical.em (S.data.toList = []) with h | h
            · exact h
            · exact absurd ⟨by omega, h⟩ stop
          have : S.size = 0 := by rw [← nlen, this]; rfl
          rw [if_pos this, z]
          simp
        · have := Nat.div_lt_self (n := x.natAbs) (k := b) (by omega) (by omega)
          omega)
      obtain ⟨d, hd⟩ : ∃ d, d = x.natAbs % b := ⟨_, rfl⟩
      rw [← hd] at hd16 q2 HS
      have hd' : d < 16 := by omega
      have hext : (⟨#[48, 49, 50, 51, 52, 53, 54, 55, 56, 57, 97, 98, 99, 100, 101, 102]⟩ : ByteArray).extract d (d + 1) = ⟨#[hexc d]⟩ := dgs16_at d hd'
      have hadd : ∀ u : World, (Op.stringOp .add ⟨#[hexc d]⟩ S).run Tryd.prog u = .ok (.string ⟨(hexc d :: S.data.toList).toArray⟩) u := fun u => cat_front [hexc d] S (by simp; omega) u
      have z1 : IntKind.i64.wrap ((d : Int) + 1) = ((d + 1 : Nat) : Int) := by rw [i64_id _ (by omega) (by omega)]; omega
      have g : x ≠ 0 := fun z => stop ⟨z, unhide hne z⟩
      have p0 : (0 : Int) ≤ (d : Int) := by omega
      have p1 : (d : Int) ≤ ((d + 1 : Nat) : Int) := by omega
      have p2 : ((d + 1 : Nat) : Int) ≤ 16 := by omega
      obtain ⟨R, hR⟩ : ∃ R : ByteArray, R = ⟨(hexc d :: S.data.toList).toArray⟩ := ⟨_, rfl⟩
      have RL : Hid (Left b n.natAbs q R.data.toList) := hide (by rw [hR]; exact unhide HS)
      have RN : Hid (q = 0 → R.data.toList ≠ []) := hide (fun _ => by rw [hR]; simp)
      have RS : Hid (R.size ≠ 0) := hide (by rw [hR, nsize]; simp)
      rw [← hR] at hadd
      generalize hexc d = ch at *
      generalize hdd : d + 1 = d1 at *
      clear hne HS hR st hL hx hl hT stop q1 hd hr hdd hq hxb h2 hx1 hx2
      by_cases s1 : r < 0
      · have z2 : IntKind.i64.wrap (-r) = (d : Int) := by rw [i64_id _ (by omega) (by omega)]; omega
        clear q2
        have g3 : (x == 0) = false := beq_false_of_ne g
        go_wp2
        go_roundw
        case rel => exact ⟨q, R, by first | rfl | simp, rfl, HB, RL, RN, by trivial⟩
        case measure => have := unhide HM; have h := unhide RS; simp only [intOf]; rw [if_neg h]; omega
      · have z2 : r = (d : Int) := by omega
        clear q2
        subst z2
        have g3 : (x == 0) = false := beq_false_of_ne g
        go_wp2
        go_roundw
        case rel => exact ⟨q, R, by first | rfl | simp, rfl, HB, RL, RN, by trivial⟩
        case measure => have := unhide HM; have h := unhide RS; simp only [intOf]; rw [if_neg h]; omega
set_option maxHeartbeats 8000000 in
set_option maxRecDepth 100000 in
theorem refText0_10 (w : World) (b : Nat) (hb2 : 2 ≤ b) (hb : b ≤ 16)
    (f0 : ((b : Int) == 2) = false) (f1 : ((b : Int) == 8) = false) (f2 : ((b : Int) == 16) = false) :
    Calls Tryd.prog 11 #[.int .i64 0, .int .i64 (b : Int)] w fun e w' => e = .returned (.string ⟨#[48]⟩) ∧ w' = w := by
  have bz : ((b : Int) == 0) = false := beq_false_of_ne (by omega)
  have hext : (⟨#[48, 49, 50, 51, 52, 53, 54, 55, 56, 57, 97, 98, 99, 100, 101, 102]⟩ : ByteArray).extract 0 1 = ⟨#[48]⟩ := dgs16_at 0 (by decide)
  have hadd : ∀ u : World, (Op.stringOp .add ⟨#[48]⟩ ⟨#[]⟩).run Tryd.prog u = .ok (.string ⟨#[48]⟩) u := fun u => add_lists [48] [] (by simp) u
  have a2 : ∀ u : World, (Op.stringOp .add ⟨#[]⟩ ⟨#[48]⟩).run Tryd.prog u = .ok (.string ⟨#[48]⟩) u := fun u => add_lists [] [48] (by simp) u
  go_enter Tryd.func11, Tryd.ntmps11
  go_wp2
  go_loopw [7, 6] (fun m s wr => ∃ k : Nat, m = .int .i64 0 ∧ ((k = 0 ∧ s = .string ⟨#[]⟩) ∨ (k = 1 ∧ s = .string ⟨#[48]⟩)) ∧ wr = w) (fun m s _ => (match s with | .string t => if t.size = 0 then 1 else 0 | _ => 0))
  case atStart => exact ⟨0, rfl, .inl ⟨rfl, rfl⟩, rfl⟩
  case round =>
    obtain ⟨k, rfl, hk, rfl⟩ := hrel
    rcases hk with ⟨rfl, rfl⟩ | ⟨rfl, rfl⟩
    · go_wp2
      go_roundw
      case rel => exact ⟨1, by first | rfl | simp, .inr ⟨rfl, by first | rfl | trivial⟩, by trivial⟩
      case measure => decide
    · go_wp2
      go_ret
      exact ⟨rfl, rfl⟩
theorem tell_zero {b : Nat} (hb : 2 ≤ b) : tellB b 0 = preB b ++ [48] := by
  unfold tellB
  rw [if_neg (by decide), List.nil_append, show Int.natAbs 0 = 0 by rfl, digB_low (by omega)]
  rfl
theorem refText_any (w : World) (n : Int) (b : Nat) (hb : GoodB b) (h0 : -9223372036854775808 ≤ n) (h1 : n ≤ 9223372036854775807) :
    Calls Tryd.prog 11 #[.int .i64 n, .int .i64 (b : Int)] w fun e w' => e = .returned (.string ⟨(tellB b n).toArray⟩) ∧ w' = w := by
  have hl : Hid ((digB b n.natAbs).length ≤ 64) := hide (by
    have h2 : 2 ≤ b := by unfold GoodB at hb; omega
    refine digB_len h2 63 _ (Nat.lt_of_lt_of_le (m := 2 ^ 64) (by omega) ?_)
    exact Nat.pow_le_pow_left h2 64)
  by_cases n0 : n = 0
  · subst n0
    rw [tell_zero (by unfold GoodB at hb; omega)]
    rcases hb with rfl | rfl | rfl | rfl
    · exact refText0_2 w 2 (by decide) (by decide) rfl
    · exact refText0_8 w 8 (by decide) (by decide) rfl rfl
    · exact refText0_10 w 10 (by decide) (by decide) rfl rfl rfl
    · exact refText0_16 w 16 (by decide) (by decide) rfl rfl rfl
  · rcases hb with rfl | rfl | rfl | rfl
    · exact refText_2 w n 2 (by decide) (by decide) h0 h1 n0 _ (hide rfl) hl rfl
    · exact refText_8 w n 8 (by decide) (by decide) h0 h1 n0 _ (hide rfl) hl rfl rfl
    · exact refText_10 w n 10 (by decide) (by decide) h0 h1 n0 _ (hide rfl) hl rfl rfl rfl
    · exact refText_16 w n 16 (by decide) (by decide) h0 h1 n0 _ (hide rfl) hl rfl rfl rfl
end Go.Proofs.YtjlbbmpefjkamaaDoor.bigs
