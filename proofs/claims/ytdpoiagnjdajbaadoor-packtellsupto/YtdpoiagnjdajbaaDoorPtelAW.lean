/- Parts, read one by one: plain mathematics. -/
import Derived.Test.YtdpoiagnjdajbaaDoorPtelAV
import Derived.Test.YtdpoiagnjdajbaaDoorPtelAS
set_option linter.unusedVariables false
namespace Go.Proofs.YtdpoiagnjdajbaaDoor.valus
open Go.RowKit Go.Shelf

/-- How many parts are kept. -/
def roomM (s : St) : Nat := if 2000 < s.2.2 then 0 else 201
def partsM (rd : St → V × St) (room : Nat) : Nat → List V → St → List V × St
  | 0, acc, s => (acc, s)
  | n + 1, acc, s => if (hasM s).1 = true then partsM rd room n (if acc.length < room then acc ++ [(rd (hasM s).2).1] else acc) (rd (hasM s).2).2 else (acc, (hasM s).2)
theorem hasM_more {s : St} (h : (hasM s).1 = true) : (hasM s).2.1.length + 1 = s.1.length := by
  obtain ⟨l, x⟩ := s
  cases l with
  | nil =>
    have e : (hasM (([] : List UInt8), x)).1 = false := rfl
    rw [e] at h
    cases h
  | cons c r =>
    unfold hasM at h ⊢
    by_cases c1 : (byteM (c :: r, x)).1 = 1
    · rw [if_pos c1]
      rfl
    · rw [if_neg c1] at h
      split at h <;> cases h
theorem failM_count (s : St) : (failM s).2.2 = s.2.2 := rfl
theorem byteM_count (s : St) : (byteM s).2.2.2 = s.2.2 := by
  unfold byteM
  split <;> rfl
theorem hasM_count (s : St) : (hasM s).2.2.2 = s.2.2 := by
  unfold hasM
  split
  · exact byteM_count s
  · split
    · exact byteM_count s
    · exact byteM_count s
theorem only_of_below {R : Nat} {w w' : World} (hb : Below w.heap.size w w') : Only R w w' := ⟨hb.os, hb.tape, hb.output, hb.size, fun q hq _ => hb.block q hq⟩
/-- A row that is appended to lies from n0 on. -/
theorem Only.grew {R n0 : Nat} {w a b : World} {v v' : Value} (h : Only R w a) (hn : n0 = w.heap.size) (hv : ∀ g, v.ownBlock = some g → n0 ≤ g) (hg : Grew a b v v') : Only R w b :=
  ⟨hg.by'.os.trans h.os, hg.by'.tape.trans h.tape, hg.by'.output.trans h.output, Nat.le_trans h.size hg.by'.size, fun q hq hne => (hg.by'.block q (Nat.lt_of_lt_of_le hq h.size) (fun e => by have := hv q e.symm; omega)).trans (h.block q hq hne)⟩
theorem RdAt.grew {R n0 : Nat} {a b : World} {s : St} {v v' : Value} (h : RdAt a R s) (hR : R < n0) (hv : ∀ g, v.ownBlock = some g → n0 ≤ g) (hg : Grew a b v v') : RdAt b R s := by
  have hl := h.lt
  obtain ⟨p, c, h1, h2, h3, h4⟩ := h
  exact ⟨p, c, (hg.by'.block R hl (fun e => by have := hv R e.symm; omega)).trans h1, h2, h3, h4.kept (fun q hq => hg.by'.block q (by omega) (fun e => by have := hv q e.symm; omega))⟩
theorem infoVal : (Tryd.prog.info? 26).map (fun i => (i.zero, i.size, i.bytes)) = some (some (.agg #[.int .i64 0, .int .i64 0, .int .u64 0, .string ⟨#[]⟩, .slice none 0 0, .slice none 0 0]), 6, 88) := by kernel_rfl
theorem LiesV.ones' {ok : Nat → Prop} {w : World} {f : Nat} {us : List Value} {t : V} (h : LiesV ok f w us t) : ∀ u ∈ us, u.oneCell' = true := by
  cases f with
  | zero => exact h.elim
  | succ f =>
    obtain ⟨k, n, b, s, L, E, pL, pE, cL, cE, _, rfl, _⟩ := h
    intro u hu
    simp only [List.mem_cons, List.not_mem_nil, or_false] at hu
    rcases hu with rfl | rfl | rfl | rfl | rfl | rfl <;> rfl
/-- What reading one value promises. -/
def ReadV (B f R : Nat) (F : Nat) (args : Array Value) (rd : St → V × St) (P : World → Prop) : Prop :=
  ∀ (w : World) (s : St), RdAt w R s → s.1.length + s.2.2 < B → P w → Calls Tryd.prog F args w fun e w' => (∃ (k n : Int) (b : Nat) (z : ByteArray) (pL : Option Addr) (nL cL : Nat) (pE : Option Addr) (nE cE : Nat), e = .returned (.agg #[.int .i64 k, .int .i64 n, .int .u64 (b : Int), .string z, .slice pL nL cL, .slice pE nE cE]) ∧ LiesV (fun b => w.heap.size ≤ b ∧ b < w'.heap.size) f w' [.int .i64 k, .int .i64 n, .int .u64 (b : Int), .string z, .slice pL nL cL, .slice pE nE cE] (rd s).1) ∧ RdAt w' R (rd s).2 ∧ Only R w w'
end Go.Proofs.YtdpoiagnjdajbaaDoor.valus
/- The program's parts, of values. -/
set_option linter.unusedVariables false
namespace Go.Proofs.YtdpoiagnjdajbaaDoor.valus
open Go.RowKit Go.Shelf

set_option maxHeartbeats 8000000 in
set_option maxRecDepth 100000 in
theorem partsV_any (B f R b2 b3 : Nat) (rd : St → V × St) (P : World → Prop) (hP : ∀ w w', P w → Only R w w' → P w') (hrd : ReadV B f R 43 #[.pointer (some ⟨b2, 0, none⟩), .pointer (some ⟨b3, 0, none⟩)] rd P) (hle : ∀ s, (rd s).2.1.length ≤ s.1.length) (hlc : ∀ s, (rd s).2.1.length + (rd s).2.2.2 ≤ s.1.length + s.2.2 + 1)
    (w : World) (s : St) (h : RdAt w R s) (hB0 : s.1.length + s.2.2 ≤ B) (hw : P w) :
    Calls Tryd.prog 42 #[.pointer (some ⟨R, 0, none⟩), .func (.func 43) #[] #[.pointer (some ⟨b2, 0, none⟩), .pointer (some ⟨b3, 0, none⟩)]] w fun e w' => ∃ v', e = .returned v' ∧ OwnR 26 6 (QV f) w.heap.size w' v' (partsM rd (roomM s) (s.1.length + 1) [] s).1 ∧ RdAt w' R (partsM rd (roomM s) (s.1.length + 1) [] s).2 ∧ Only R w w' := by
  have hRl := h.lt
  obtain ⟨i0, hi, hz0, hz1, hz2⟩ := info_parts infoVal
  obtain ⟨rm, hrm⟩ : ∃ rm : Nat, rm = roomM s := ⟨_, rfl⟩
  obtain ⟨res, hres⟩ : ∃ res, res = partsM rd rm (s.1.length + 1) [] s := ⟨_, rfl⟩
  rw [← hrm, ← hres]
  obtain ⟨n0, hn0⟩ : ∃ n0, n0 = w.heap.size := ⟨_, rfl⟩
  rw [← hn0]
  have c2 : w.cell? ⟨R, 2, none⟩ = some (.int .i64 (s.2.2 : Int)) := by
    obtain ⟨p, c, hb, _⟩ := h
    exact hb.cell 2 _ rfl
  -- one round's way back
  have HN : Hid (n0 = w.heap.size) := hide hn0
  have HX : Hid (∀ (wr : World) (u : Value) (n : Nat) (acc : List V) (s' : St), RdAt wr R s' → OwnR 26 6 (QV f) n0 wr u acc → Only R w wr → P wr → partsM rd rm (n + 1) acc s' = res → s'.1.length < n + 1 → acc.length ≤ 201 → (hasM s').1 = true →
      ∀ w1 w2, Only R wr w1 → RdAt w1 R (hasM s').2 → ∀ (k m : Int) (b : Nat) (z : ByteArray) (pL : Option Addr) (nL cL : Nat) (pE : Option Addr) (nE cE : Nat), LiesV (fun b => w1.heap.size ≤ b ∧ b < w2.heap.size) f w2 [.int .i64 k, .int .i64 m, .int .u64 (b : Int), .string z, .slice pL nL cL, .slice pE nE cE] (rd (hasM s').2).1 → RdAt w2 R (rd (hasM s').2).2 → Only R w1 w2 →
      (acc.length < rm → ∃ v' W', (Builtin.append_ #[23, 23] 23 #[u, .slice (some ⟨w2.heap.size + 1, 0, none⟩) 1 1]).run Tryd.prog ((w2.alloc (.cells #[.int .i64 k, .int .i64 m, .int .u64 (b : Int), .string z, .slice pL nL cL, .slice pE nE cE] 26)).alloc (.cells #[.int .i64 k, .int .i64 m, .int .u64 (b : Int), .string z, .slice pL nL cL, .slice pE nE cE] 26)) = .ok v' W' ∧ OwnR 26 6 (QV f) n0 W' v' (acc ++ [(rd (hasM s').2).1]) ∧ RdAt W' R (rd (hasM s').2).2 ∧ Only R w W' ∧ P W' ∧ restLen W' R < restLen wr R) ∧
      (¬ acc.length < rm → OwnR 26 6 (QV f) n0 (w2.alloc (.cells #[.int .i64 k, .int .i64 m, .int .u64 (b : Int), .string z, .slice pL nL cL, .slice pE nE cE] 26)) u acc ∧ RdAt (w2.alloc (.cells #[.int .i64 k, .int .i64 m, .int .u64 (b : Int), .string z, .slice pL nL cL, .slice pE nE cE] 26)) R (rd (hasM s').2).2 ∧ Only R w (w2.alloc (.cells #[.int .i64 k, .int .i64 m, .int .u64 (b : Int), .string z, .slice pL nL cL, .slice pE nE cE] 26)) ∧ P (w2.alloc (.cells #[.int .i64 k, .int .i64 m, .int .u64 (b : Int), .string z, .slice pL nL cL, .slice pE nE cE] 26)) ∧ restLen (w2.alloc (.cells #[.int .i64 k, .int .i64 m, .int .u64 (b : Int), .string z, .slice pL nL cL, .slice pE nE cE] 26)) R < restLen wr R)) := hide fun wr u n acc s' hr hO ho hp _ _ hal hhas w1 w2 o1 r1 k m b z pL nL cL pE nE cE hl r2 o2 => by
    have hRn : R < n0 := by omega
    have hm := hasM_more hhas
    have hle2 := hle (hasM s').2
    have bA : Below w2.heap.size w2 (w2.alloc (.cells #[.int .i64 k, .int .i64 m, .int .u64 (b : Int), .string z, .slice pL nL cL, .slice pE nE cE] 26)) := (Below.refl _ w2).alloc (Nat.le_refl _) _
    have oA : Only R w2 (w2.alloc (.cells #[.int .i64 k, .int .i64 m, .int .u64 (b : Int), .string z, .slice pL nL cL, .slice pE nE cE] 26)) := only_of_below bA
    have hO1 := hO.only (QV_kept f) hRn o1
    have hO2 := hO1.only (QV_kept f) hRn o2
    have hOA := hO2.only (QV_kept f) hRn oA
    have rA := r2.later bA
    have oo := ((ho.trans o1).trans o2).trans oA
    have s1 := ho.size
    have s2 := o1.size
    have s3 := o2.size
    have pA := hP _ _ (hP _ _ (hP _ _ hp o1) o2) oA
    refine ⟨fun hlt => ?_, fun hlt => ⟨hOA, rA, oo, pA, ?_⟩⟩
    · have hq : QV f (okR n0 (w2.alloc (.cells #[.int .i64 k, .int .i64 m, .int .u64 (b : Int), .string z, .slice pL nL cL, .slice pE nE cE] 26)) u) (w2.alloc (.cells #[.int .i64 k, .int .i64 m, .int .u64 (b : Int), .string z, .slice pL nL cL, .slice pE nE cE] 26)) [.int .i64 k, .int .i64 m, .int .u64 (b : Int), .string z, .slice pL nL cL, .slice pE nE cE] (rd (hasM s').2).1 :=
        LiesV.kept (fun b hb => ⟨by omega, by have := hb.2; simp; omega, fun e => by have := (hO1.lt b e.symm).2; omega⟩) bA.size (fun b _ hlt' => bA.block b hlt') hl
      obtain ⟨v', W', hrun, hO', hg⟩ := OwnR.push (tS := 23) (QV_kept f) Tryd.underlying23 hi hz0 hz1 hz2 rfl (by decide) (by decide) hOA (by have := bA.size; omega) [.int .i64 k, .int .i64 m, .int .u64 (b : Int), .string z, .slice pL nL cL, .slice pE nE cE] (rd (hasM s').2).1 rfl hl.ones' hq (by omega) 23
      rw [World.size_alloc] at hrun
      have hv := fun g hg' => (hOA.lt g hg').1
      have rW := rA.grew hRn hv hg
      have oW := oo.grew hn0 hv hg
      have hgo : Only R (w2.alloc (.cells #[.int .i64 k, .int .i64 m, .int .u64 (b : Int), .string z, .slice pL nL cL, .slice pE nE cE] 26)) W' ∨ True := .inr trivial
      refine ⟨v', W', hrun, hO', rW, oW, ?_, ?_⟩
      · exact hP w W' hw oW
      · rw [rW.rest, hr.rest]
        omega
    · rw [rA.rest, hr.rest]
      omega
  have KH : ∀ wr s', Hid (RdAt wr R s' → Calls Tryd.prog 68 #[.pointer (some ⟨R, 0, none⟩)] wr fun e w' => e = .returned (.bool (hasM s').1) ∧ RdAt w' R (hasM s').2 ∧ Only R wr w') := fun wr s' h1 => has_any wr R s' h1
  have HRD := hide hrd
  have HPP := hide hP
  clear hrd hP
  have hRn0 : R < n0 := by omega
  have HH := hide h
  have HW := hide hw
  have HRES := hide hres
  clear hres
  by_cases hcnt : 2000 < s.2.2
  · have hr0 : rm = 0 := by rw [hrm]; exact if_pos hcnt
    subst hr0
    have hci : (s.2.2 : Int) > 2000 := by omega
    clear hrm
    go_enter Tryd.func42, Tryd.ntmps42
    go_wp2
    go_loopw [6] (fun u wr => ∃ (n : Nat) (acc : List V) (s' : St), Hid (RdAt wr R s' ∧ OwnR 26 6 (QV f) n0 wr u acc ∧ Only R w wr ∧ P wr ∧ partsM rd 0 n acc s' = res ∧ (s'.1.length < n ∧ s'.1.length + s'.2.2 ≤ B) ∧ acc.length ≤ 201)) (fun _ wr => restLen wr R)
    case atStart => exact ⟨s.1.length + 1, [], s, hide ⟨HH.out, OwnR.nil _ _ _ _ _, Only.refl R w, HW.out, HRES.out.symm, ⟨by omega, hB0⟩, by simp⟩⟩
    case round =>
      obtain ⟨n, acc, s', hh⟩ := hrel
      obtain ⟨hr, hO, ho, hp, hc, ⟨hn, hB⟩, hal⟩ := hh.out
      cases n with
      | zero => omega
      | succ n =>
        have hc' : (if (hasM s').1 = true then partsM rd 0 n (if acc.length < 0 then acc ++ [(rd (hasM s').2).1] else acc) (rd (hasM s').2).2 else (acc, (hasM s').2)) = res := hc
        have KH1 := hide (unhide (KH wr s') hr)
        by_cases hhas : (hasM s').1 = true
        · rw [if_pos hhas] at hc'
          have hm := hasM_more hhas
          have hmc := hasM_count s'
          have hB2 : (hasM s').2.1.length + (hasM s').2.2.2 < B := by omega
          have HX1 := hide (HX.out wr _ n acc s' hr hO ho hp hc hn hal hhas)
          rw [hhas] at KH1
          have HC := hide hc'
          have HPW := hide hp
          obtain ⟨pr, cr, rfl, _, _, _⟩ := hO.row (QV_kept f)
          have hal63 : acc.length ≤ 9223372036854775807 := by omega
          clear hc hc' hh hr hO ho hp hhas
          have hlt : ¬ acc.length < 0 := by omega
          have hlI : ¬ (acc.length : Int) < 0 := by omega
          go_wp2_with (first
            | (go_at_call 68; refine (unhide KH1).mono ?_; rintro e w1 ⟨rfl, r1, o1⟩)
            | (go_at_call 43; refine (HRD.out w1 _ r1 hB2 (HPP.out _ _ HPW.out o1)).mono ?_; rintro e w2 ⟨⟨k, m, b, z, pL, nL, cL, pE, nE, cE, rfl, hl⟩, r2, o2⟩; have HZ := hide ((HX1.out w1 w2 o1 r1 k m b z pL nL cL pE nE cE hl r2 o2).2 hlt); clear hl r2 o2 r1 o1))
          go_roundw
          case rel => exact ⟨n, acc, (rd (hasM s').2).2, hide ⟨HZ.out.2.1, HZ.out.1, HZ.out.2.2.1, HZ.out.2.2.2.1, by have := HC.out; rw [if_neg hlt] at this; exact this, ⟨by have := hle (hasM s').2; have := hm; omega, by have := hlc (hasM s').2; omega⟩, hal⟩⟩
          case measure => exact HZ.out.2.2.2.2
        · have hf : (hasM s').1 = false := by cases hb : (hasM s').1 with | true => exact absurd hb hhas | false => rfl
          rw [if_neg hhas] at hc'
          rw [hf] at KH1
          have HZ : Hid (∀ w1, RdAt w1 R (hasM s').2 → Only R wr w1 → OwnR 26 6 (QV f) n0 w1 _ res.1 ∧ RdAt w1 R res.2 ∧ Only R w w1) := hide fun w1 r1 o1 => by
            rw [← hc']
            exact ⟨hO.only (QV_kept f) (by omega) o1, r1, ho.trans o1⟩
          clear hc hc' hh hr hO ho hp hhas hf HX
          go_wp2_with (go_at_call 68; refine (unhide KH1).mono ?_; rintro e w1 ⟨rfl, r1, o1⟩)
          go_ret
          obtain ⟨x1, x2, x3⟩ := HZ.out w1 r1 o1
          exact ⟨_, rfl, x1, x2, x3⟩
  · have hr0 : rm = 201 := by rw [hrm]; exact if_neg hcnt
    subst hr0
    have hci : ¬ (s.2.2 : Int) > 2000 := by omega
    clear hrm
    go_enter Tryd.func42, Tryd.ntmps42
    go_wp2
    go_loopw [6] (fun u wr => ∃ (n : Nat) (acc : List V) (s' : St), Hid (RdAt wr R s' ∧ OwnR 26 6 (QV f) n0 wr u acc ∧ Only R w wr ∧ P wr ∧ partsM rd 201 n acc s' = res ∧ (s'.1.length < n ∧ s'.1.length + s'.2.2 ≤ B) ∧ acc.length ≤ 201)) (fun _ wr => restLen wr R)
    case atStart => exact ⟨s.1.length + 1, [], s, hide ⟨HH.out, OwnR.nil _ _ _ _ _, Only.refl R w, HW.out, HRES.out.symm, ⟨by omega, hB0⟩, by simp⟩⟩
    case round =>
      obtain ⟨n, acc, s', hh⟩ := hrel
      obtain ⟨hr, hO, ho, hp, hc, ⟨hn, hB⟩, hal⟩ := hh.out
      cases n with
      | zero => omega
      | succ n =>
        have hc' : (if (hasM s').1 = true then partsM rd 201 n (if acc.length < 201 then acc ++ [(rd (hasM s').2).1] else acc) (rd (hasM s').2).2 else (acc, (hasM s').2)) = res := hc
        have KH1 := hide (unhide (KH wr s') hr)
        by_cases hhas : (hasM s').1 = true
        · rw [if_pos hhas] at hc'
          have hm := hasM_more hhas
          have hmc := hasM_count s'
          have hB2 : (hasM s').2.1.length + (hasM s').2.2.2 < B := by omega
          have HX1 := hide (HX.out wr _ n acc s' hr hO ho hp hc hn hal hhas)
          rw [hhas] at KH1
          have HC := hide hc'
          have HPW := hide hp
          obtain ⟨pr, cr, rfl, _, _, _⟩ := hO.row (QV_kept f)
          have hal63 : acc.length ≤ 9223372036854775807 := by omega
          clear hc hc' hh hr hO ho hp hhas
          by_cases hlt : acc.length < 201
          · have hlI : (acc.length : Int) < 201 := by omega
            go_wp2_with (first
              | (go_at_call 68; refine (unhide KH1).mono ?_; rintro e w1 ⟨rfl, r1, o1⟩)
              | (go_at_call 43; refine (HRD.out w1 _ r1 hB2 (HPP.out _ _ HPW.out o1)).mono ?_; rintro e w2 ⟨⟨k, m, b, z, pL, nL, cL, pE, nE, cE, rfl, hl⟩, r2, o2⟩; obtain ⟨v', W', hrun, hO', rW, oW, pW, lW⟩ := (HX1.out w1 w2 o1 r1 k m b z pL nL cL pE nE cE hl r2 o2).1 hlt; have HZ := hide (And.intro hO' (And.intro rW (And.intro oW (And.intro pW lW)))); clear hO' rW oW pW lW hl r2 o2 r1 o1)
              | (at_builtin; refine Lib.wpList_append_run _ rfl _ _ _ _ rfl _ _ rfl rfl _ _ hrun ?_))
            go_roundw
            case rel => exact ⟨n, acc ++ [(rd (hasM s').2).1], (rd (hasM s').2).2, hide ⟨HZ.out.2.1, HZ.out.1, HZ.out.2.2.1, HZ.out.2.2.2.1, by have := HC.out; rw [if_pos hlt] at this; exact this, ⟨by have := hle (hasM s').2; have := hm; omega, by have := hlc (hasM s').2; omega⟩, by simp only [List.length_append, List.length_cons, List.length_nil]; omega⟩⟩
            case measure => exact HZ.out.2.2.2.2
          · have hlI : ¬ (acc.length : Int) < 201 := by omega
            go_wp2_with (first
              | (go_at_call 68; refine (unhide KH1).mono ?_; rintro e w1 ⟨rfl, r1, o1⟩)
              | (go_at_call 43; refine (HRD.out w1 _ r1 hB2 (HPP.out _ _ HPW.out o1)).mono ?_; rintro e w2 ⟨⟨k, m, b, z, pL, nL, cL, pE, nE, cE, rfl, hl⟩, r2, o2⟩; have HZ := hide ((HX1.out w1 w2 o1 r1 k m b z pL nL cL pE nE cE hl r2 o2).2 hlt); clear hl r2 o2 r1 o1))
            go_roundw
            case rel => exact ⟨n, acc, (rd (hasM s').2).2, hide ⟨HZ.out.2.1, HZ.out.1, HZ.out.2.2.1, HZ.out.2.2.2.1, by have := HC.out; rw [if_neg hlt] at this; exact this, ⟨by have := hle (hasM s').2; have := hm; omega, by have := hlc (hasM s').2; omega⟩, hal⟩⟩
            case measure => exact HZ.out.2.2.2.2
        · have hf : (hasM s').1 = false := by cases hb : (hasM s').1 with | true => exact absurd hb hhas | false => rfl
          rw [if_neg hhas] at hc'
          rw [hf] at KH1
          have HZ : Hid (∀ w1, RdAt w1 R (hasM s').2 → Only R wr w1 → OwnR 26 6 (QV f) n0 w1 _ res.1 ∧ RdAt w1 R res.2 ∧ Only R w w1) := hide fun w1 r1 o1 => by
            rw [← hc']
            exact ⟨hO.only (QV_kept f) (by omega) o1, r1, ho.trans o1⟩
          clear hc hc' hh hr hO ho hp hhas hf HX
          go_wp2_with (go_at_call 68; refine (unhide KH1).mono ?_; rintro e w1 ⟨rfl, r1, o1⟩)
          go_ret
          obtain ⟨x1, x2, x3⟩ := HZ.out w1 r1 o1
          exact ⟨_, rfl, x1, x2, x3⟩
end Go.Proofs.YtdpoiagnjdajbaaDoor.valus
/- The program's parts, of entries. -/
set_option linter.unusedVariables false
namespace Go.Proofs.YtdpoiagnjdajbaaDoor.valus
open Go.RowKit Go.Shelf

theorem infoEn : (Tryd.prog.info? 54).map (fun i => (i.zero, i.size, i.bytes)) = some (some (.agg #[.string ⟨#[]⟩, .int .i64 0, .int .i64 0, .int .u64 0, .string ⟨#[]⟩, .slice none 0 0, .slice none 0 0]), 7, 104) := by kernel_rfl
theorem QE.ones {ok : Nat → Prop} {w : World} {f : Nat} {us : List Value} {t : V} (h : QE f ok w us t) : ∀ u ∈ us, u.oneCell' = true := by
  obtain ⟨key, y, xs, _, rfl, _, hl⟩ := h
  intro u hu
  rcases List.mem_cons.1 hu with rfl | hu
  · rfl
  · exact hl.ones' u hu
/-- What reading one entry promises. -/
def ReadE (B f R : Nat) (F : Nat) (args : Array Value) (rd : St → V × St) (P : World → Prop) : Prop :=
  ∀ (w : World) (s : St), RdAt w R s → s.1.length + s.2.2 < B → P w → Calls Tryd.prog F args w fun e w' => (∃ (key : ByteArray) (k n : Int) (b : Nat) (z : ByteArray) (pL : Option Addr) (nL cL : Nat) (pE : Option Addr) (nE cE : Nat), e = .returned (.agg #[.string key, .int .i64 k, .int .i64 n, .int .u64 (b : Int), .string z, .slice pL nL cL, .slice pE nE cE]) ∧ QE f (fun b => w.heap.size ≤ b ∧ b < w'.heap.size) w' [.string key, .int .i64 k, .int .i64 n, .int .u64 (b : Int), .string z, .slice pL nL cL, .slice pE nE cE] (rd s).1) ∧ RdAt w' R (rd s).2 ∧ Only R w w'
set_option maxHeartbeats 8000000 in
set_option maxRecDepth 100000 in
theorem partsE_any (B f R b2 b3 : Nat) (rd : St → V × St) (P : World → Prop) (hP : ∀ w w', P w → Only R w w' → P w') (hrd : ReadE B f R 45 #[.pointer (some ⟨b2, 0, none⟩), .pointer (some ⟨b3, 0, none⟩)] rd P) (hle : ∀ s, (rd s).2.1.length ≤ s.1.length) (hlc : ∀ s, (rd s).2.1.length + (rd s).2.2.2 ≤ s.1.length + s.2.2 + 1)
    (w : World) (s : St) (h : RdAt w R s) (hB0 : s.1.length + s.2.2 ≤ B) (hw : P w) :
    Calls Tryd.prog 44 #[.pointer (some ⟨R, 0, none⟩), .func (.func 45) #[] #[.pointer (some ⟨b2, 0, none⟩), .pointer (some ⟨b3, 0, none⟩)]] w fun e w' => ∃ v', e = .returned v' ∧ OwnR 54 7 (QE f) w.heap.size w' v' (partsM rd (roomM s) (s.1.length + 1) [] s).1 ∧ RdAt w' R (partsM rd (roomM s) (s.1.length + 1) [] s).2 ∧ Only R w w' := by
  have hRl := h.lt
  obtain ⟨i0, hi, hz0, hz1, hz2⟩ := info_parts infoEn
  obtain ⟨rm, hrm⟩ : ∃ rm : Nat, rm = roomM s := ⟨_, rfl⟩
  obtain ⟨res, hres⟩ : ∃ res, res = partsM rd rm (s.1.length + 1) [] s := ⟨_, rfl⟩
  rw [← hrm, ← hres]
  obtain ⟨n0, hn0⟩ : ∃ n0, n0 = w.heap.size := ⟨_, rfl⟩
  rw [← hn0]
  have c2 : w.cell? ⟨R, 2, none⟩ = some (.int .i64 (s.2.2 : Int)) := by
    obtain ⟨p, c, hb, _⟩ := h
    exact hb.cell 2 _ rfl
  -- one round's way back
  have HN : Hid (n0 = w.heap.size) := hide hn0
  have HX : Hid (∀ (wr : World) (u : Value) (n : Nat) (acc : List V) (s' : St), RdAt wr R s' → OwnR 54 7 (QE f) n0 wr u acc → Only R w wr → P wr → partsM rd rm (n + 1) acc s' = res → s'.1.length < n + 1 → acc.length ≤ 201 → (hasM s').1 = true →
      ∀ w1 w2, Only R wr w1 → RdAt w1 R (hasM s').2 → ∀ (key : ByteArray) (k m : Int) (b : Nat) (z : ByteArray) (pL : Option Addr) (nL cL : Nat) (pE : Option Addr) (nE cE : Nat), QE f (fun b => w1.heap.size ≤ b ∧ b < w2.heap.size) w2 [.string key, .int .i64 k, .int .i64 m, .int .u64 (b : Int), .string z, .slice pL nL cL, .slice pE nE cE] (rd (hasM s').2).1 → RdAt w2 R (rd (hasM s').2).2 → Only R w1 w2 →
      (acc.length < rm → ∃ v' W', (Builtin.append_ #[24, 24] 24 #[u, .slice (some ⟨w2.heap.size + 1, 0, none⟩) 1 1]).run Tryd.prog ((w2.alloc (.cells #[.string key, .int .i64 k, .int .i64 m, .int .u64 (b : Int), .string z, .slice pL nL cL, .slice pE nE cE] 54)).alloc (.cells #[.string key, .int .i64 k, .int .i64 m, .int .u64 (b : Int), .string z, .slice pL nL cL, .slice pE nE cE] 54)) = .ok v' W' ∧ OwnR 54 7 (QE f) n0 W' v' (acc ++ [(rd (hasM s').2).1]) ∧ RdAt W' R (rd (hasM s').2).2 ∧ Only R w W' ∧ P W' ∧ restLen W' R < restLen wr R) ∧
      (¬ acc.length < rm → OwnR 54 7 (QE f) n0 (w2.alloc (.cells #[.string key, .int .i64 k, .int .i64 m, .int .u64 (b : Int), .string z, .slice pL nL cL, .slice pE nE cE] 54)) u acc ∧ RdAt (w2.alloc (.cells #[.string key, .int .i64 k, .int .i64 m, .int .u64 (b : Int), .string z, .slice pL nL cL, .slice pE nE cE] 54)) R (rd (hasM s').2).2 ∧ Only R w (w2.alloc (.cells #[.string key, .int .i64 k, .int .i64 m, .int .u64 (b : Int), .string z, .slice pL nL cL, .slice pE nE cE] 54)) ∧ P (w2.alloc (.cells #[.string key, .int .i64 k, .int .i64 m, .int .u64 (b : Int), .string z, .slice pL nL cL, .slice pE nE cE] 54)) ∧ restLen (w2.alloc (.cells #[.string key, .int .i64 k, .int .i64 m, .int .u64 (b : Int), .string z, .slice pL nL cL, .slice pE nE cE] 54)) R < restLen wr R)) := hide fun wr u n acc s' hr hO ho hp _ _ hal hhas w1 w2 o1 r1 key k m b z pL nL cL pE nE cE hl r2 o2 => by
    have hRn : R < n0 := by omega
    have hm := hasM_more hhas
    have hle2 := hle (hasM s').2
    have bA : Below w2.heap.size w2 (w2.alloc (.cells #[.string key, .int .i64 k, .int .i64 m, .int .u64 (b : Int), .string z, .slice pL nL cL, .slice pE nE cE] 54)) := (Below.refl _ w2).alloc (Nat.le_refl _) _
    have oA : Only R w2 (w2.alloc (.cells #[.string key, .int .i64 k, .int .i64 m, .int .u64 (b : Int), .string z, .slice pL nL cL, .slice pE nE cE] 54)) := only_of_below bA
    have hO1 := hO.only (QE_kept f) hRn o1
    have hO2 := hO1.only (QE_kept f) hRn o2
    have hOA := hO2.only (QE_kept f) hRn oA
    have rA := r2.later bA
    have oo := ((ho.trans o1).trans o2).trans oA
    have s1 := ho.size
    have s2 := o1.size
    have s3 := o2.size
    have pA := hP _ _ (hP _ _ (hP _ _ hp o1) o2) oA
    refine ⟨fun hlt => ?_, fun hlt => ⟨hOA, rA, oo, pA, ?_⟩⟩
    · have hq : QE f (okR n0 (w2.alloc (.cells #[.string key, .int .i64 k, .int .i64 m, .int .u64 (b : Int), .string z, .slice pL nL cL, .slice pE nE cE] 54)) u) (w2.alloc (.cells #[.string key, .int .i64 k, .int .i64 m, .int .u64 (b : Int), .string z, .slice pL nL cL, .slice pE nE cE] 54)) [.string key, .int .i64 k, .int .i64 m, .int .u64 (b : Int), .string z, .slice pL nL cL, .slice pE nE cE] (rd (hasM s').2).1 :=
        QE_kept f _ _ _ _ _ _ hl (fun b hb => ⟨by omega, by have := hb.2; simp; omega, fun e => by have := (hO1.lt b e.symm).2; omega⟩) bA.size (fun b _ hlt' => bA.block b hlt')
      obtain ⟨v', W', hrun, hO', hg⟩ := OwnR.push (tS := 24) (QE_kept f) Tryd.underlying24 hi hz0 hz1 hz2 rfl (by decide) (by decide) hOA (by have := bA.size; omega) [.string key, .int .i64 k, .int .i64 m, .int .u64 (b : Int), .string z, .slice pL nL cL, .slice pE nE cE] (rd (hasM s').2).1 rfl hl.ones hq (by omega) 24
      rw [World.size_alloc] at hrun
      have hv := fun g hg' => (hOA.lt g hg').1
      have rW := rA.grew hRn hv hg
      have oW := oo.grew hn0 hv hg
      have hgo : Only R (w2.alloc (.cells #[.string key, .int .i64 k, .int .i64 m, .int .u64 (b : Int), .string z, .slice pL nL cL, .slice pE nE cE] 54)) W' ∨ True := .inr trivial
      refine ⟨v', W', hrun, hO', rW, oW, ?_, ?_⟩
      · exact hP w W' hw oW
      · rw [rW.rest, hr.rest]
        omega
    · rw [rA.rest, hr.rest]
      omega
  have KH : ∀ wr s', Hid (RdAt wr R s' → Calls Tryd.prog 68 #[.pointer (some ⟨R, 0, none⟩)] wr fun e w' => e = .returned (.bool (hasM s').1) ∧ RdAt w' R (hasM s').2 ∧ Only R wr w') := fun wr s' h1 => has_any wr R s' h1
  have HRD := hide hrd
  have HPP := hide hP
  clear hrd hP
  have hRn0 : R < n0 := by omega
  have HH := hide h
  have HW := hide hw
  have HRES := hide hres
  clear hres
  by_cases hcnt : 2000 < s.2.2
  · have hr0 : rm = 0 := by rw [hrm]; exact if_pos hcnt
    subst hr0
    have hci : (s.2.2 : Int) > 2000 := by omega
    clear hrm
    go_enter Tryd.func44, Tryd.ntmps44
    go_wp2
    go_loopw [6] (fun u wr => ∃ (n : Nat) (acc : List V) (s' : St), Hid (RdAt wr R s' ∧ OwnR 54 7 (QE f) n0 wr u acc ∧ Only R w wr ∧ P wr ∧ partsM rd 0 n acc s' = res ∧ (s'.1.length < n ∧ s'.1.length + s'.2.2 ≤ B) ∧ acc.length ≤ 201)) (fun _ wr => restLen wr R)
    case atStart => exact ⟨s.1.length + 1, [], s, hide ⟨HH.out, OwnR.nil _ _ _ _ _, Only.refl R w, HW.out, HRES.out.symm, ⟨by omega, hB0⟩, by simp⟩⟩
    case round =>
      obtain ⟨n, acc, s', hh⟩ := hrel
      obtain ⟨hr, hO, ho, hp, hc, ⟨hn, hB⟩, hal⟩ := hh.out
      cases n with
      | zero => omega
      | succ n =>
        have hc' : (if (hasM s').1 = true then partsM rd 0 n (if acc.length < 0 then acc ++ [(rd (hasM s').2).1] else acc) (rd (hasM s').2).2 else (acc, (hasM s').2)) = res := hc
        have KH1 := hide (unhide (KH wr s') hr)
        by_cases hhas : (hasM s').1 = true
        · rw [if_pos hhas] at hc'
          have hm := hasM_more hhas
          have hmc := hasM_count s'
          have hB2 : (hasM s').2.1.length + (hasM s').2.2.2 < B := by omega
          have HX1 := hide (HX.out wr _ n acc s' hr hO ho hp hc hn hal hhas)
          rw [hhas] at KH1
          have HC := hide hc'
          have HPW := hide hp
          obtain ⟨pr, cr, rfl, _, _, _⟩ := hO.row (QE_kept f)
          have hal63 : acc.length ≤ 9223372036854775807 := by omega
          clear hc hc' hh hr hO ho hp hhas
          have hlt : ¬ acc.length < 0 := by omega
          have hlI : ¬ (acc.length : Int) < 0 := by omega
          go_wp2_with (first
            | (go_at_call 68; refine (unhide KH1).mono ?_; rintro e w1 ⟨rfl, r1, o1⟩)
            | (go_at_call 45; refine (HRD.out w1 _ r1 hB2 (HPP.out _ _ HPW.out o1)).mono ?_; rintro e w2 ⟨⟨key, k, m, b, z, pL, nL, cL, pE, nE, cE, rfl, hl⟩, r2, o2⟩; have HZ := hide ((HX1.out w1 w2 o1 r1 key k m b z pL nL cL pE nE cE hl r2 o2).2 hlt); clear hl r2 o2 r1 o1))
          go_roundw
          case rel => exact ⟨n, acc, (rd (hasM s').2).2, hide ⟨HZ.out.2.1, HZ.out.1, HZ.out.2.2.1, HZ.out.2.2.2.1, by have := HC.out; rw [if_neg hlt] at this; exact this, ⟨by have := hle (hasM s').2; have := hm; omega, by have := hlc (hasM s').2; omega⟩, hal⟩⟩
          case measure => exact HZ.out.2.2.2.2
        · have hf : (hasM s').1 = false := by cases hb : (hasM s').1 with | true => exact absurd hb hhas | false => rfl
          rw [if_neg hhas] at hc'
          rw [hf] at KH1
          have HZ : Hid (∀ w1, RdAt w1 R (hasM s').2 → Only R wr w1 → OwnR 54 7 (QE f) n0 w1 _ res.1 ∧ RdAt w1 R res.2 ∧ Only R w w1) := hide fun w1 r1 o1 => by
            rw [← hc']
            exact ⟨hO.only (QE_kept f) (by omega) o1, r1, ho.trans o1⟩
          clear hc hc' hh hr hO ho hp hhas hf HX
          go_wp2_with (go_at_call 68; refine (unhide KH1).mono ?_; rintro e w1 ⟨rfl, r1, o1⟩)
          go_ret
          obtain ⟨x1, x2, x3⟩ := HZ.out w1 r1 o1
          exact ⟨_, rfl, x1, x2, x3⟩
  · have hr0 : rm = 201 := by rw [hrm]; exact if_neg hcnt
    subst hr0
    have hci : ¬ (s.2.2 : Int) > 2000 := by omega
    clear hrm
    go_enter Tryd.func44, Tryd.ntmps44
    go_wp2
    go_loopw [6] (fun u wr => ∃ (n : Nat) (acc : List V) (s' : St), Hid (RdAt wr R s' ∧ OwnR 54 7 (QE f) n0 wr u acc ∧ Only R w wr ∧ P wr ∧ partsM rd 201 n acc s' = res ∧ (s'.1.length < n ∧ s'.1.length + s'.2.2 ≤ B) ∧ acc.length ≤ 201)) (fun _ wr => restLen wr R)
    case atStart => exact ⟨s.1.length + 1, [], s, hide ⟨HH.out, OwnR.nil _ _ _ _ _, Only.refl R w, HW.out, HRES.out.symm, ⟨by omega, hB0⟩, by simp⟩⟩
    case round =>
      obtain ⟨n, acc, s', hh⟩ := hrel
      obtain ⟨hr, hO, ho, hp, hc, ⟨hn, hB⟩, hal⟩ := hh.out
      cases n with
      | zero => omega
      | succ n =>
        have hc' : (if (hasM s').1 = true then partsM rd 201 n (if acc.length < 201 then acc ++ [(rd (hasM s').2).1] else acc) (rd (hasM s').2).2 else (acc, (hasM s').2)) = res := hc
        have KH1 := hide (unhide (KH wr s') hr)
        by_cases hhas : (hasM s').1 = true
        · rw [if_pos hhas] at hc'
          have hm := hasM_more hhas
          have hmc := hasM_count s'
          have hB2 : (hasM s').2.1.length + (hasM s').2.2.2 < B := by omega
          have HX1 := hide (HX.out wr _ n acc s' hr hO ho hp hc hn hal hhas)
          rw [hhas] at KH1
          have HC := hide hc'
          have HPW := hide hp
          obtain ⟨pr, cr, rfl, _, _, _⟩ := hO.row (QE_kept f)
          have hal63 : acc.length ≤ 9223372036854775807 := by omega
          clear hc hc' hh hr hO ho hp hhas
          by_cases hlt : acc.length < 201
          · have hlI : (acc.length : Int) < 201 := by omega
            go_wp2_with (first
              | (go_at_call 68; refine (unhide KH1).mono ?_; rintro e w1 ⟨rfl, r1, o1⟩)
              | (go_at_call 45; refine (HRD.out w1 _ r1 hB2 (HPP.out _ _ HPW.out o1)).mono ?_; rintro e w2 ⟨⟨key, k, m, b, z, pL, nL, cL, pE, nE, cE, rfl, hl⟩, r2, o2⟩; obtain ⟨v', W', hrun, hO', rW, oW, pW, lW⟩ := (HX1.out w1 w2 o1 r1 key k m b z pL nL cL pE nE cE hl r2 o2).1 hlt; have HZ := hide (And.intro hO' (And.intro rW (And.intro oW (And.intro pW lW)))); clear hO' rW oW pW lW hl r2 o2 r1 o1)
              | (at_builtin; refine Lib.wpList_append_run _ rfl _ _ _ _ rfl _ _ rfl rfl _ _ hrun ?_))
            go_roundw
            case rel => exact ⟨n, acc ++ [(rd (hasM s').2).1], (rd (hasM s').2).2, hide ⟨HZ.out.2.1, HZ.out.1, HZ.out.2.2.1, HZ.out.2.2.2.1, by have := HC.out; rw [if_pos hlt] at this; exact this, ⟨by have := hle (hasM s').2; have := hm; omega, by have := hlc (hasM s').2; omega⟩, by simp only [List.length_append, List.length_cons, List.length_nil]; omega⟩⟩
            case measure => exact HZ.out.2.2.2.2
          · have hlI : ¬ (acc.length : Int) < 201 := by omega
            go_wp2_with (first
              | (go_at_call 68; refine (unhide KH1).mono ?_; rintro e w1 ⟨rfl, r1, o1⟩)
              | (go_at_call 45; refine (HRD.out w1 _ r1 hB2 (HPP.out _ _ HPW.out o1)).mono ?_; rintro e w2 ⟨⟨key, k, m, b, z, pL, nL, cL, pE, nE, cE, rfl, hl⟩, r2, o2⟩; have HZ := hide ((HX1.out w1 w2 o1 r1 key k m b z pL nL cL pE nE cE hl r2 o2).2 hlt); clear hl r2 o2 r1 o1))
            go_roundw
            case rel => exact ⟨n, acc, (rd (hasM s').2).2, hide ⟨HZ.out.2.1, HZ.out.1, HZ.out.2.2.1, HZ.out.2.2.2.1, by have := HC.out; rw [if_neg hlt] at this; exact this, ⟨by have := hle (hasM s').2; have := hm; omega, by have := hlc (hasM s').2; omega⟩, hal⟩⟩
            case measure => exact HZ.out.2.2.2.2
        · have hf : (hasM s').1 = false := by cases hb : (hasM s').1 with | true => exact absurd hb hhas | false => rfl
          rw [if_neg hhas] at hc'
          rw [hf] at KH1
          have HZ : Hid (∀ w1, RdAt w1 R (hasM s').2 → Only R wr w1 → OwnR 54 7 (QE f) n0 w1 _ res.1 ∧ RdAt w1 R res.2 ∧ Only R w w1) := hide fun w1 r1 o1 => by
            rw [← hc']
            exact ⟨hO.only (QE_kept f) (by omega) o1, r1, ho.trans o1⟩
          clear hc hc' hh hr hO ho hp hhas hf HX
          go_wp2_with (go_at_call 68; refine (unhide KH1).mono ?_; rintro e w1 ⟨rfl, r1, o1⟩)
          go_ret
          obtain ⟨x1, x2, x3⟩ := HZ.out w1 r1 o1
          exact ⟨_, rfl, x1, x2, x3⟩
end Go.Proofs.YtdpoiagnjdajbaaDoor.valus
