/- The program's reader: texts. -/
import Derived.Test.YtdpoiagnjdajbaaDoorPtelAS
import Derived.Test.YtdpoiagnjdajbaaDoorPtelAU
set_option linter.unusedVariables false
namespace Go.Proofs.YtdpoiagnjdajbaaDoor.valus
open Go.RowKit Go.Shelf

/-- A text, up to its end. -/
def chainM : Nat → List UInt8 → St → List UInt8 × St
  | 0, acc, s => (acc, s)
  | n + 1, acc, s => if (byteM s).1 = 0 then (if (insideM (byteM s).2).1 = true then chainM n (acc ++ [0]) (insideM (byteM s).2).2 else (acc, (insideM (byteM s).2).2)) else chainM n (acc ++ [(byteM s).1]) (byteM s).2
def Bld (B b : Nat) (l : List UInt8) (w : World) : Prop := Lib.IsBuilderF 105 5 B b (Lib.byteCells l) w
/-- What turns below the builder leaves it. -/
theorem Bld.only {B b R : Nat} {l : List UInt8} {w w' : World} (h : Bld B b l w) (hR : R < B) (hb : Only R w w') : Bld B b l w' := by
  have at_ : ∀ p, Lib.BuilderAtF 105 5 B b p (Lib.byteCells l) w → Lib.BuilderAtF 105 5 B b p (Lib.byteCells l) w' := fun p h => by
    have hlt := h.lt
    obtain ⟨hB, v, hv, hown, hne⟩ := h
    have hbR : some b ≠ some R := fun e => by injection e with e; omega
    refine ⟨hB, v, (hb.block b hlt hbR).trans hv, hown.kept (row := some R) hb ?_, hne⟩
    exact Classical.byCases (fun e : v.ownBlock = none => .inl e) (fun e => .inr (fun e2 => by
      have := hown.lt R e2
      omega))
  exact h.elim (fun x => .inl (at_ _ x)) (fun x => .inr (at_ _ x))
theorem Bld.new (w : World) : Bld w.heap.size w.heap.size [] (w.alloc (.cells #[.pointer none, .slice none 0 0] 105)) :=
  Lib.IsBuilderF.of (.inl ⟨Nat.le_refl _, .slice none 0 0, World.alloc_heap_new w _, World.ownsRow_nil _ _ _ _, by simp [Value.ownBlock]⟩)
theorem writeB_any (B b : Nat) (l : List UInt8) (c : UInt8) (w : World) (h : Bld B b l w) (hl : l.length + 1 ≤ 140737488355328) (hB : B ≤ w.heap.size) :
    Calls Tryd.prog 67 #[.pointer (some ⟨b, 0, none⟩), .int .u8 (c.toNat : Int)] w fun e w' => e = .returned .nilIface ∧ Bld B b (l ++ [c]) w' ∧ Below B w w' := by
  refine (Tryd.Builder_WriteByte_k B b (Lib.byteCells l) _ w h (by rw [Lib.byteCells_length]; exact hl) hB).mono ?_
  rintro e w' ⟨rfl, h1, h2, h3⟩
  refine ⟨rfl, ?_, h2⟩
  unfold Bld
  rw [Lib.byteCells_append]
  exact .inr h1
def restLen (w : World) (R : Nat) : Nat := match w.cell? ⟨R, 0, none⟩ with | some (.slice _ n _) => n | _ => 0
theorem RdAt.rest {W : World} {R : Nat} {s : St} (h : RdAt W R s) : restLen W R = s.1.length := by
  obtain ⟨p, c, hb, _⟩ := h
  have c0 : W.cell? ⟨R, 0, none⟩ = some (.slice p s.1.length c) := hb.cell 0 _ rfl
  unfold restLen
  rw [c0]
theorem RdAt.under {W W' : World} {R B : Nat} {s : St} (h : RdAt W R s) (hR : R < B) (hb : Below B W W') : RdAt W' R s := by
  obtain ⟨p, c, h1, h2, h3, h4⟩ := h
  exact ⟨p, c, (hb.block R hR).trans h1, h2, h3, h4.kept (fun b hlt => hb.block b (by omega))⟩
theorem Only.under {R B : Nat} {w a b : World} (h : Only R w a) (hB : B = w.heap.size) (hb : Below B a b) : Only R w b :=
  ⟨hb.os.trans h.os, hb.tape.trans h.tape, hb.output.trans h.output, Nat.le_trans h.size hb.size, fun q hq hn => (hb.block q (by omega)).trans (h.block q hq hn)⟩
theorem byteM_more {s : St} (h : (byteM s).1 ≠ 0) : (byteM s).2.1.length + 1 = s.1.length := by
  obtain ⟨l, x⟩ := s
  cases l with
  | nil => exact absurd rfl h
  | cons c r => rfl
theorem insideM_len (s : St) : (insideM s).2.1.length ≤ s.1.length := by
  have h := byteM_len s
  unfold insideM
  split
  · exact h
  · split
    · exact h
    · exact Nat.zero_le _
theorem inside_more {s : St} (h : (insideM (byteM s).2).1 = true) : (insideM (byteM s).2).2.1.length + 1 ≤ s.1.length := by
  have h1 := insideM_len (byteM s).2
  obtain ⟨l, x⟩ := s
  cases l with
  | nil =>
    have e : (insideM (byteM (([] : List UInt8), x)).2).1 = false := rfl
    rw [e] at h
    cases h
  | cons c r =>
    have : (byteM (c :: r, x)).2.1.length = r.length := rfl
    simp only [List.length_cons]
    omega
set_option maxHeartbeats 8000000 in
set_option maxRecDepth 100000 in
theorem chainR_any (w : World) (R : Nat) (s : St) (h : RdAt w R s) (hlen : s.1.length ≤ 100000000) : Calls Tryd.prog 41 #[.pointer (some ⟨R, 0, none⟩)] w fun e w' => e = .returned (.string ⟨(chainM (s.1.length + 1) [] s).1.toArray⟩) ∧ RdAt w' R (chainM (s.1.length + 1) [] s).2 ∧ Only R w w' := by
  have hRl := h.lt
  obtain ⟨res, hres⟩ : ∃ res, res = chainM (s.1.length + 1) [] s := ⟨_, rfl⟩
  obtain ⟨B, hB⟩ : ∃ B, B = w.heap.size := ⟨_, rfl⟩
  have bA : Below w.heap.size w (w.alloc (.cells #[.pointer none, .slice none 0 0] 105)) := (Below.refl _ w).alloc (Nat.le_refl _) _
  have HS : Hid (RdAt (w.alloc (.cells #[.pointer none, .slice none 0 0] 105)) R s ∧ Bld B B [] (w.alloc (.cells #[.pointer none, .slice none 0 0] 105)) ∧ Only R w (w.alloc (.cells #[.pointer none, .slice none 0 0] 105))) := hide ⟨h.later bA, by rw [hB]; exact Bld.new w, ⟨bA.os, bA.tape, bA.output, bA.size, fun q hq _ => bA.block q hq⟩⟩
  rw [← hres]
  go_enter Tryd.func41, Tryd.ntmps41
  go_wp2
  rw [← hB]
  have hBw : Hid (B = w.heap.size) := hide hB
  clear hB bA
  go_loopw [4] (fun _ wr => ∃ (n : Nat) (acc : List UInt8) (s' : St), Hid (RdAt wr R s' ∧ Bld B B acc wr ∧ Only R w wr ∧ chainM n acc s' = res ∧ s'.1.length < n ∧ acc.length + s'.1.length ≤ 100000000)) (fun _ wr => restLen wr R)
  case atStart => exact ⟨s.1.length + 1, [], s, hide ⟨HS.out.1, HS.out.2.1, HS.out.2.2, hres.symm, by omega, by simpa using hlen⟩⟩
  case round =>
    obtain ⟨n, acc, s', hh⟩ := hrel
    obtain ⟨hr, hb, ho, hc, hn, ha⟩ := hh.out
    cases n with
    | zero => omega
    | succ n =>
      have hRB : R < B := by rw [hBw.out]; exact hRl
      have hBs : B ≤ wr.heap.size := by rw [hBw.out]; exact ho.size
      have hrest := hr.rest
      have HBY := hide (byte_any wr R s' hr)
      have hc' : (if (byteM s').1 = 0 then (if (insideM (byteM s').2).1 = true then chainM n (acc ++ [0]) (insideM (byteM s').2).2 else (acc, (insideM (byteM s').2).2)) else chainM n (acc ++ [(byteM s').1]) (byteM s').2) = res := hc
      clear hc hh
      have hlb := byteM_len s'
      have KW : ∀ w1 (y : UInt8), Hid (Bld B B acc w1 → B ≤ w1.heap.size → Calls Tryd.prog 67 #[.pointer (some ⟨B, 0, none⟩), .int .u8 (y.toNat : Int)] w1 fun e w' => e = .returned .nilIface ∧ Bld B B (acc ++ [y]) w' ∧ Below B w1 w') := fun w1 y h1 h2 => writeB_any B B acc y w1 h1 (by omega) h2
      by_cases c0 : (byteM s').1 = 0
      · rw [if_pos c0] at hc'
        rw [c0] at HBY
        have z : ((0 : UInt8).toNat : Int) = 0 := rfl
        rw [z] at HBY
        have KI : ∀ w1, Hid (RdAt w1 R (byteM s').2 → Calls Tryd.prog 65 #[.pointer (some ⟨R, 0, none⟩)] w1 fun e w' => e = .returned (.bool (insideM (byteM s').2).1) ∧ RdAt w' R (insideM (byteM s').2).2 ∧ Only R w1 w') := fun w1 h1 => inside_any w1 R _ h1
        have hmore := @inside_more s'
        obtain ⟨bb, hbb⟩ : ∃ bb, bb = (insideM (byteM s').2).1 := ⟨_, rfl⟩
        rw [← hbb] at KI hc' hmore
        generalize (insideM (byteM s').2).2 = s2 at *
        generalize (byteM s').2 = s1 at *
        clear c0 hbb
        cases bb with
        | true =>
          rw [if_pos rfl] at hc'
          have hm2 := hmore rfl
          have KW0 := fun w1 => KW w1 0
          rw [z] at KW0
          have HX : Hid (∀ w1 w2 w3, Only R wr w1 → Only R w1 w2 → RdAt w2 R s2 → Bld B B (acc ++ [0]) w3 → Below B w2 w3 → (∃ (n : Nat) (acc : List UInt8) (s' : St), Hid (RdAt w3 R s' ∧ Bld B B acc w3 ∧ Only R w w3 ∧ chainM n acc s' = res ∧ s'.1.length < n ∧ acc.length + s'.1.length ≤ 100000000)) ∧ restLen w3 R < restLen wr R) := hide fun w1 w2 w3 o1 o2 r2 b3 l3 => by
            have r3 := r2.under hRB l3
            refine ⟨⟨n, acc ++ [0], s2, hide ⟨r3, b3, ((ho.trans o1).trans o2).under hBw.out l3, hc', by omega, by simp only [List.length_append, List.length_cons, List.length_nil]; omega⟩⟩, ?_⟩
            rw [r3.rest, hrest]
            omega
          have HB0 := hide hb
          clear hc' hm2 hmore hr hb ho KW hrest z
          go_wp2_with (first
            | (go_at_call 38; refine (unhide HBY).mono ?_; rintro e w1 ⟨rfl, r1, o1⟩)
            | (go_at_call 65; refine (unhide (KI _) r1).mono ?_; rintro e w2 ⟨rfl, r2, o2⟩)
            | (go_at_call 67; refine (unhide (KW0 _) ((HB0.out.only hRB o1).only hRB o2) (Nat.le_trans hBs (Nat.le_trans o1.size o2.size))).mono ?_; rintro e w3 ⟨rfl, b3, l3⟩))
          obtain ⟨x1, x2⟩ := HX.out _ _ _ o1 o2 r2 b3 l3
          go_roundw
          case rel => exact x1
          case measure => exact x2
        | false =>
          rw [if_neg (by decide)] at hc'
          have HS2 : ∀ w2, Hid (Bld B B acc w2 → B ≤ w2.heap.size → Calls Tryd.prog 66 #[.pointer (some ⟨B, 0, none⟩)] w2 fun e w' => e = .returned (.string ⟨acc.toArray⟩) ∧ Below B w2 w') := fun w2 h1 h2 => (Tryd.Builder_String_any_k B B acc w2 h1 h2).mono fun e w' ⟨e1, _, e2, _⟩ => ⟨e1, e2⟩
          have HX : Hid (∀ w1 w2 w3, Only R wr w1 → Only R w1 w2 → RdAt w2 R s2 → Below B w2 w3 → res.1 = acc ∧ RdAt w3 R res.2 ∧ Only R w w3) := hide fun w1 w2 w3 o1 o2 r2 l3 => by
            rw [← hc']
            exact ⟨rfl, r2.under hRB l3, ((ho.trans o1).trans o2).under hBw.out l3⟩
          have HB0 := hide hb
          clear hc' hmore hr hb ho KW hrest z
          go_wp2_with (first
            | (go_at_call 38; refine (unhide HBY).mono ?_; rintro e w1 ⟨rfl, r1, o1⟩)
            | (go_at_call 65; refine (unhide (KI _) r1).mono ?_; rintro e w2 ⟨rfl, r2, o2⟩)
            | (go_at_call 66; refine (unhide (HS2 _) ((HB0.out.only hRB o1).only hRB o2) (Nat.le_trans hBs (Nat.le_trans o1.size o2.size))).mono ?_; rintro e w3 ⟨rfl, l3⟩))
          obtain ⟨x1, x2, x3⟩ := HX.out _ _ _ o1 o2 r2 l3
          go_ret
          exact ⟨by rw [x1]; rfl, x2, x3⟩
      · rw [if_neg c0] at hc'
        have hmore := byteM_more c0
        obtain ⟨y, hy⟩ : ∃ y, y = (byteM s').1 := ⟨_, rfl⟩
        rw [← hy] at HBY hc'
        have t1 : ((y.toNat : Int) == 0) = false := beq_eq_false_iff_ne.2 (fun h => c0 (by rw [← hy]; exact (u8_test (d := 0) (by omega)).2 h))
        have KW0 := fun w1 => KW w1 y
        generalize (byteM s').2 = s1 at *
        have HX : Hid (∀ w1 w3, Only R wr w1 → RdAt w1 R s1 → Bld B B (acc ++ [y]) w3 → Below B w1 w3 → (∃ (n : Nat) (acc : List UInt8) (s' : St), Hid (RdAt w3 R s' ∧ Bld B B acc w3 ∧ Only R w w3 ∧ chainM n acc s' = res ∧ s'.1.length < n ∧ acc.length + s'.1.length ≤ 100000000)) ∧ restLen w3 R < restLen wr R) := hide fun w1 w3 o1 r1 b3 l3 => by
          have r3 := r1.under hRB l3
          refine ⟨⟨n, acc ++ [y], s1, hide ⟨r3, b3, (ho.trans o1).under hBw.out l3, hc', by omega, by simp only [List.length_append, List.length_cons, List.length_nil]; omega⟩⟩, ?_⟩
          rw [r3.rest, hrest]
          omega
        have HB0 := hide hb
        generalize (y.toNat : Int) = zy at *
        clear hc' hmore hr hb ho KW hrest hy c0
        go_wp2_with (first
          | (go_at_call 38; refine (unhide HBY).mono ?_; rintro e w1 ⟨rfl, r1, o1⟩)
          | (go_at_call 67; refine (unhide (KW0 _) (HB0.out.only hRB o1) (Nat.le_trans hBs o1.size)).mono ?_; rintro e w3 ⟨rfl, b3, l3⟩))
        obtain ⟨x1, x2⟩ := HX.out _ _ o1 r1 b3 l3
        go_roundw
        case rel => exact x1
        case measure => exact x2
end Go.Proofs.YtdpoiagnjdajbaaDoor.valus
