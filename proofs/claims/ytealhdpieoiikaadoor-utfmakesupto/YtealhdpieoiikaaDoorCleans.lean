/- The walk of the document's Cleaned. -/
import Derived.Test.YtealhdpieoiikaaDoorRefs
set_option linter.unusedVariables false
namespace Go.Proofs.YtealhdpieoiikaaDoor.walks
open Go.RowKit
open plain

theorem app_list (a b : ByteArray) : (a ++ b).data.toList = a.data.toList ++ b.data.toList := by rw [ByteArray.data_append, Array.toList_append]

set_option maxHeartbeats 2000000 in
set_option maxRecDepth 100000 in
theorem cleaned_any (s : ByteArray) (w : World) (hs : s.size ≤ 1073741824) :
    Calls Tryd.prog 21 #[.string s] w fun e w' => e = .returned (.string ⟨(enc (runes s.data.toList)).toArray⟩) ∧ Below w.heap.size w w' := by
  go_enter Tryd.func21, Tryd.ntmps21
  go_wp2
  go_loopw [0, 3] (fun sv v wr => ∃ (t o : ByteArray) (acc : List Int) (fuel : Nat), sv = .string t ∧ v = .string o ∧ Hid (o.data.toList = enc acc) ∧ Hid (acc ++ decF fuel t.data.toList = runes s.data.toList) ∧ Below w.heap.size w wr ∧ t.size ≤ fuel ∧ o.size + 4 * t.size ≤ 4 * s.size ∧ t.size ≤ s.size) (fun sv _ _ => strLen sv)
  case atStart =>
    refine ⟨s, ⟨#[]⟩, [], s.size, rfl, rfl, rfl, ?_, Below.refl _ _, Nat.le_refl _, by show 0 + 4 * s.size ≤ 4 * s.size; omega, Nat.le_refl _⟩
    show [] ++ decF s.size s.data.toList = runes s.data.toList
    rw [List.nil_append, ← len_list]; rfl
  case round =>
    obtain ⟨t, o, acc, fuel, rfl, rfl, ho, hacc, hbw, hfu, hal, hts⟩ := hrel
    by_cases hp : 0 < t.size
    · have hl := list_ne t hp
      have hwl := width_le hl
      rw [len_list] at hwl
      have hwd := width_ge t.data.toList
      obtain ⟨f, rfl⟩ : ∃ f, fuel = f + 1 := ⟨fuel - 1, by omega⟩
      have hc := code_any t wr (by omega)
      rw [nextN_pos hl] at hc
      have hneg := nextR_neg hl
      have hstep : decF (f + 1) t.data.toList = ((Lib.decodeL t.data.toList).1 : Int) :: decF f (t.data.toList.drop (Lib.decodeL t.data.toList).2) := by
        simp only [decF]
        rw [if_neg hl]
      have h2 := hacc.out
      rw [hstep, ← ext_drop] at h2
      have hx : (t.extract (Lib.decodeL t.data.toList).2 t.size).size = t.size - (Lib.decodeL t.data.toList).2 := by rw [ByteArray.size_extract]; omega
      have hrd := read_one t.data.toList hl
      cases hbb : badB t.data.toList with
      | true =>
        obtain ⟨e1, _⟩ := badB_true hl hbb
        rw [e1] at h2 hc hwl hwd hx
        have hr : nextR t.data.toList < 0 := hneg.2 hbb
        have HA := hide h2
        have HC := hide hc
        have HX := hide hx
        have hk : Calls Tryd.prog 12 #[.int .i64 65533] wr fun e w' => e = .returned (.string ⟨(Lib.encodeRune 65533).toArray⟩) ∧ Below wr.heap.size wr w' := codeOf_any 65533 wr rfl
        have hz : (⟨(Lib.encodeRune 65533).toArray⟩ : ByteArray).size = 3 := by decide
        clear h2 hc hneg hstep hacc hrd e1 hbb hk hx
        generalize nextR t.data.toList = r at *
        go_wp2_with fail
        refine (unhide HC).mono ?_
        rintro e w1 ⟨rfl, b1⟩
        have hbw1 := hbw.trans (b1.mono hbw.size)
        go_wp2_with fail
        refine (codeOf_any 65533 w1 rfl).mono ?_
        rintro e w2 ⟨rfl, b2⟩
        have hbw2 := hbw1.trans (b2.mono hbw1.size)
        have hap : Hid ((o ++ (⟨(Lib.encodeRune 65533).toArray⟩ : ByteArray)).data.toList = enc (acc ++ [65533])) := by
          show (o ++ (⟨(Lib.encodeRune 65533).toArray⟩ : ByteArray)).data.toList = _
          rw [app_list, ho.out, enc_append, enc_one]
        have hsz : Hid ((o ++ (⟨(Lib.encodeRune 65533).toArray⟩ : ByteArray)).size = o.size + 3) := by
          show (o ++ (⟨(Lib.encodeRune 65533).toArray⟩ : ByteArray)).size = o.size + 3
          rw [ByteArray.size_append, hz]
        generalize (⟨(Lib.encodeRune 65533).toArray⟩ : ByteArray) = q at *
        have hq : q.size ≤ 3 := by omega
        clear hz
        go_wp2_with fail
        go_roundw
        case rel =>
          refine ⟨_, _, acc ++ [65533], f, rfl, rfl, hap, ?_, hbw2, ?_, ?_, ?_⟩
          · show (acc ++ [65533]) ++ _ = _
            rw [← HA.out]; simp
          · rw [HX.out]; omega
          · rw [HX.out, hsz.out]; omega
          · rw [HX.out]; omega
        case measure =>
          simp only [strLen]
          rw [HX.out]; omega
      | false =>
        obtain ⟨c, rest, hsc, hle, e1⟩ := badB_false hl hbb
        have hcb := sc_true hsc
        rw [e1] at h2 hc hwl hwd hx
        simp only at h2 hc hwl hwd hx
        rw [show ((c.toNat : Nat) : Int) = c by omega] at h2
        have hr : ¬ nextR t.data.toList < 0 := fun h => by have := hneg.1 h; rw [hbb] at this; cases this
        have h4 := encodeRune_length c
        have htk : (t.extract 0 (Lib.encodeRune c).length).data.toList = Lib.encodeRune c := by rw [ext_take, hle]; simp
        have hap : Hid ((o ++ t.extract 0 (Lib.encodeRune c).length).data.toList = enc (acc ++ [c])) := by
          show (o ++ t.extract 0 (Lib.encodeRune c).length).data.toList = _
          rw [app_list, ho.out, enc_append, enc_one, htk]
        have hq : (t.extract 0 (Lib.encodeRune c).length).size = (Lib.encodeRune c).length := by rw [← len_list, htk]
        have hsz : Hid ((o ++ t.extract 0 (Lib.encodeRune c).length).size = o.size + (Lib.encodeRune c).length) := by
          show (o ++ t.extract 0 (Lib.encodeRune c).length).size = _
          rw [ByteArray.size_append, hq]
        have hq' : (t.extract 0 (Lib.encodeRune c).length).size ≤ 4 := by omega
        have HA := hide h2
        have HC := hide hc
        have HX := hide hx
        clear h2 hc hneg hstep hacc hrd e1 hbb hx hle htk hq
        generalize nextR t.data.toList = r at *
        generalize (Lib.encodeRune c).length = n at *
        go_wp2_with fail
        refine (unhide HC).mono ?_
        rintro e w1 ⟨rfl, b1⟩
        have hbw1 := hbw.trans (b1.mono hbw.size)
        go_wp2_with fail
        go_roundw
        case rel =>
          refine ⟨_, _, acc ++ [c], f, rfl, rfl, hap, ?_, hbw1, ?_, ?_, ?_⟩
          · show (acc ++ [c]) ++ _ = _
            rw [← HA.out]; simp
          · rw [HX.out]; omega
          · rw [HX.out, hsz.out]; omega
          · rw [HX.out]; omega
        case measure =>
          simp only [strLen]
          rw [HX.out]; omega
    · have hl : t.data.toList = [] := List.eq_nil_of_length_eq_zero (by rw [len_list]; omega)
      have h2 := hacc.out
      rw [hl, decF_nil, List.append_nil] at h2
      have hfin : o = ⟨(enc (runes s.data.toList)).toArray⟩ := by
        apply ByteArray.ext
        apply Array.toList_inj.1
        rw [ho.out, h2]
      have HF := hide hfin
      clear h2 hl hacc hfin
      go_wp2
      go_ret
      rw [← HF.out]
      exact ⟨rfl, hbw⟩
end Go.Proofs.YtealhdpieoiikaaDoor.walks
