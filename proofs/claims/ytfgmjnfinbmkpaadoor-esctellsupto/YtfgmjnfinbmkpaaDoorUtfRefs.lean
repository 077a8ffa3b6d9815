/- The walks of the document's BadPlace, Scalars. -/
import Derived.Test.YtfgmjnfinbmkpaaDoorUtfCodes
import Derived.Test.YtfgmjnfinbmkpaaDoorUtfRunes
set_option linter.unusedVariables false
namespace Go.Proofs.YtfgmjnfinbmkpaaDoor.utfs
open Go.RowKit

theorem width_le {l : List UInt8} (h : l ≠ []) : (Lib.decodeL l).2 ≤ l.length := by
  rcases read_one l h with ⟨e, _⟩ | ⟨r, rest, hs, hl, e⟩
  · rw [e]
    cases l with
    | nil => exact absurd rfl h
    | cons a b => simp
  · rw [e, hl, List.length_append]; simp only; omega
theorem nextN_pos {l : List UInt8} (h : l ≠ []) : nextN l = (Lib.decodeL l).2 := by simp [nextN, h]
theorem drop_ne (s : ByteArray) (pos : Nat) (hp : pos < s.size) : s.data.toList.drop pos ≠ [] := by
  intro e
  have := congrArg List.length e
  rw [List.length_drop, len_list] at this
  simp only [List.length_nil] at this
  omega

set_option maxHeartbeats 2000000 in
set_option maxRecDepth 100000 in
theorem badPlace_any (s : ByteArray) (w : World) (hs : s.size ≤ 140737488355328) :
    Calls Tryd.prog 9 #[.string s] w fun e w' => e = .returned (.int .i64 (bad s.data.toList)) ∧ Below w.heap.size w w' := by
  go_enter Tryd.func9, Tryd.ntmps9
  go_wp2
  go_loopw [3] (fun i wr => ∃ (pos fuel : Nat), i = .int .i64 pos ∧ pos ≤ s.size ∧ Below w.heap.size w wr ∧ Hid (badF fuel pos (s.data.toList.drop pos) = bad s.data.toList) ∧ s.size ≤ pos + fuel) (fun i _ => s.size - (intOf i).toNat)
  case atStart => exact ⟨0, s.size, rfl, Nat.zero_le _, Below.refl _ _, rfl, by omega⟩
  case round =>
    obtain ⟨pos, fuel, rfl, hle, hbw, hacc, hfu⟩ := hrel
    by_cases hp : pos < s.size
    · have hl := drop_ne s pos hp
      have hwl := width_le hl
      rw [List.length_drop, len_list] at hwl
      have hwd := width_ge (s.data.toList.drop pos)
      obtain ⟨f, rfl⟩ : ∃ f, fuel = f + 1 := ⟨fuel - 1, by omega⟩
      have hc := code_any (s.extract pos s.size) wr (by rw [ByteArray.size_extract]; omega)
      rw [ext_drop, nextN_pos hl] at hc
      have hneg := nextR_neg hl
      have hstep : badF (f + 1) pos (s.data.toList.drop pos) = if badB (s.data.toList.drop pos) = true then (pos : Int) else badF f (pos + (Lib.decodeL (s.data.toList.drop pos)).2) (s.data.toList.drop (pos + (Lib.decodeL (s.data.toList.drop pos)).2)) := by
        simp only [badF]
        rw [if_neg hl, List.drop_drop]
      have h2 := hacc.out
      rw [hstep] at h2
      have HA := hide h2
      have HC := hide hc
      clear hc h2 hstep hacc
      generalize nextR (s.data.toList.drop pos) = r at *
      generalize (Lib.decodeL (s.data.toList.drop pos)).2 = n at *
      cases hbb : badB (s.data.toList.drop pos) with
      | true =>
        rw [hbb] at HA hneg
        rw [if_pos rfl] at HA
        have hr : r < 0 := hneg.2 rfl
        clear hbb hneg
        go_wp2_with fail
        refine (unhide HC).mono ?_
        rintro e w1 ⟨rfl, b1⟩
        go_wp2_with fail
        go_ret
        rw [← HA.out]
        exact ⟨rfl, hbw.trans (b1.mono hbw.size)⟩
      | false =>
        rw [hbb] at HA hneg
        rw [if_neg (by simp)] at HA
        have hr : ¬ r < 0 := fun h => by have := hneg.1 h; cases this
        clear hbb hneg
        go_wp2_with fail
        refine (unhide HC).mono ?_
        rintro e w1 ⟨rfl, b1⟩
        go_wp2_with fail
        go_roundw
        case rel => exact ⟨pos + n, f, by go_num, by omega, hbw.trans (b1.mono hbw.size), HA, by omega⟩
        case measure => simp [intOf]; omega
    · have hl : s.data.toList.drop pos = [] := List.drop_of_length_le (by rw [len_list]; omega)
      have h2 := hacc.out
      rw [hl, badF_nil] at h2
      have HA := hide h2
      clear h2 hl hacc
      go_wp2
      go_ret
      rw [← HA.out]
      exact ⟨rfl, hbw⟩

theorem next_enc {r : Int} (hs : sc r = true) (rest : List UInt8) : nextR (Lib.encodeRune r ++ rest) = r ∧ nextN (Lib.encodeRune r ++ rest) = (Lib.encodeRune r).length := by
  have h := sc_true hs
  refine next_good (enc_ne r rest) (dec_enc hs rest) h.1 (fun h1 => ?_)
  rcases code_forms hs with ⟨a, e⟩ | ⟨a, b, e⟩ | ⟨a, b, e⟩ | ⟨a, e⟩
  · omega
  · rw [e] at h1; simp at h1
  · rw [e] at h1; simp at h1
  · rw [e] at h1; simp at h1

/-- the length of a string's value -/
def strLen : Value → Nat
  | .string s => s.size
  | _ => 0
theorem ownR_below {w w' : World} {base : Nat} {e : TypeId} {v : Value} {n : Nat} {xs : List Value} (h : w.ownsRow base e 1 v n xs) (hb : Below w.heap.size w w') : w'.ownsRow base e 1 v n xs := by
  refine ⟨h.1, ?_⟩
  rcases h.2 with h2 | ⟨g, cap, cur, e1, e2, hg, e3⟩
  · exact .inl h2
  · exact .inr ⟨g, cap, cur, e1, e2, by rw [hb.block g (Array.getElem?_eq_some_iff.1 hg).1]; exact hg, e3⟩

set_option maxHeartbeats 2000000 in
set_option maxRecDepth 100000 in
theorem scalars_any (s : ByteArray) (rs : List Int) (w : World) (hs : s.size ≤ 1073741824) (hl : s.data.toList = enc rs) (hsc : ∀ r ∈ rs, sc r = true) :
    Calls Tryd.prog 23 #[.string s] w fun e w' => ∃ a cap, e = .returned (.slice a rs.length cap) ∧ Elems w' a rs ∧ rs.length ≤ cap ∧ Below w.heap.size w w' := by
  obtain ⟨i0, hi, hz0, hz1, hz2⟩ := info_parts info21
  have HSC := hide hsc
  have HL := hide hl
  clear hsc hl
  go_enter Tryd.func23, Tryd.ntmps23
  go_wp2
  go_loopw [0, 3] (fun sv v wr => ∃ (t : ByteArray) (acc rest : List Int), sv = .string t ∧ Hid (t.data.toList = enc rest) ∧ Hid (acc ++ rest = rs) ∧ wr.ownsRow w.heap.size 21 1 v acc.length (acc.map (Value.int .i32)) ∧ Below w.heap.size w wr ∧ acc.length + t.size ≤ s.size) (fun sv _ _ => strLen sv)
  case atStart =>
    exact ⟨s, [], rs, rfl, HL, rfl, World.ownsRow_nil _ _ _ _, Below.refl _ _, by simp⟩
  case round =>
    obtain ⟨t, acc, rest, rfl, ht, hacc, hown, hbw, hal⟩ := hrel
    by_cases hp : 0 < t.size
    · cases rest with
      | nil =>
        have h1 := congrArg List.length ht.out
        rw [len_list] at h1
        simp only [enc_nil, List.length_nil] at h1
        omega
      | cons r rest =>
        have hr : sc r = true := HSC.out r (by rw [← hacc.out]; simp)
        have hrb := sc_true hr
        have ht' := ht.out
        rw [enc_cons] at ht'
        have h4 := encodeRune_length r
        have hlen : (Lib.encodeRune r).length + (enc rest).length = t.size := by rw [← len_list, ht', List.length_append]
        have hc := code_any t wr (by omega)
        rw [ht', (next_enc hr _).1, (next_enc hr _).2] at hc
        have htd : Hid ((t.extract (Lib.encodeRune r).length t.size).data.toList = enc rest) := by
          show (t.extract (Lib.encodeRune r).length t.size).data.toList = enc rest
          rw [ext_drop, ht', drop_enc]
        have hts : (t.extract (Lib.encodeRune r).length t.size).size = t.size - (Lib.encodeRune r).length := by rw [ByteArray.size_extract]; omega
        have HTS := hide hts
        have HC := hide hc
        have hacc' : Hid ((acc ++ [r]) ++ rest = rs) := by show (acc ++ [r]) ++ rest = rs; rw [← hacc.out]; simp
        clear hc hts ht' ht hacc
        generalize (Lib.encodeRune r).length = n at *
        go_wp2_with fail
        refine (unhide HC).mono ?_
        rintro e w1 ⟨rfl, b1⟩
        have hown1 := ownR_below hown b1
        have hbw1 := hbw.trans (b1.mono hbw.size)
        go_wp2_with (at_builtin; refine wpList_append_own _ rfl _ _ 43 rfl w.heap.size 21 i0 (.int .i32 0) 1 4 Tryd.underlying43 hi hz0 hz1 hz2 rfl (by decide) _ _ _ rfl (hown1.alloc _) ⟨w1.heap.size, 0, none⟩ 1 1 [.int .i32 r] rfl rfl ?c1 ?c2 ?c3 ?c4 ?c5 ?_)
        case c1 =>
          intro j u hj
          match j, hj with
          | 0, hj => simp at hj; subst hj; simp [Addr.add]
        case c2 => intro u hu; simp at hu; subst hu; rfl
        case c3 => unfold maxLen; omega
        case c4 => omega
        case c5 => have := hbw1.size; simp; omega
        intro v' w2 hown' hgrow _
        have hge := ownR_ge hown1
        have hbw3 : Below w.heap.size w w2 := (hbw1.alloc hbw1.size _).grown hgrow (by have := hbw1.size; simp; omega) (fun k hk => hge k hk)
        clear hgrow hge hown hown1
        go_wp2
        go_roundw
        case rel =>
          refine ⟨_, acc ++ [r], rest, rfl, htd, hacc', ?_, hbw3, ?_⟩
          · simpa using hown'
          · rw [HTS.out]; simp; omega
        case measure =>
          simp only [strLen]
          rw [HTS.out]; omega
    · have hr : rest = [] := by
        cases rest with
        | nil => rfl
        | cons r rest =>
          have h1 := congrArg List.length ht.out
          rw [len_list, enc_cons, List.length_append] at h1
          have := encodeRune_length r
          omega
      have h2 := hacc.out
      rw [hr, List.append_nil] at h2
      rw [h2] at hown
      obtain ⟨a, cap, rfl, hE, hcap⟩ := elems_own hown
      clear h2 hr hacc ht hown
      go_wp2
      go_ret
      exact ⟨a, cap, rfl, hE, hcap, hbw⟩
end Go.Proofs.YtfgmjnfinbmkpaaDoor.utfs
