/- The walks of package splice: take. -/
import Derived.Test.YteajpkoghlbneaaSplRdW
set_option linter.unusedVariables false
namespace Go.Proofs.Yteajpkoghlbneaa.spls
open Go.RowKit

set_option maxHeartbeats 4000000 in
set_option maxRecDepth 100000 in
theorem takeN_part (X : Nat → Prop) (R : Nat) (k : Int) (m n : Nat) (A : List Pt) (w : World) (h : Rd X R ((k, (m : Int), []) :: A) w) (hk : k ≠ 3) (hn : n < m) (hm : m ≤ 20000) (hl : A.length ≤ 1000000) :
    Calls Try.prog 23 #[.pointer (some ⟨R, 0, none⟩), .int .i64 (n : Int)] w fun e w' => e = .returned (.tuple #[]) ∧ Rd X R ((k, ((m - n : Nat) : Int), []) :: A) w' ∧ Chg X w w' := by
  obtain ⟨hR, p, c, hb, h1, h2, h3⟩ := h
  obtain ⟨g, o, cur, rfl, hg, hne, hbg, hcur⟩ := h3 (by simp)
  obtain ⟨y0, y1, y2⟩ := hcur 0 _ rfl
  rw [Nat.zero_mul, Nat.add_zero] at y0 y1 y2
  have hi1 : o + 1 < cur.size := (Array.getElem?_eq_some_iff.1 y1).1
  have hF := rd_head (y := (k, ((m - n : Nat) : Int), [])) 1 (.int .i64 ((m : Int) - (n : Int))) hR hb h1 h2 hg hne hbg hcur (by omega) ⟨by rw [Array.getElem?_setIfInBounds_ne (by omega)]; exact y0, by rw [Array.getElem?_setIfInBounds_self_of_lt hi1]; congr 2; show _ = ((m - n : Nat) : Int); omega, by rw [Array.getElem?_setIfInBounds_ne (by omega)]; exact y2⟩
  have c0 : w.cell? ⟨R, 0, none⟩ = some (.slice (some ⟨g, o, none⟩) (A.length + 1) c) := hb.cell 0 _ rfl
  have z0 : w.cell? ⟨g, o, none⟩ = some (.int .i64 k) := hbg.cell _ _ y0
  have z1 : w.cell? ⟨g, o + 1, none⟩ = some (.int .i64 (m : Int)) := hbg.cell _ _ y1
  have z2 : w.cell? ⟨g, o + 2, none⟩ = some (.string ⟨#[]⟩) := hbg.cell _ _ y2
  have f1 := hbg.froz (o + 1)
  have hb' := hbg.set (o + 1) (.int .i64 ((m : Int) - (n : Int)))
  have x0 : (w.setCell ⟨g, o + 1, none⟩ (.int .i64 ((m : Int) - (n : Int)))).cell? ⟨g, o, none⟩ = some (.int .i64 k) := hb'.cell _ _ (by rw [Array.getElem?_setIfInBounds_ne (by omega)]; exact y0)
  have x1 : (w.setCell ⟨g, o + 1, none⟩ (.int .i64 ((m : Int) - (n : Int)))).cell? ⟨g, o + 1, none⟩ = some (.int .i64 ((m : Int) - (n : Int))) := hb'.cell _ _ (by rw [Array.getElem?_setIfInBounds_self_of_lt hi1])
  have x2 : (w.setCell ⟨g, o + 1, none⟩ (.int .i64 ((m : Int) - (n : Int)))).cell? ⟨g, o + 2, none⟩ = some (.string ⟨#[]⟩) := hb'.cell _ _ (by rw [Array.getElem?_setIfInBounds_ne (by omega)]; exact y2)
  have K := hide (size_any (w.setCell ⟨g, o + 1, none⟩ (.int .i64 ((m : Int) - (n : Int)))) k ((m : Int) - (n : Int)) ⟨#[]⟩ (by decide) ⟨by omega, by omega⟩)
  have i1 : ((((⟨#[]⟩ : ByteArray).size : Nat) : Int) + ((m : Int) - (n : Int))) = ((m : Int) - (n : Int)) := by show (0 : Int) + _ = _; omega
  rw [i1] at K
  have HF := hide hF
  have hk1 : (k == 3) = false := beq_false_of_ne hk
  have i2 : (((m : Int) - (n : Int)) == 0) = false := beq_false_of_ne (by omega)
  have i3 : ¬ (((m : Int) - (n : Int)) = 0) := by omega
  have hcm : c ≤ 9223372036854775807 := by unfold maxLen at h2; omega
  have hca : A.length + 1 ≤ c := h1
  have H2 := hide h2
  clear hb h1 h2 h3 hbg hcur y0 y1 y2 hF hb' i1
  generalize hW : (w.setCell ⟨g, o + 1, none⟩ (.int .i64 ((m : Int) - (n : Int)))) = w1 at *
  generalize A.length = la at *
  go_enter Try.func23, Try.ntmps23
  go_wp2_with fail
  refine (unhide K).mono ?_
  rintro e w2 ⟨rfl, hw2⟩
  have HE : Hid (Rd X R ((k, ((m - n : Nat) : Int), []) :: A) w2 ∧ Chg X w w2) := hide (by rw [hw2]; exact ⟨HF.out.1.alloc _, HF.out.2.alloc _⟩)
  clear hw2 K
  go_wp2
  go_end0
  exact ⟨rfl, HE.out⟩
set_option maxHeartbeats 4000000 in
set_option maxRecDepth 100000 in
theorem takeT_part (X : Nat → Prop) (R : Nat) (s : List UInt8) (n : Nat) (A : List Pt) (w : World) (h : Rd X R (((3 : Int), (0 : Int), s) :: A) w) (hn : n < s.length) (hm : s.length ≤ 20000) (hl : A.length ≤ 1000000) :
    Calls Try.prog 23 #[.pointer (some ⟨R, 0, none⟩), .int .i64 (n : Int)] w fun e w' => e = .returned (.tuple #[]) ∧ Rd X R (((3 : Int), (0 : Int), s.drop n) :: A) w' ∧ Chg X w w' := by
  obtain ⟨hR, p, c, hb, h1, h2, h3⟩ := h
  obtain ⟨g, o, cur, rfl, hg, hne, hbg, hcur⟩ := h3 (by simp)
  obtain ⟨y0, y1, y2⟩ := hcur 0 _ rfl
  rw [Nat.zero_mul, Nat.add_zero] at y0 y1 y2
  obtain ⟨S, hS⟩ : ∃ S : ByteArray, S = ⟨s.toArray⟩ := ⟨_, rfl⟩
  have hSl : S.data.toList = s := by rw [hS]
  have hSz : S.size = s.length := by rw [hS, size_mk]
  obtain ⟨T, hT⟩ : ∃ T : ByteArray, T = S.extract n S.size := ⟨_, rfl⟩
  have hTl : T.data.toList = s.drop n := by rw [hT, ext_drop, hSl]
  have hTz : T.size = s.length - n := by rw [← len_list, hTl, List.length_drop]
  have hTm : T = ⟨(s.drop n).toArray⟩ := by rw [← hTl, mk_list]
  rw [show (⟨(((3 : Int), (0 : Int), s) : Pt).2.2.toArray⟩ : ByteArray) = S from hS.symm] at y2
  have hi1 : o + 2 < cur.size := (Array.getElem?_eq_some_iff.1 y2).1
  have hF := rd_head (y := ((3 : Int), (0 : Int), s.drop n)) 2 (.string T) hR hb h1 h2 hg hne hbg hcur (by omega) ⟨by rw [Array.getElem?_setIfInBounds_ne (by omega)]; exact y0, by rw [Array.getElem?_setIfInBounds_ne (by omega)]; exact y1, by rw [Array.getElem?_setIfInBounds_self_of_lt hi1]; rw [hTm]⟩
  have c0 : w.cell? ⟨R, 0, none⟩ = some (.slice (some ⟨g, o, none⟩) (A.length + 1) c) := hb.cell 0 _ rfl
  have z0 : w.cell? ⟨g, o, none⟩ = some (.int .i64 3) := hbg.cell _ _ y0
  have z1 : w.cell? ⟨g, o + 1, none⟩ = some (.int .i64 0) := hbg.cell _ _ y1
  have z2 : w.cell? ⟨g, o + 2, none⟩ = some (.string S) := hbg.cell _ _ y2
  have f1 := hbg.froz (o + 2)
  have hb' := hbg.set (o + 2) (.string T)
  have x0 : (w.setCell ⟨g, o + 2, none⟩ (.string T)).cell? ⟨g, o, none⟩ = some (.int .i64 3) := hb'.cell _ _ (by rw [Array.getElem?_setIfInBounds_ne (by omega)]; exact y0)
  have x1 : (w.setCell ⟨g, o + 2, none⟩ (.string T)).cell? ⟨g, o + 1, none⟩ = some (.int .i64 0) := hb'.cell _ _ (by rw [Array.getElem?_setIfInBounds_ne (by omega)]; exact y1)
  have x2 : (w.setCell ⟨g, o + 2, none⟩ (.string T)).cell? ⟨g, o + 2, none⟩ = some (.string T) := hb'.cell _ _ (by rw [Array.getElem?_setIfInBounds_self_of_lt hi1])
  have K := hide (size_any (w.setCell ⟨g, o + 2, none⟩ (.string T)) 3 0 T (by omega) ⟨by omega, by omega⟩)
  have i1 : (((T.size : Nat) : Int) + 0) = (T.size : Int) := by omega
  rw [i1] at K
  have HF := hide hF
  have i2 : ((T.size : Int) == 0) = false := beq_false_of_ne (by omega)
  have i3 : ¬ ((T.size : Int) = 0) := by omega
  have j1 : (n : Int) ≤ (S.size : Int) := by omega
  have HS := hide (And.intro hS (And.intro hTl (And.intro hTm (And.intro hSz hTz))))
  have hTe : S.extract n S.size = T := hT.symm
  have hcm : c ≤ 9223372036854775807 := by unfold maxLen at h2; omega
  have hca : A.length + 1 ≤ c := h1
  have H2 := hide h2
  clear hb h1 h2 h3 hbg hcur y0 y1 y2 hF hb' i1 hS hSl hT hTl hTm hSz
  generalize hW : (w.setCell ⟨g, o + 2, none⟩ (.string T)) = w1 at *
  generalize A.length = la at *
  go_enter Try.func23, Try.ntmps23
  go_wp2_with fail
  refine (unhide K).mono ?_
  rintro e w2 ⟨rfl, hw2⟩
  have HE : Hid (Rd X R (((3 : Int), (0 : Int), s.drop n) :: A) w2 ∧ Chg X w w2) := hide (by rw [hw2]; exact ⟨HF.out.1.alloc _, HF.out.2.alloc _⟩)
  clear hw2 K
  go_wp2
  go_end0
  exact ⟨rfl, HE.out⟩
set_option maxHeartbeats 4000000 in
set_option maxRecDepth 100000 in
theorem takeN_whole (X : Nat → Prop) (R : Nat) (k : Int) (m n : Nat) (A : List Pt) (w : World) (h : Rd X R ((k, (m : Int), []) :: A) w) (hk : k ≠ 3) (hn : n = m) (hm : m ≤ 20000) (hl : A.length ≤ 1000000) :
    Calls Try.prog 23 #[.pointer (some ⟨R, 0, none⟩), .int .i64 (n : Int)] w fun e w' => e = .returned (.tuple #[]) ∧ Rd X R A w' ∧ Chg X w w' := by
  subst hn
  obtain ⟨hR, p, c, hb, h1, h2, h3⟩ := h
  obtain ⟨g, o, cur, rfl, hg, hne, hbg, hcur⟩ := h3 (by simp)
  obtain ⟨y0, y1, y2⟩ := hcur 0 _ rfl
  rw [Nat.zero_mul, Nat.add_zero] at y0 y1 y2
  have hi1 : o + 1 < cur.size := (Array.getElem?_eq_some_iff.1 y1).1
  have hF := rd_head (y := (k, (0 : Int), [])) 1 (.int .i64 0) hR hb h1 h2 hg hne hbg hcur (by omega) ⟨by rw [Array.getElem?_setIfInBounds_ne (by omega)]; exact y0, by rw [Array.getElem?_setIfInBounds_self_of_lt hi1], by rw [Array.getElem?_setIfInBounds_ne (by omega)]; exact y2⟩
  have c0 : w.cell? ⟨R, 0, none⟩ = some (.slice (some ⟨g, o, none⟩) (A.length + 1) c) := hb.cell 0 _ rfl
  have z0 : w.cell? ⟨g, o, none⟩ = some (.int .i64 k) := hbg.cell _ _ y0
  have z1 : w.cell? ⟨g, o + 1, none⟩ = some (.int .i64 (n : Int)) := hbg.cell _ _ y1
  have z2 : w.cell? ⟨g, o + 2, none⟩ = some (.string ⟨#[]⟩) := hbg.cell _ _ y2
  have f1 := hbg.froz (o + 1)
  have hb' := hbg.set (o + 1) (.int .i64 0)
  have x0 : (w.setCell ⟨g, o + 1, none⟩ (.int .i64 0)).cell? ⟨g, o, none⟩ = some (.int .i64 k) := hb'.cell _ _ (by rw [Array.getElem?_setIfInBounds_ne (by omega)]; exact y0)
  have x1 : (w.setCell ⟨g, o + 1, none⟩ (.int .i64 0)).cell? ⟨g, o + 1, none⟩ = some (.int .i64 0) := hb'.cell _ _ (by rw [Array.getElem?_setIfInBounds_self_of_lt hi1])
  have x2 : (w.setCell ⟨g, o + 1, none⟩ (.int .i64 0)).cell? ⟨g, o + 2, none⟩ = some (.string ⟨#[]⟩) := hb'.cell _ _ (by rw [Array.getElem?_setIfInBounds_ne (by omega)]; exact y2)
  have K := hide (size_any (w.setCell ⟨g, o + 1, none⟩ (.int .i64 0)) k 0 ⟨#[]⟩ (by decide) ⟨by omega, by omega⟩)
  have i1 : ((((⟨#[]⟩ : ByteArray).size : Nat) : Int) + 0) = 0 := by show (0 : Int) + _ = _; omega
  rw [i1] at K
  have HF := hide hF
  have hk1 : (k == 3) = false := beq_false_of_ne hk
  have r0 : (w.setCell ⟨g, o + 1, none⟩ (.int .i64 0)).cell? ⟨R, 0, none⟩ = some (.slice (some ⟨g, o, none⟩) (A.length + 1) c) := (hb.set_other _ _ (fun e => hne e.symm)).cell 0 _ rfl
  have hbR : Blk (w.setCell ⟨g, o + 1, none⟩ (.int .i64 0)) R #[.slice (some ⟨g, o, none⟩) ((k, (0 : Int), []) :: A).length c] 50 := hb.set_other _ _ (fun e => hne e.symm)
  have HR := hide hbR
  have hcm : c ≤ 9223372036854775807 := by unfold maxLen at h2; omega
  have hca : A.length + 1 ≤ c := h1
  have H2 := hide h2
  clear hb h1 h2 h3 hbg hcur y0 y1 y2 hF hb' i1 hbR
  generalize hW : (w.setCell ⟨g, o + 1, none⟩ (.int .i64 0)) = w1 at *
  have hcA : Chg X w w1 ∧ Rd X R ((k, (0 : Int), []) :: A) w1 := ⟨HF.out.2, HF.out.1⟩
  have hal : Blk (w1.alloc (.cells #[.int .i64 k, .int .i64 0, .string ⟨#[]⟩] 46)) R #[.slice (some ⟨g, o, none⟩) ((k, (0 : Int), []) :: A).length c] 50 := HR.out.alloc _
  have HA := hide (And.intro (hcA.2.alloc (.cells #[.int .i64 k, .int .i64 0, .string ⟨#[]⟩] 46)) (And.intro hal (hcA.1.alloc (.cells #[.int .i64 k, .int .i64 0, .string ⟨#[]⟩] 46))))
  have s0 : (w1.alloc (.cells #[.int .i64 k, .int .i64 0, .string ⟨#[]⟩] 46)).cell? ⟨R, 0, none⟩ = some (.slice (some ⟨g, o, none⟩) (A.length + 1) c) := hal.cell 0 _ rfl
  have s1 := hal.froz 0
  clear hcA hal
  obtain ⟨la, hla⟩ : ∃ la, la = A.length := ⟨_, rfl⟩
  rw [← hla] at s0 c0 r0 hl hca
  have HLA := hide hla
  clear hla
  have q1 : (1 : Int) ≤ (la : Int) + 1 := by omega
  have q2 : ((la + 1 : Nat) : Int) ≤ (c : Int) := by omega
  have fin : ∀ q c', (A ≠ [] → q = some ⟨g, o + 3, none⟩) → la ≤ c' → c' ≤ c → ∀ W2, W2 = (w1.alloc (.cells #[.int .i64 k, .int .i64 0, .string ⟨#[]⟩] 46)) → Rd X R A (W2.setCell ⟨R, 0, none⟩ (.slice q la c')) ∧ Chg X w (W2.setCell ⟨R, 0, none⟩ (.slice q la c')) := fun q c' hq hc1 hc2 W2 hW2 => by
    obtain ⟨a1, a2, a3⟩ := HA.out
    rw [← hW2] at a1 a2 a3
    obtain ⟨t1, t2⟩ := rd_tail a1 a2 q hq c' (by rw [← HLA.out]; exact hc1) (Nat.le_trans hc2 H2.out)
    rw [← HLA.out] at t1 t2
    exact ⟨t1, a3.trans (t2.mono (fun b _ hb => .inl hb))⟩
  have FIN := hide fin
  clear fin
  by_cases hc1 : c = 1
  · subst hc1
    have hla0 : la = 0 := by omega
    subst hla0
    go_enter Try.func23, Try.ntmps23
    go_wp2_with fail
    refine (unhide K).mono ?_
    rintro e w2 ⟨rfl, hw2⟩
    rw [← hw2] at s0 s1
    have HE := hide hw2
    clear hw2 K HA
    go_wp2
    go_end0
    exact ⟨rfl, FIN.out _ _ (fun hA => absurd (List.eq_nil_of_length_eq_zero HLA.out.symm) hA) (by omega) (by omega) _ HE.out⟩
  · have hc2 : ¬ (c : Int) - 1 = 0 := by omega
    go_enter Try.func23, Try.ntmps23
    go_wp2_with fail
    refine (unhide K).mono ?_
    rintro e w2 ⟨rfl, hw2⟩
    rw [← hw2] at s0 s1
    have HE := hide hw2
    clear hw2 K HA
    go_wp2
    go_end0
    exact ⟨rfl, FIN.out _ _ (fun _ => rfl) (by omega) (by omega) _ HE.out⟩
set_option maxHeartbeats 4000000 in
set_option maxRecDepth 100000 in
theorem takeT_whole (X : Nat → Prop) (R : Nat) (s : List UInt8) (n : Nat) (A : List Pt) (w : World) (h : Rd X R (((3 : Int), (0 : Int), s) :: A) w) (hn : n = s.length) (hm : s.length ≤ 20000) (hl : A.length ≤ 1000000) :
    Calls Try.prog 23 #[.pointer (some ⟨R, 0, none⟩), .int .i64 (n : Int)] w fun e w' => e = .returned (.tuple #[]) ∧ Rd X R A w' ∧ Chg X w w' := by
  subst hn
  obtain ⟨hR, p, c, hb, h1, h2, h3⟩ := h
  obtain ⟨g, o, cur, rfl, hg, hne, hbg, hcur⟩ := h3 (by simp)
  obtain ⟨y0, y1, y2⟩ := hcur 0 _ rfl
  rw [Nat.zero_mul, Nat.add_zero] at y0 y1 y2
  obtain ⟨S, hS⟩ : ∃ S : ByteArray, S = ⟨s.toArray⟩ := ⟨_, rfl⟩
  have hSl : S.data.toList = s := by rw [hS]
  have hSz : S.size = s.length := by rw [hS, size_mk]
  obtain ⟨T, hT⟩ : ∃ T : ByteArray, T = S.extract s.length S.size := ⟨_, rfl⟩
  have hTl : T.data.toList = s.drop s.length := by rw [hT, ext_drop, hSl]
  have hTz : T.size = s.length - s.length := by rw [← len_list, hTl, List.length_drop]
  have hTm : T = ⟨(s.drop s.length).toArray⟩ := by rw [← hTl, mk_list]
  rw [show (⟨(((3 : Int), (0 : Int), s) : Pt).2.2.toArray⟩ : ByteArray) = S from hS.symm] at y2
  have hi1 : o + 2 < cur.size := (Array.getElem?_eq_some_iff.1 y2).1
  have hF := rd_head (y := ((3 : Int), (0 : Int), s.drop s.length)) 2 (.string T) hR hb h1 h2 hg hne hbg hcur (by omega) ⟨by rw [Array.getElem?_setIfInBounds_ne (by omega)]; exact y0, by rw [Array.getElem?_setIfInBounds_ne (by omega)]; exact y1, by rw [Array.getElem?_setIfInBounds_self_of_lt hi1]; rw [hTm]⟩
  have c0 : w.cell? ⟨R, 0, none⟩ = some (.slice (some ⟨g, o, none⟩) (A.length + 1) c) := hb.cell 0 _ rfl
  have z0 : w.cell? ⟨g, o, none⟩ = some (.int .i64 3) := hbg.cell _ _ y0
  have z1 : w.cell? ⟨g, o + 1, none⟩ = some (.int .i64 0) := hbg.cell _ _ y1
  have z2 : w.cell? ⟨g, o + 2, none⟩ = some (.string S) := hbg.cell _ _ y2
  have f1 := hbg.froz (o + 2)
  have hb' := hbg.set (o + 2) (.string T)
  have x0 : (w.setCell ⟨g, o + 2, none⟩ (.string T)).cell? ⟨g, o, none⟩ = some (.int .i64 3) := hb'.cell _ _ (by rw [Array.getElem?_setIfInBounds_ne (by omega)]; exact y0)
  have x1 : (w.setCell ⟨g, o + 2, none⟩ (.string T)).cell? ⟨g, o + 1, none⟩ = some (.int .i64 0) := hb'.cell _ _ (by rw [Array.getElem?_setIfInBounds_ne (by omega)]; exact y1)
  have x2 : (w.setCell ⟨g, o + 2, none⟩ (.string T)).cell? ⟨g, o + 2, none⟩ = some (.string T) := hb'.cell _ _ (by rw [Array.getElem?_setIfInBounds_self_of_lt hi1])
  have K := hide (size_any (w.setCell ⟨g, o + 2, none⟩ (.string T)) 3 0 T (by omega) ⟨by omega, by omega⟩)
  have i1 : (((T.size : Nat) : Int) + 0) = 0 := by omega
  rw [i1] at K
  have HF := hide hF
  have r0 : (w.setCell ⟨g, o + 2, none⟩ (.string T)).cell? ⟨R, 0, none⟩ = some (.slice (some ⟨g, o, none⟩) (A.length + 1) c) := (hb.set_other _ _ (fun e => hne e.symm)).cell 0 _ rfl
  have hbR : Blk (w.setCell ⟨g, o + 2, none⟩ (.string T)) R #[.slice (some ⟨g, o, none⟩) (((3 : Int), (0 : Int), s.drop s.length) :: A).length c] 50 := hb.set_other _ _ (fun e => hne e.symm)
  have HR := hide hbR
  have j1 : (s.length : Int) ≤ (S.size : Int) := by omega
  have HS := hide (And.intro hS (And.intro hTl (And.intro hTm (And.intro hSz hTz))))
  have hTe : S.extract s.length S.size = T := hT.symm
  have hcm : c ≤ 9223372036854775807 := by unfold maxLen at h2; omega
  have hca : A.length + 1 ≤ c := h1
  have H2 := hide h2
  clear hb h1 h2 h3 hbg hcur y0 y1 y2 hF hb' i1 hbR hS hSl hT hTl hTm hSz hTz
  generalize hW : (w.setCell ⟨g, o + 2, none⟩ (.string T)) = w1 at *
  have hcA : Chg X w w1 ∧ Rd X R (((3 : Int), (0 : Int), s.drop s.length) :: A) w1 := ⟨HF.out.2, HF.out.1⟩
  have hal : Blk (w1.alloc (.cells #[.int .i64 3, .int .i64 0, .string T] 46)) R #[.slice (some ⟨g, o, none⟩) (((3 : Int), (0 : Int), s.drop s.length) :: A).length c] 50 := HR.out.alloc _
  have HA := hide (And.intro (hcA.2.alloc (.cells #[.int .i64 3, .int .i64 0, .string T] 46)) (And.intro hal (hcA.1.alloc (.cells #[.int .i64 3, .int .i64 0, .string T] 46))))
  have s0 : (w1.alloc (.cells #[.int .i64 3, .int .i64 0, .string T] 46)).cell? ⟨R, 0, none⟩ = some (.slice (some ⟨g, o, none⟩) (A.length + 1) c) := hal.cell 0 _ rfl
  have s1 := hal.froz 0
  clear hcA hal
  obtain ⟨la, hla⟩ : ∃ la, la = A.length := ⟨_, rfl⟩
  rw [← hla] at s0 c0 r0 hl hca
  have HLA := hide hla
  clear hla
  have q1 : (1 : Int) ≤ (la : Int) + 1 := by omega
  have q2 : ((la + 1 : Nat) : Int) ≤ (c : Int) := by omega
  have fin : ∀ q c', (A ≠ [] → q = some ⟨g, o + 3, none⟩) → la ≤ c' → c' ≤ c → ∀ W2, W2 = (w1.alloc (.cells #[.int .i64 3, .int .i64 0, .string T] 46)) → Rd X R A (W2.setCell ⟨R, 0, none⟩ (.slice q la c')) ∧ Chg X w (W2.setCell ⟨R, 0, none⟩ (.slice q la c')) := fun q c' hq hc1 hc2 W2 hW2 => by
    obtain ⟨a1, a2, a3⟩ := HA.out
    rw [← hW2] at a1 a2 a3
    obtain ⟨t1, t2⟩ := rd_tail a1 a2 q hq c' (by rw [← HLA.out]; exact hc1) (Nat.le_trans hc2 H2.out)
    rw [← HLA.out] at t1 t2
    exact ⟨t1, a3.trans (t2.mono (fun b _ hb => .inl hb))⟩
  have FIN := hide fin
  clear fin
  by_cases hc1 : c = 1
  · subst hc1
    have hla0 : la = 0 := by omega
    subst hla0
    go_enter Try.func23, Try.ntmps23
    go_wp2_with fail
    refine (unhide K).mono ?_
    rintro e w2 ⟨rfl, hw2⟩
    rw [← hw2] at s0 s1
    have HE := hide hw2
    clear hw2 K HA
    go_wp2
    go_end0
    exact ⟨rfl, FIN.out _ _ (fun hA => absurd (List.eq_nil_of_length_eq_zero HLA.out.symm) hA) (by omega) (by omega) _ HE.out⟩
  · have hc2 : ¬ (c : Int) - 1 = 0 := by omega
    go_enter Try.func23, Try.ntmps23
    go_wp2_with fail
    refine (unhide K).mono ?_
    rintro e w2 ⟨rfl, hw2⟩
    rw [← hw2] at s0 s1
    have HE := hide hw2
    clear hw2 K HA
    go_wp2
    go_end0
    exact ⟨rfl, FIN.out _ _ (fun _ => rfl) (by omega) (by omega) _ HE.out⟩
end Go.Proofs.Yteajpkoghlbneaa.spls
