/- Of our texts, what this claim reaches. -/
import Derived.Test.YtnbfnjhbmeocfaaGreatDoorPblBU
import Derived.Test.YtnbfnjhbmeocfaaGreatDoorPblBZ
set_option linter.unusedVariables false
set_option maxHeartbeats 8000000
set_option maxRecDepth 100000
namespace Go.Proofs.YtnbfnjhbmeocfaaGreatDoor.valus
open Go.RowKit Go.Shelf
open toks (MaxOk toksL)
theorem ext_frontM (s : ByteArray) (b : Nat) : (s.extract 0 b).data.toList = s.data.toList.take b := by rw [ext_cut]; simp
theorem ext_rearM (s : ByteArray) (a : Nat) : (s.extract a s.size).data.toList = s.data.toList.drop a := by
 rw [ext_cut, List.take_of_length_le]
 rw [List.length_drop]
 exact Nat.le_refl _
theorem sliceF (s : ByteArray) (b : Nat) (y : Int) (hy : y = (b : Int)) (h2 : b ≤ s.size) (W : World) : (Instr.slice 9 (.string s) none (some (.int .i64 y)) none).run Tryz.prog W = .ok (.string (s.extract 0 b)) W := by
 subst hy
 have h := run_slice_string_h (P := Tryz.prog) (t := 9) (s := s) (w := W) Tryz.underlying9 .i64 (b : Int) (by omega) (by omega)
 rw [h]
 simp
theorem sliceB (s : ByteArray) (a : Nat) (x : Int) (hx : x = (a : Int)) (h2 : a ≤ s.size) (W : World) : (Instr.slice 9 (.string s) (some (.int .i64 x)) none none).run Tryz.prog W = .ok (.string (s.extract a s.size)) W := by
 subst hx
 have h := run_slice_string_l (P := Tryz.prog) (t := 9) (s := s) (w := W) Tryz.underlying9 .i64 (a : Int) (by omega) (by omega)
 rw [h]
 simp
end Go.Proofs.YtnbfnjhbmeocfaaGreatDoor.valus
namespace Go.Proofs.YtnbfnjhbmeocfaaGreatDoor.valus
open Go.RowKit Go.Shelf
open toks (MaxOk toksL)
theorem blank_neg (w : World) (s : ByteArray) (i which : Int) (hM : MaxOk w) (hT : Lib.Utf8Tabs 1 2 w) (hwh : which ≤ 0) :
  Calls Tryz.prog 4 #[.string s, .int .i64 i, .int .i64 which] w fun e w' => e = .returned (.bool true) ∧ Below w.heap.size w w' := by
 have w0 : ¬ which > 0 := by omega
 have K0 := hide (means_any w hM hT)
 have KM : Hid (∀ (v : World) (x : ByteArray), Below w.heap.size w v → Calls Tryz.prog 11 #[.string x] v (MeanW x v)) := hide fun v x hb => mean_any v x (hM.below (Nat.le_refl _) hb) (Utf8Tabs_below hT hb)
 have KL : Hid (∀ v : World, 20000 < s.size → Calls Tryz.prog 15 #[.string s] v fun e w' => e = .returned (.tuple #[.slice none 0 0, .int .i64 2]) ∧ w' = v) := hide fun v h => toks.cut_large s v h
 have KT : Hid (∀ v : World, s.size ≤ 20000 → Below w.heap.size w v → Calls Tryz.prog 15 #[.string s] v fun e w' => ∃ v', e = .returned (.tuple #[v', .int .i64 0]) ∧ toks.Toks w' v' (toksL s.data.toList) ∧ Below v.heap.size v w') := hide fun v h hb => toks.cut_any s v h (hM.below (Nat.le_refl _) hb)
 clear hM hT
 go_enter Tryz.func4, Tryz.ntmps4
 go_upto_region 3 with (go_at_call 14; refine (unhide K0).mono ?_; rintro e w1 ⟨rfl, b1⟩)
 by_cases hs : 20000 < s.size
 ·have HC := hide (KL.out w1 hs)
  have HM := hide (KM.out w1 s b1)
  have HB := hide b1
  clear b1 K0 KM KL KT hs
  go_upto_region 4 with (go_at_call 15; refine (unhide HC).mono ?_; rintro e w2 ⟨rfl, h2⟩; rw [h2])
  go_upto_region 5 with (go_at_call 11; refine (unhide HM).mono ?_; rintro e w3 ⟨hres, b3⟩; rcases hres with ⟨ak, an, ab, az, aL, al, ac, aE, ae, ad, v, rfl, hA, hl⟩ | ⟨⟨p1, p2⟩, rfl, hA⟩)
  ·have FIN := hide (HB.out.trans ((b3.trans (((Below.refl _ w3).alloc (Nat.le_refl _) (.cells #[.int .i64 ak, .int .i64 an, .int .u64 (ab : Int), .string az, .slice aL al ac, .slice aE ae ad] 26)).mono b3.size)).mono HB.out.size))
   clear HB HC HM b3 hA hl
   go_wp2
   go_ret
   exact ⟨rfl, FIN.out⟩
  ·have FIN := hide (HB.out.trans ((b3.trans (((Below.refl _ w3).alloc (Nat.le_refl _) (.cells #[.int .i64 0, .int .i64 0, .int .u64 0, .string ⟨#[]⟩, .slice none 0 0, .slice none 0 0] 26)).mono b3.size)).mono HB.out.size))
   clear HB HC HM b3 hA
   go_wp2
   go_ret
   exact ⟨rfl, FIN.out⟩
 ·have hss : s.size ≤ 20000 := by omega
  have HC := hide (KT.out w1 hss b1)
  have HB := hide b1
  clear b1 K0 KL KT hs
  go_upto_region 4 with (go_at_call 15; refine (unhide HC).mono ?_; rintro e w2 ⟨v', rfl, ⟨ta, cap, rfl, hcap, hRT⟩, b2⟩)
  have b12 := HB.out.trans (b2.mono HB.out.size)
  have HM := hide (KM.out w2 s b12)
  have HB2 := hide (And.intro b12 hRT)
  have hLl : (toksL s.data.toList).length ≤ 20000 := by
   rw [toks.toksL_eq]
   exact Nat.le_trans (toks.cutP_len 0 _) hss
  obtain ⟨L, hL⟩ : ∃ L, L = toksL s.data.toList := ⟨_, rfl⟩
  rw [← hL] at HB2 hLl hcap ⊢
  have HL := hide hL
  clear b12 hRT b2 HC HB hL
  go_upto_region 5 with (go_at_call 11; refine (unhide HM).mono ?_; rintro e w3 ⟨hres, b3⟩; rcases hres with ⟨ak, an, ab, az, aL, al, ac, aE, ae, ad, v, rfl, hA, hl⟩ | ⟨⟨p1, p2⟩, rfl, hA⟩)
  ·have bV : Below w3.heap.size w3 (w3.alloc (.cells #[.int .i64 ak, .int .i64 an, .int .u64 (ab : Int), .string az, .slice aL al ac, .slice aE ae ad] 26)) := (Below.refl _ w3).alloc (Nat.le_refl _) _
   have b3V := b3.trans (bV.mono b3.size)
   have b4 := HB2.out.1.trans (b3V.mono HB2.out.1.size)
   by_cases hi0 : i < 0
   ·have FIN := hide b4
    clear HM HB2 b3 hA hl bV b3V b4 KM
    go_wp2
    go_ret
    exact ⟨rfl, FIN.out⟩
   ·obtain ⟨j, rfl⟩ : ∃ j : Nat, i = (j : Int) := ⟨i.toNat, by omega⟩
    by_cases hi1 : (j : Int) ≥ (L.length : Int)
    ·have FIN := hide b4
     clear HM HB2 b3 hA hl bV b3V b4 KM
     go_wp2
     go_ret
     exact ⟨rfl, FIN.out⟩
    ·by_cases hlg : (s.size : Int) > 19980
     ·have FIN := hide b4
      clear HM HB2 b3 hA hl bV b3V b4 KM
      go_wp2
      go_ret
      exact ⟨rfl, FIN.out⟩
     ·have hj : j < L.length := by omega
      have hbA := blk_alloc w3 #[.int .i64 ak, .int .i64 an, .int .u64 (ab : Int), .string az, .slice aL al ac, .slice aE ae ad] 26
      have hl4 : LiesV (fun q => q < (w3.alloc (.cells #[.int .i64 ak, .int .i64 an, .int .u64 (ab : Int), .string az, .slice aL al ac, .slice aE ae ad] 26)).heap.size) 40 (w3.alloc (.cells #[.int .i64 ak, .int .i64 an, .int .u64 (ab : Int), .string az, .slice aL al ac, .slice aE ae ad] 26)) [.int .i64 ak, .int .i64 an, .int .u64 (ab : Int), .string az, .slice aL al ac, .slice aE ae ad] v := hl.kept (fun q hq => Nat.lt_of_lt_of_le hq.2 bV.size) bV.size (fun q hq _ => bV.block q hq.2)
      obtain ⟨q, o, rfl, hq, hce⟩ := HB2.out.2 (fun e => by rw [e] at hj; cases hj)
      obtain ⟨_, hat0, _⟩ := hce j hj
      have hqV : q < (w3.alloc (.cells #[.int .i64 ak, .int .i64 an, .int .u64 (ab : Int), .string az, .slice aL al ac, .slice aE ae ad] 26)).heap.size := Nat.lt_of_lt_of_le hq b3V.size
      have hat : (w3.alloc (.cells #[.int .i64 ak, .int .i64 an, .int .u64 (ab : Int), .string az, .slice aL al ac, .slice aE ae ad] 26)).cell? ⟨q, o + j * 3 + 1, none⟩ = some (.int .i64 (L[j].fro : Int)) := (b3V.cell (p := ⟨q, o + j * 3 + 1, none⟩) hq).trans hat0
      have htk : (toksL s.data.toList)[j]? = some L[j] := by rw [← HL.out]; exact List.getElem?_eq_getElem hj
      obtain ⟨_, t2, t3, _⟩ := toks.cut_at j 0 s.data.toList L[j] htk
      have hfs : L[j].fro ≤ s.size := by
       have e : s.data.toList.length = s.size := rfl
       omega
      obtain ⟨A, hAt⟩ : ∃ A : Nat, A = L[j].fro := ⟨_, rfl⟩
      rw [← hAt] at hat hfs
      have HG := hide (And.intro b4 (And.intro hbA (And.intro hl4 (And.intro hA (And.intro htk (And.intro hAt hqV))))))
      have hjI : (j : Int) < (L.length : Int) := by omega
      have hAI : (A : Int) ≤ (s.size : Int) := by omega
      clear HM HB2 b3 hA hl bV b3V b4 hbA hl4 hq hce hat0 htk t2 t3 hAt hqV hi0 hi1 hcap
      obtain ⟨bA, hbAe⟩ : ∃ bA, bA = w3.heap.size := ⟨_, rfl⟩
      generalize hP : w3.alloc (.cells #[.int .i64 ak, .int .i64 an, .int .u64 (ab : Int), .string az, .slice aL al ac, .slice aE ae ad] 26) = P at HG hat
      rw [← hbAe] at HG ⊢
      clear hP hbAe
      have bS : Below P.heap.size P (P.alloc (.cells #[.string ⟨#[32]⟩, .string ⟨#[10]⟩, .string ⟨#[9, 13]⟩, .string ⟨#[47, 42, 32, 44, 32, 42, 47]⟩, .string ⟨#[35, 32, 125, 10]⟩] 9)) := (Below.refl _ P).alloc (Nat.le_refl _) _
      have hSS := blk_alloc P #[.string ⟨#[32]⟩, .string ⟨#[10]⟩, .string ⟨#[9, 13]⟩, .string ⟨#[47, 42, 32, 44, 32, 42, 47]⟩, .string ⟨#[35, 32, 125, 10]⟩] 9
      have s0 := hSS.cell 0 _ rfl
      have s1 := hSS.cell 1 _ rfl
      have s2 := hSS.cell 2 _ rfl
      have s3 := hSS.cell 3 _ rfl
      have s4 := hSS.cell 4 _ rfl
      have hat2 : (P.alloc (.cells #[.string ⟨#[32]⟩, .string ⟨#[10]⟩, .string ⟨#[9, 13]⟩, .string ⟨#[47, 42, 32, 44, 32, 42, 47]⟩, .string ⟨#[35, 32, 125, 10]⟩] 9)).cell? ⟨q, o + j * 3 + 1, none⟩ = some (.int .i64 (A : Int)) := (bS.cell (p := ⟨q, o + j * 3 + 1, none⟩) HG.out.2.2.2.2.2.2).trans hat
      have HG2 := hide bS
      clear bS hSS
      go_upto_region 13 with fail
      clear s0 s1 s2 s3 s4 hat
      generalize hW0 : P.alloc (.cells #[.string ⟨#[32]⟩, .string ⟨#[10]⟩, .string ⟨#[9, 13]⟩, .string ⟨#[47, 42, 32, 44, 32, 42, 47]⟩, .string ⟨#[35, 32, 125, 10]⟩] 9) = W0 at HG2 hat2
      clear hW0
      obtain ⟨b4, hbA, hl4, hA, htk, hAt, hqP⟩ := HG.out
      have b5 := b4.trans (HG2.out.mono b4.size)
      have hbA0 := hbA.below HG2.out
      have hl0 : LiesV (fun q => q < W0.heap.size) 40 W0 [.int .i64 ak, .int .i64 an, .int .u64 (ab : Int), .string az, .slice aL al ac, .slice aE ae ad] v := hl4.kept (fun q hq => Nat.lt_of_lt_of_le hq HG2.out.size) HG2.out.size (fun q hq _ => HG2.out.block q hq)
      obtain ⟨S1, hS1⟩ : ∃ S1 : ByteArray, S1 = s.extract 0 A := ⟨_, rfl⟩
      obtain ⟨S2, hS2⟩ : ∃ S2 : ByteArray, S2 = s.extract A s.size := ⟨_, rfl⟩
      obtain ⟨Y, hY⟩ : ∃ Y : ByteArray, Y = S1 ++ ⟨#[32]⟩ := ⟨_, rfl⟩
      obtain ⟨X, hX⟩ : ∃ X : ByteArray, X = Y ++ S2 := ⟨_, rfl⟩
      have z1 : S1.size ≤ 20000 := by rw [hS1]; simp; omega
      have z2 : S2.size ≤ 20000 := by rw [hS2]; simp; omega
      have zx : (⟨#[32]⟩ : ByteArray).size ≤ 7 := by decide
      have z3 : Y.size ≤ 20010 := by rw [hY, ByteArray.size_append]; omega
      have e1 := sliceF s A (A : Int) rfl hfs
      have e2 := sliceB s A (A : Int) rfl hfs
      have e3 := catM S1 ⟨#[32]⟩ (by omega)
      have e4 := catM Y S2 (by omega)
      rw [← hS1] at e1
      rw [← hS2] at e2
      rw [← hY] at e3
      rw [← hX] at e4
      have hXl : X.data.toList = s.data.toList.take A ++ ([32] ++ s.data.toList.drop A) := by
       rw [hX, catM_list, hY, catM_list, hS1, hS2, ext_frontM, ext_rearM, List.append_assoc]
      have hXs : X.size ≤ 20000 := by
       have e5 : X.data.toList.length = X.size := rfl
       have e6 : s.data.toList.length = s.size := rfl
       rw [← e5, hXl]
       simp only [List.length_append, List.length_take, List.length_drop, List.length_cons, List.length_nil]
       omega
      obtain ⟨_, gs, fs⟩ := gr_ans hA
      have hXA : MeanAns X (.inl v) := (ans_gr hXs (by rw [hXl, hAt, sol_insert (gr_fine gs) htk (.inl rfl)]; exact gs)).1 fs
      have hn : nodesV 40 v ≤ 3000000 := by
       have := (good_sizes hl0.isV fs).2
       omega
      obtain ⟨J, hJ⟩ : ∃ J : World → Prop, J = Below W0.heap.size W0 := ⟨_, rfl⟩
      have jn : ∀ W W', J W → Below W.heap.size W W' → J W' := fun W W' h hb => by rw [hJ] at h ⊢; exact h.trans (hb.mono h.size)
      have jq : ∀ W W', J W → Below W0.heap.size W W' → J W' := fun W W' h hb => by rw [hJ] at h ⊢; exact h.trans hb
      have jb : ∀ W, J W → Below w.heap.size w W := fun W h => by rw [hJ] at h; exact b5.trans (h.mono b5.size)
      have jA : ∀ W, J W → Blk W bA #[.int .i64 ak, .int .i64 an, .int .u64 (ab : Int), .string az, .slice aL al ac, .slice aE ae ad] 26 := fun W h => by rw [hJ] at h; exact hbA0.below h
      have jl : ∀ W, J W → LiesV (fun q => q < W.heap.size) 40 W [.int .i64 ak, .int .i64 an, .int .u64 (ab : Int), .string az, .slice aL al ac, .slice aE ae ad] v := fun W h => by rw [hJ] at h; exact hl0.kept (fun q hq => Nat.lt_of_lt_of_le hq h.size) h.size (fun q hq _ => h.block q hq)
      have K1 : ∀ W, Hid (J W → Calls Tryz.prog 11 #[.string X] W fun e w' => (∃ (xk xn : Int) (xb : Nat) (xz : ByteArray) (xL : Option Addr) (xl xc : Nat) (xE : Option Addr) (xe xd : Nat), e = .returned (.tuple #[.agg #[.int .i64 xk, .int .i64 xn, .int .u64 (xb : Int), .string xz, .slice xL xl xc, .slice xE xe xd], .int .i64 0, .int .i64 0]) ∧ LiesV (fun q => W.heap.size ≤ q ∧ q < w'.heap.size) 40 w' [.int .i64 xk, .int .i64 xn, .int .u64 (xb : Int), .string xz, .slice xL xl xc, .slice xE xe xd] v) ∧ J w' ∧ Below W.heap.size W w') := fun W h => (mean_is hXA (KM.out W X (jb W h))).mono fun e w' ⟨⟨xk, xn, xb, xz, xL, xl, xc, xE, xe, xd, e1, e2⟩, e3⟩ => ⟨⟨xk, xn, xb, xz, xL, xl, xc, xE, xe, xd, e1, e2⟩, jn W w' h e3, e3⟩
      have J0 : J W0 := by rw [hJ]; exact Below.refl _ _
      have JZ : J (W0.alloc (.cells #[.int .i64 0, .int .i64 0, .int .u64 0, .string ⟨#[]⟩, .slice none 0 0, .slice none 0 0] 26)) := jn _ _ J0 ((Below.refl _ W0).alloc (Nat.le_refl _) _)
      have hat3 : (W0.alloc (.cells #[.int .i64 0, .int .i64 0, .int .u64 0, .string ⟨#[]⟩, .slice none 0 0, .slice none 0 0] 26)).cell? ⟨q, o + j * 3 + 1, none⟩ = some (.int .i64 (A : Int)) := (((Below.refl _ W0).alloc (Nat.le_refl _) (.cells #[.int .i64 0, .int .i64 0, .int .u64 0, .string ⟨#[]⟩, .slice none 0 0, .slice none 0 0] 26)).cell (p := ⟨q, o + j * 3 + 1, none⟩) (World.block_lt_of_cell? W0 _ hat2)).trans hat2
      have HJ := hide (And.intro jn (And.intro jb (And.intro jA (And.intro jl (And.intro hn jq)))))
      have HJ0 : Hid (J W0.drew ∧ J (W0.alloc (.cells #[.int .i64 0, .int .i64 0, .int .u64 0, .string ⟨#[]⟩, .slice none 0 0, .slice none 0 0] 26)).drew) := hide ⟨jn _ _ J0 ⟨rfl, rfl, rfl, Nat.le_refl _, fun _ _ => rfl⟩, jn _ _ JZ ⟨rfl, rfl, rfl, Nat.le_refl _, fun _ _ => rfl⟩⟩
      have HZ0 := hide (blk_alloc W0 #[.int .i64 0, .int .i64 0, .int .u64 0, .string ⟨#[]⟩, .slice none 0 0, .slice none 0 0] 26)
      clear b4 hbA hl4 hA htk hAt hqP b5 hbA0 hl0 hS1 hS2 hY hX z1 z2 z3 zx hXl hXs gs fs hXA hn hJ jn jq jb jA jl J0 JZ HG HG2 KM HL
      go_region_with (first
       | (go_at_call 11; refine (unhide (K1 W0.drew) HJ0.out.1).mono ?_; rintro e w5 ⟨⟨xk, xn, xb, xz, xL, xl, xc, xE, xe, xd, rfl, hlx⟩, j5, b5⟩; have zA := blk_alloc w5 #[.int .i64 0, .int .i64 0, .int .u64 0, .string ⟨#[]⟩, .slice none 0 0, .slice none 0 0] 26; have z0 := zA.cell 0 _ rfl; have y0 := Blk.froz zA 0; have z1 := zA.cell 1 _ rfl; have y1 := Blk.froz zA 1; have z2 := zA.cell 2 _ rfl; have y2 := Blk.froz zA 2; have z3 := zA.cell 3 _ rfl; have y3 := Blk.froz zA 3; have z4 := zA.cell 4 _ rfl; have y4 := Blk.froz zA 4; have z5 := zA.cell 5 _ rfl; have y5 := Blk.froz zA 5)
       | (go_at_call 11; refine (unhide (K1 (W0.alloc (.cells #[.int .i64 0, .int .i64 0, .int .u64 0, .string ⟨#[]⟩, .slice none 0 0, .slice none 0 0] 26)).drew) HJ0.out.2).mono ?_; rintro e w5 ⟨⟨xk, xn, xb, xz, xL, xl, xc, xE, xe, xd, rfl, hlx⟩, j5, b5⟩; have zB := (blk_drewM HZ0.out).below b5; have z0 := zB.cell 0 _ rfl; have y0 := Blk.froz zB 0; have z1 := zB.cell 1 _ rfl; have y1 := Blk.froz zB 1; have z2 := zB.cell 2 _ rfl; have y2 := Blk.froz zB 2; have z3 := zB.cell 3 _ rfl; have y3 := Blk.froz zB 3; have z4 := zB.cell 4 _ rfl; have y4 := Blk.froz zB 4; have z5 := zB.cell 5 _ rfl; have y5 := Blk.froz zB 5))
      all_goals first
      | (
       obtain ⟨jn, jb, jA, jl, hn, jq⟩ := HJ.out
       have bV : Below w5.heap.size w5 (w5.alloc (.cells #[.int .i64 xk, .int .i64 xn, .int .u64 (xb : Int), .string xz, .slice xL xl xc, .slice xE xe xd] 26)) := (Below.refl _ w5).alloc (Nat.le_refl _) _
       have j6 := jn _ _ j5 bV
       have hbX := blk_alloc w5 #[.int .i64 xk, .int .i64 xn, .int .u64 (xb : Int), .string xz, .slice xL xl xc, .slice xE xe xd] 26
       have hlx6 : LiesV (fun q => q < (w5.alloc (.cells #[.int .i64 xk, .int .i64 xn, .int .u64 (xb : Int), .string xz, .slice xL xl xc, .slice xE xe xd] 26)).heap.size) 40 (w5.alloc (.cells #[.int .i64 xk, .int .i64 xn, .int .u64 (xb : Int), .string xz, .slice xL xl xc, .slice xE xe xd] 26)) [.int .i64 xk, .int .i64 xn, .int .u64 (xb : Int), .string xz, .slice xL xl xc, .slice xE xe xd] v := hlx.kept (fun q hq => Nat.lt_of_lt_of_le hq.2 bV.size) bV.size (fun q hq _ => bV.block q hq.2)
       have HS := hide (sameM_any 40 _ v v _ _ _ _ _ _ _ _ _ _ _ _ (jl _ j6) hlx6 hn true (by rw [(cmpV_ord 40).refl hlx6.isV]; rfl))
       have FIN := hide (jb _ j6)
       have a0 := (jA _ j6).cell 0 _ rfl
       have a1 := (jA _ j6).cell 1 _ rfl
       have a2 := (jA _ j6).cell 2 _ rfl
       have a3 := (jA _ j6).cell 3 _ rfl
       have a4 := (jA _ j6).cell 4 _ rfl
       have a5 := (jA _ j6).cell 5 _ rfl
       have x0 := hbX.cell 0 _ rfl
       have x1 := hbX.cell 1 _ rfl
       have x2 := hbX.cell 2 _ rfl
       have x3 := hbX.cell 3 _ rfl
       have x4 := hbX.cell 4 _ rfl
       have x5 := hbX.cell 5 _ rfl
       clear z0 z1 z2 z3 z4 z5 y0 y1 y2 y3 y4 y5 zA jn jb jA jl hn jq bV j6 hbX hlx6 hlx j5 b5 K1 hat2 hat3 HJ HJ0 HZ0 e1 e2 e3 e4
       simp only [List.getElem_toArray, List.getElem_cons_succ, List.getElem_cons_zero]
       go_wp2_with (go_at_call 16; refine (unhide HS).mono ?_; rintro e w9 ⟨rfl, b9⟩)
       go_ret
       exact ⟨rfl, FIN.out.trans (b9.mono FIN.out.size)⟩)
      | (
       obtain ⟨jn, jb, jA, jl, hn, jq⟩ := HJ.out
       have hF : Below W0.heap.size w5 (put6 w5 W0.heap.size (.int .i64 xk) (.int .i64 xn) (.int .u64 (xb : Int)) (.string xz) (.slice xL xl xc) (.slice xE xe xd)) := below_put6 (Below.refl W0.heap.size w5) (b := W0.heap.size) (Nat.le_refl _) (.int .i64 xk) (.int .i64 xn) (.int .u64 (xb : Int)) (.string xz) (.slice xL xl xc) (.slice xE xe xd)
       have hPB := put6_blk zB (.int .i64 xk) (.int .i64 xn) (.int .u64 (xb : Int)) (.string xz) (.slice xL xl xc) (.slice xE xe xd)
       have hPO := fun q hq => put6_otherM w5 W0.heap.size q hq (.int .i64 xk) (.int .i64 xn) (.int .u64 (xb : Int)) (.string xz) (.slice xL xl xc) (.slice xE xe xd)
       obtain ⟨Y, hYe⟩ : ∃ Y, Y = put6 w5 W0.heap.size (.int .i64 xk) (.int .i64 xn) (.int .u64 (xb : Int)) (.string xz) (.slice xL xl xc) (.slice xE xe xd) := ⟨_, rfl⟩
       rw [← hYe] at hF hPB hPO
       simp only [put6] at hYe
       have j6 := jq _ _ j5 hF
       have hbX : Blk Y W0.heap.size #[.int .i64 xk, .int .i64 xn, .int .u64 (xb : Int), .string xz, .slice xL xl xc, .slice xE xe xd] 26 := hPB
       have hlx6 : LiesV (fun q => q < Y.heap.size) 40 Y [.int .i64 xk, .int .i64 xn, .int .u64 (xb : Int), .string xz, .slice xL xl xc, .slice xE xe xd] v := hlx.kept (fun q hq => Nat.lt_of_lt_of_le hq.2 hF.size) hF.size (fun q hq _ => hPO q (fun e => by
        have := hq.1
        rw [e] at this
        have e2 : (W0.alloc (.cells #[.int .i64 0, .int .i64 0, .int .u64 0, .string ⟨#[]⟩, .slice none 0 0, .slice none 0 0] 26)).drew.heap.size = W0.heap.size + 1 := by show (W0.alloc _).heap.size = _; simp
        omega))
       have HS := hide (sameM_any 40 _ v v _ _ _ _ _ _ _ _ _ _ _ _ (jl _ j6) hlx6 hn true (by rw [(cmpV_ord 40).refl hlx6.isV]; rfl))
       have FIN := hide (jb _ j6)
       have a0 := (jA _ j6).cell 0 _ rfl
       have a1 := (jA _ j6).cell 1 _ rfl
       have a2 := (jA _ j6).cell 2 _ rfl
       have a3 := (jA _ j6).cell 3 _ rfl
       have a4 := (jA _ j6).cell 4 _ rfl
       have a5 := (jA _ j6).cell 5 _ rfl
       have x0 := hbX.cell 0 _ rfl
       have x1 := hbX.cell 1 _ rfl
       have x2 := hbX.cell 2 _ rfl
       have x3 := hbX.cell 3 _ rfl
       have x4 := hbX.cell 4 _ rfl
       have x5 := hbX.cell 5 _ rfl
       rw [← hYe]
       clear z0 z1 z2 z3 z4 z5 y0 y1 y2 y3 y4 y5 zB jn jb jA jl hn jq j6 hbX hlx6 hlx j5 b5 K1 hat2 hat3 HJ HJ0 HZ0 e1 e2 e3 e4 hF hPB hPO hYe
       simp only [List.getElem_toArray, List.getElem_cons_succ, List.getElem_cons_zero]
       go_wp2_with (go_at_call 16; refine (unhide HS).mono ?_; rintro e w9 ⟨rfl, b9⟩)
       go_ret
       exact ⟨rfl, FIN.out.trans (b9.mono FIN.out.size)⟩)
      | (trace_state; fail)
  ·have g1 : (p2 != 0) = true := bne_iff_ne.2 (ans_place hA).2
   have FIN := hide (HB2.out.1.trans ((b3.trans (((Below.refl _ w3).alloc (Nat.le_refl _) (.cells #[.int .i64 0, .int .i64 0, .int .u64 0, .string ⟨#[]⟩, .slice none 0 0, .slice none 0 0] 26)).mono b3.size)).mono HB2.out.1.size))
   clear HB2 HM b3 hA KM
   go_wp2
   go_ret
   exact ⟨rfl, FIN.out⟩
end Go.Proofs.YtnbfnjhbmeocfaaGreatDoor.valus
namespace Go.Proofs.YtnbfnjhbmeocfaaGreatDoor.valus
open Go.RowKit Go.Shelf
open toks (MaxOk toksL)
theorem blank_big (w : World) (s : ByteArray) (i which : Int) (hM : MaxOk w) (hT : Lib.Utf8Tabs 1 2 w) (hwh : 5 ≤ which) :
  Calls Tryz.prog 4 #[.string s, .int .i64 i, .int .i64 which] w fun e w' => e = .returned (.bool true) ∧ Below w.heap.size w w' := by
 have w0 : which > 0 := by omega
 have w5 : ¬ which < 5 := by omega
 have K0 := hide (means_any w hM hT)
 have KM : Hid (∀ (v : World) (x : ByteArray), Below w.heap.size w v → Calls Tryz.prog 11 #[.string x] v (MeanW x v)) := hide fun v x hb => mean_any v x (hM.below (Nat.le_refl _) hb) (Utf8Tabs_below hT hb)
 have KL : Hid (∀ v : World, 20000 < s.size → Calls Tryz.prog 15 #[.string s] v fun e w' => e = .returned (.tuple #[.slice none 0 0, .int .i64 2]) ∧ w' = v) := hide fun v h => toks.cut_large s v h
 have KT : Hid (∀ v : World, s.size ≤ 20000 → Below w.heap.size w v → Calls Tryz.prog 15 #[.string s] v fun e w' => ∃ v', e = .returned (.tuple #[v', .int .i64 0]) ∧ toks.Toks w' v' (toksL s.data.toList) ∧ Below v.heap.size v w') := hide fun v h hb => toks.cut_any s v h (hM.below (Nat.le_refl _) hb)
 clear hM hT
 go_enter Tryz.func4, Tryz.ntmps4
 go_upto_region 3 with (go_at_call 14; refine (unhide K0).mono ?_; rintro e w1 ⟨rfl, b1⟩)
 by_cases hs : 20000 < s.size
 ·have HC := hide (KL.out w1 hs)
  have HM := hide (KM.out w1 s b1)
  have HB := hide b1
  clear b1 K0 KM KL KT hs
  go_upto_region 4 with (go_at_call 15; refine (unhide HC).mono ?_; rintro e w2 ⟨rfl, h2⟩; rw [h2])
  go_upto_region 5 with (go_at_call 11; refine (unhide HM).mono ?_; rintro e w3 ⟨hres, b3⟩; rcases hres with ⟨ak, an, ab, az, aL, al, ac, aE, ae, ad, v, rfl, hA, hl⟩ | ⟨⟨p1, p2⟩, rfl, hA⟩)
  ·have FIN := hide (HB.out.trans ((b3.trans (((Below.refl _ w3).alloc (Nat.le_refl _) (.cells #[.int .i64 ak, .int .i64 an, .int .u64 (ab : Int), .string az, .slice aL al ac, .slice aE ae ad] 26)).mono b3.size)).mono HB.out.size))
   clear HB HC HM b3 hA hl
   go_wp2
   go_ret
   exact ⟨rfl, FIN.out⟩
  ·have FIN := hide (HB.out.trans ((b3.trans (((Below.refl _ w3).alloc (Nat.le_refl _) (.cells #[.int .i64 0, .int .i64 0, .int .u64 0, .string ⟨#[]⟩, .slice none 0 0, .slice none 0 0] 26)).mono b3.size)).mono HB.out.size))
   clear HB HC HM b3 hA
   go_wp2
   go_ret
   exact ⟨rfl, FIN.out⟩
 ·have hss : s.size ≤ 20000 := by omega
  have HC := hide (KT.out w1 hss b1)
  have HB := hide b1
  clear b1 K0 KL KT hs
  go_upto_region 4 with (go_at_call 15; refine (unhide HC).mono ?_; rintro e w2 ⟨v', rfl, ⟨ta, cap, rfl, hcap, hRT⟩, b2⟩)
  have b12 := HB.out.trans (b2.mono HB.out.size)
  have HM := hide (KM.out w2 s b12)
  have HB2 := hide (And.intro b12 hRT)
  have hLl : (toksL s.data.toList).length ≤ 20000 := by
   rw [toks.toksL_eq]
   exact Nat.le_trans (toks.cutP_len 0 _) hss
  obtain ⟨L, hL⟩ : ∃ L, L = toksL s.data.toList := ⟨_, rfl⟩
  rw [← hL] at HB2 hLl hcap ⊢
  have HL := hide hL
  clear b12 hRT b2 HC HB hL
  go_upto_region 5 with (go_at_call 11; refine (unhide HM).mono ?_; rintro e w3 ⟨hres, b3⟩; rcases hres with ⟨ak, an, ab, az, aL, al, ac, aE, ae, ad, v, rfl, hA, hl⟩ | ⟨⟨p1, p2⟩, rfl, hA⟩)
  ·have bV : Below w3.heap.size w3 (w3.alloc (.cells #[.int .i64 ak, .int .i64 an, .int .u64 (ab : Int), .string az, .slice aL al ac, .slice aE ae ad] 26)) := (Below.refl _ w3).alloc (Nat.le_refl _) _
   have b3V := b3.trans (bV.mono b3.size)
   have b4 := HB2.out.1.trans (b3V.mono HB2.out.1.size)
   by_cases hi0 : i < 0
   ·have FIN := hide b4
    clear HM HB2 b3 hA hl bV b3V b4 KM
    go_wp2
    go_ret
    exact ⟨rfl, FIN.out⟩
   ·obtain ⟨j, rfl⟩ : ∃ j : Nat, i = (j : Int) := ⟨i.toNat, by omega⟩
    by_cases hi1 : (j : Int) ≥ (L.length : Int)
    ·have FIN := hide b4
     clear HM HB2 b3 hA hl bV b3V b4 KM
     go_wp2
     go_ret
     exact ⟨rfl, FIN.out⟩
    ·by_cases hlg : (s.size : Int) > 19980
     ·have FIN := hide b4
      clear HM HB2 b3 hA hl bV b3V b4 KM
      go_wp2
      go_ret
      exact ⟨rfl, FIN.out⟩
     ·have hj : j < L.length := by omega
      have hbA := blk_alloc w3 #[.int .i64 ak, .int .i64 an, .int .u64 (ab : Int), .string az, .slice aL al ac, .slice aE ae ad] 26
      have hl4 : LiesV (fun q => q < (w3.alloc (.cells #[.int .i64 ak, .int .i64 an, .int .u64 (ab : Int), .string az, .slice aL al ac, .slice aE ae ad] 26)).heap.size) 40 (w3.alloc (.cells #[.int .i64 ak, .int .i64 an, .int .u64 (ab : Int), .string az, .slice aL al ac, .slice aE ae ad] 26)) [.int .i64 ak, .int .i64 an, .int .u64 (ab : Int), .string az, .slice aL al ac, .slice aE ae ad] v := hl.kept (fun q hq => Nat.lt_of_lt_of_le hq.2 bV.size) bV.size (fun q hq _ => bV.block q hq.2)
      obtain ⟨q, o, rfl, hq, hce⟩ := HB2.out.2 (fun e => by rw [e] at hj; cases hj)
      obtain ⟨_, hat0, _⟩ := hce j hj
      have hqV : q < (w3.alloc (.cells #[.int .i64 ak, .int .i64 an, .int .u64 (ab : Int), .string az, .slice aL al ac, .slice aE ae ad] 26)).heap.size := Nat.lt_of_lt_of_le hq b3V.size
      have hat : (w3.alloc (.cells #[.int .i64 ak, .int .i64 an, .int .u64 (ab : Int), .string az, .slice aL al ac, .slice aE ae ad] 26)).cell? ⟨q, o + j * 3 + 1, none⟩ = some (.int .i64 (L[j].fro : Int)) := (b3V.cell (p := ⟨q, o + j * 3 + 1, none⟩) hq).trans hat0
      have htk : (toksL s.data.toList)[j]? = some L[j] := by rw [← HL.out]; exact List.getElem?_eq_getElem hj
      obtain ⟨_, t2, t3, _⟩ := toks.cut_at j 0 s.data.toList L[j] htk
      have hfs : L[j].fro ≤ s.size := by
       have e : s.data.toList.length = s.size := rfl
       omega
      obtain ⟨A, hAt⟩ : ∃ A : Nat, A = L[j].fro := ⟨_, rfl⟩
      rw [← hAt] at hat hfs
      have HG := hide (And.intro b4 (And.intro hbA (And.intro hl4 (And.intro hA (And.intro htk (And.intro hAt hqV))))))
      have hjI : (j : Int) < (L.length : Int) := by omega
      have hAI : (A : Int) ≤ (s.size : Int) := by omega
      clear HM HB2 b3 hA hl bV b3V b4 hbA hl4 hq hce hat0 htk t2 t3 hAt hqV hi0 hi1 hcap
      obtain ⟨bA, hbAe⟩ : ∃ bA, bA = w3.heap.size := ⟨_, rfl⟩
      generalize hP : w3.alloc (.cells #[.int .i64 ak, .int .i64 an, .int .u64 (ab : Int), .string az, .slice aL al ac, .slice aE ae ad] 26) = P at HG hat
      rw [← hbAe] at HG ⊢
      clear hP hbAe
      have bS : Below P.heap.size P (P.alloc (.cells #[.string ⟨#[32]⟩, .string ⟨#[10]⟩, .string ⟨#[9, 13]⟩, .string ⟨#[47, 42, 32, 44, 32, 42, 47]⟩, .string ⟨#[35, 32, 125, 10]⟩] 9)) := (Below.refl _ P).alloc (Nat.le_refl _) _
      have hSS := blk_alloc P #[.string ⟨#[32]⟩, .string ⟨#[10]⟩, .string ⟨#[9, 13]⟩, .string ⟨#[47, 42, 32, 44, 32, 42, 47]⟩, .string ⟨#[35, 32, 125, 10]⟩] 9
      have s0 := hSS.cell 0 _ rfl
      have s1 := hSS.cell 1 _ rfl
      have s2 := hSS.cell 2 _ rfl
      have s3 := hSS.cell 3 _ rfl
      have s4 := hSS.cell 4 _ rfl
      have hat2 : (P.alloc (.cells #[.string ⟨#[32]⟩, .string ⟨#[10]⟩, .string ⟨#[9, 13]⟩, .string ⟨#[47, 42, 32, 44, 32, 42, 47]⟩, .string ⟨#[35, 32, 125, 10]⟩] 9)).cell? ⟨q, o + j * 3 + 1, none⟩ = some (.int .i64 (A : Int)) := (bS.cell (p := ⟨q, o + j * 3 + 1, none⟩) HG.out.2.2.2.2.2.2).trans hat
      have HG2 := hide bS
      clear bS hSS
      go_upto_region 13 with fail
      clear s0 s1 s2 s3 s4 hat
      generalize hW0 : P.alloc (.cells #[.string ⟨#[32]⟩, .string ⟨#[10]⟩, .string ⟨#[9, 13]⟩, .string ⟨#[47, 42, 32, 44, 32, 42, 47]⟩, .string ⟨#[35, 32, 125, 10]⟩] 9) = W0 at HG2 hat2
      clear hW0
      obtain ⟨b4, hbA, hl4, hA, htk, hAt, hqP⟩ := HG.out
      have b5 := b4.trans (HG2.out.mono b4.size)
      have hbA0 := hbA.below HG2.out
      have hl0 : LiesV (fun q => q < W0.heap.size) 40 W0 [.int .i64 ak, .int .i64 an, .int .u64 (ab : Int), .string az, .slice aL al ac, .slice aE ae ad] v := hl4.kept (fun q hq => Nat.lt_of_lt_of_le hq HG2.out.size) HG2.out.size (fun q hq _ => HG2.out.block q hq)
      obtain ⟨S1, hS1⟩ : ∃ S1 : ByteArray, S1 = s.extract 0 A := ⟨_, rfl⟩
      obtain ⟨S2, hS2⟩ : ∃ S2 : ByteArray, S2 = s.extract A s.size := ⟨_, rfl⟩
      obtain ⟨Y, hY⟩ : ∃ Y : ByteArray, Y = S1 ++ ⟨#[32]⟩ := ⟨_, rfl⟩
      obtain ⟨X, hX⟩ : ∃ X : ByteArray, X = Y ++ S2 := ⟨_, rfl⟩
      have z1 : S1.size ≤ 20000 := by rw [hS1]; simp; omega
      have z2 : S2.size ≤ 20000 := by rw [hS2]; simp; omega
      have zx : (⟨#[32]⟩ : ByteArray).size ≤ 7 := by decide
      have z3 : Y.size ≤ 20010 := by rw [hY, ByteArray.size_append]; omega
      have e1 := sliceF s A (A : Int) rfl hfs
      have e2 := sliceB s A (A : Int) rfl hfs
      have e3 := catM S1 ⟨#[32]⟩ (by omega)
      have e4 := catM Y S2 (by omega)
      rw [← hS1] at e1
      rw [← hS2] at e2
      rw [← hY] at e3
      rw [← hX] at e4
      have hXl : X.data.toList = s.data.toList.take A ++ ([32] ++ s.data.toList.drop A) := by
       rw [hX, catM_list, hY, catM_list, hS1, hS2, ext_frontM, ext_rearM, List.append_assoc]
      have hXs : X.size ≤ 20000 := by
       have e5 : X.data.toList.length = X.size := rfl
       have e6 : s.data.toList.length = s.size := rfl
       rw [← e5, hXl]
       simp only [List.length_append, List.length_take, List.length_drop, List.length_cons, List.length_nil]
       omega
      obtain ⟨_, gs, fs⟩ := gr_ans hA
      have hXA : MeanAns X (.inl v) := (ans_gr hXs (by rw [hXl, hAt, sol_insert (gr_fine gs) htk (.inl rfl)]; exact gs)).1 fs
      have hn : nodesV 40 v ≤ 3000000 := by
       have := (good_sizes hl0.isV fs).2
       omega
      obtain ⟨J, hJ⟩ : ∃ J : World → Prop, J = Below W0.heap.size W0 := ⟨_, rfl⟩
      have jn : ∀ W W', J W → Below W.heap.size W W' → J W' := fun W W' h hb => by rw [hJ] at h ⊢; exact h.trans (hb.mono h.size)
      have jq : ∀ W W', J W → Below W0.heap.size W W' → J W' := fun W W' h hb => by rw [hJ] at h ⊢; exact h.trans hb
      have jb : ∀ W, J W → Below w.heap.size w W := fun W h => by rw [hJ] at h; exact b5.trans (h.mono b5.size)
      have jA : ∀ W, J W → Blk W bA #[.int .i64 ak, .int .i64 an, .int .u64 (ab : Int), .string az, .slice aL al ac, .slice aE ae ad] 26 := fun W h => by rw [hJ] at h; exact hbA0.below h
      have jl : ∀ W, J W → LiesV (fun q => q < W.heap.size) 40 W [.int .i64 ak, .int .i64 an, .int .u64 (ab : Int), .string az, .slice aL al ac, .slice aE ae ad] v := fun W h => by rw [hJ] at h; exact hl0.kept (fun q hq => Nat.lt_of_lt_of_le hq h.size) h.size (fun q hq _ => h.block q hq)
      have K1 : ∀ W, Hid (J W → Calls Tryz.prog 11 #[.string X] W fun e w' => (∃ (xk xn : Int) (xb : Nat) (xz : ByteArray) (xL : Option Addr) (xl xc : Nat) (xE : Option Addr) (xe xd : Nat), e = .returned (.tuple #[.agg #[.int .i64 xk, .int .i64 xn, .int .u64 (xb : Int), .string xz, .slice xL xl xc, .slice xE xe xd], .int .i64 0, .int .i64 0]) ∧ LiesV (fun q => W.heap.size ≤ q ∧ q < w'.heap.size) 40 w' [.int .i64 xk, .int .i64 xn, .int .u64 (xb : Int), .string xz, .slice xL xl xc, .slice xE xe xd] v) ∧ J w' ∧ Below W.heap.size W w') := fun W h => (mean_is hXA (KM.out W X (jb W h))).mono fun e w' ⟨⟨xk, xn, xb, xz, xL, xl, xc, xE, xe, xd, e1, e2⟩, e3⟩ => ⟨⟨xk, xn, xb, xz, xL, xl, xc, xE, xe, xd, e1, e2⟩, jn W w' h e3, e3⟩
      have J0 : J W0 := by rw [hJ]; exact Below.refl _ _
      have JZ : J (W0.alloc (.cells #[.int .i64 0, .int .i64 0, .int .u64 0, .string ⟨#[]⟩, .slice none 0 0, .slice none 0 0] 26)) := jn _ _ J0 ((Below.refl _ W0).alloc (Nat.le_refl _) _)
      have hat3 : (W0.alloc (.cells #[.int .i64 0, .int .i64 0, .int .u64 0, .string ⟨#[]⟩, .slice none 0 0, .slice none 0 0] 26)).cell? ⟨q, o + j * 3 + 1, none⟩ = some (.int .i64 (A : Int)) := (((Below.refl _ W0).alloc (Nat.le_refl _) (.cells #[.int .i64 0, .int .i64 0, .int .u64 0, .string ⟨#[]⟩, .slice none 0 0, .slice none 0 0] 26)).cell (p := ⟨q, o + j * 3 + 1, none⟩) (World.block_lt_of_cell? W0 _ hat2)).trans hat2
      have HJ := hide (And.intro jn (And.intro jb (And.intro jA (And.intro jl (And.intro hn jq)))))
      have HJ0 : Hid (J W0.drew ∧ J (W0.alloc (.cells #[.int .i64 0, .int .i64 0, .int .u64 0, .string ⟨#[]⟩, .slice none 0 0, .slice none 0 0] 26)).drew) := hide ⟨jn _ _ J0 ⟨rfl, rfl, rfl, Nat.le_refl _, fun _ _ => rfl⟩, jn _ _ JZ ⟨rfl, rfl, rfl, Nat.le_refl _, fun _ _ => rfl⟩⟩
      have HZ0 := hide (blk_alloc W0 #[.int .i64 0, .int .i64 0, .int .u64 0, .string ⟨#[]⟩, .slice none 0 0, .slice none 0 0] 26)
      clear b4 hbA hl4 hA htk hAt hqP b5 hbA0 hl0 hS1 hS2 hY hX z1 z2 z3 zx hXl hXs gs fs hXA hn hJ jn jq jb jA jl J0 JZ HG HG2 KM HL
      go_region_with (first
       | (go_at_call 11; refine (unhide (K1 W0.drew) HJ0.out.1).mono ?_; rintro e w5 ⟨⟨xk, xn, xb, xz, xL, xl, xc, xE, xe, xd, rfl, hlx⟩, j5, b5⟩; have zA := blk_alloc w5 #[.int .i64 0, .int .i64 0, .int .u64 0, .string ⟨#[]⟩, .slice none 0 0, .slice none 0 0] 26; have z0 := zA.cell 0 _ rfl; have y0 := Blk.froz zA 0; have z1 := zA.cell 1 _ rfl; have y1 := Blk.froz zA 1; have z2 := zA.cell 2 _ rfl; have y2 := Blk.froz zA 2; have z3 := zA.cell 3 _ rfl; have y3 := Blk.froz zA 3; have z4 := zA.cell 4 _ rfl; have y4 := Blk.froz zA 4; have z5 := zA.cell 5 _ rfl; have y5 := Blk.froz zA 5)
       | (go_at_call 11; refine (unhide (K1 (W0.alloc (.cells #[.int .i64 0, .int .i64 0, .int .u64 0, .string ⟨#[]⟩, .slice none 0 0, .slice none 0 0] 26)).drew) HJ0.out.2).mono ?_; rintro e w5 ⟨⟨xk, xn, xb, xz, xL, xl, xc, xE, xe, xd, rfl, hlx⟩, j5, b5⟩; have zB := (blk_drewM HZ0.out).below b5; have z0 := zB.cell 0 _ rfl; have y0 := Blk.froz zB 0; have z1 := zB.cell 1 _ rfl; have y1 := Blk.froz zB 1; have z2 := zB.cell 2 _ rfl; have y2 := Blk.froz zB 2; have z3 := zB.cell 3 _ rfl; have y3 := Blk.froz zB 3; have z4 := zB.cell 4 _ rfl; have y4 := Blk.froz zB 4; have z5 := zB.cell 5 _ rfl; have y5 := Blk.froz zB 5))
      all_goals first
      | (
       obtain ⟨jn, jb, jA, jl, hn, jq⟩ := HJ.out
       have bV : Below w5.heap.size w5 (w5.alloc (.cells #[.int .i64 xk, .int .i64 xn, .int .u64 (xb : Int), .string xz, .slice xL xl xc, .slice xE xe xd] 26)) := (Below.refl _ w5).alloc (Nat.le_refl _) _
       have j6 := jn _ _ j5 bV
       have hbX := blk_alloc w5 #[.int .i64 xk, .int .i64 xn, .int .u64 (xb : Int), .string xz, .slice xL xl xc, .slice xE xe xd] 26
       have hlx6 : LiesV (fun q => q < (w5.alloc (.cells #[.int .i64 xk, .int .i64 xn, .int .u64 (xb : Int), .string xz, .slice xL xl xc, .slice xE xe xd] 26)).heap.size) 40 (w5.alloc (.cells #[.int .i64 xk, .int .i64 xn, .int .u64 (xb : Int), .string xz, .slice xL xl xc, .slice xE xe xd] 26)) [.int .i64 xk, .int .i64 xn, .int .u64 (xb : Int), .string xz, .slice xL xl xc, .slice xE xe xd] v := hlx.kept (fun q hq => Nat.lt_of_lt_of_le hq.2 bV.size) bV.size (fun q hq _ => bV.block q hq.2)
       have HS := hide (sameM_any 40 _ v v _ _ _ _ _ _ _ _ _ _ _ _ (jl _ j6) hlx6 hn true (by rw [(cmpV_ord 40).refl hlx6.isV]; rfl))
       have FIN := hide (jb _ j6)
       have a0 := (jA _ j6).cell 0 _ rfl
       have a1 := (jA _ j6).cell 1 _ rfl
       have a2 := (jA _ j6).cell 2 _ rfl
       have a3 := (jA _ j6).cell 3 _ rfl
       have a4 := (jA _ j6).cell 4 _ rfl
       have a5 := (jA _ j6).cell 5 _ rfl
       have x0 := hbX.cell 0 _ rfl
       have x1 := hbX.cell 1 _ rfl
       have x2 := hbX.cell 2 _ rfl
       have x3 := hbX.cell 3 _ rfl
       have x4 := hbX.cell 4 _ rfl
       have x5 := hbX.cell 5 _ rfl
       clear z0 z1 z2 z3 z4 z5 y0 y1 y2 y3 y4 y5 zA jn jb jA jl hn jq bV j6 hbX hlx6 hlx j5 b5 K1 hat2 hat3 HJ HJ0 HZ0 e1 e2 e3 e4
       simp only [List.getElem_toArray, List.getElem_cons_succ, List.getElem_cons_zero]
       go_wp2_with (go_at_call 16; refine (unhide HS).mono ?_; rintro e w9 ⟨rfl, b9⟩)
       go_ret
       exact ⟨rfl, FIN.out.trans (b9.mono FIN.out.size)⟩)
      | (
       obtain ⟨jn, jb, jA, jl, hn, jq⟩ := HJ.out
       have hF : Below W0.heap.size w5 (put6 w5 W0.heap.size (.int .i64 xk) (.int .i64 xn) (.int .u64 (xb : Int)) (.string xz) (.slice xL xl xc) (.slice xE xe xd)) := below_put6 (Below.refl W0.heap.size w5) (b := W0.heap.size) (Nat.le_refl _) (.int .i64 xk) (.int .i64 xn) (.int .u64 (xb : Int)) (.string xz) (.slice xL xl xc) (.slice xE xe xd)
       have hPB := put6_blk zB (.int .i64 xk) (.int .i64 xn) (.int .u64 (xb : Int)) (.string xz) (.slice xL xl xc) (.slice xE xe xd)
       have hPO := fun q hq => put6_otherM w5 W0.heap.size q hq (.int .i64 xk) (.int .i64 xn) (.int .u64 (xb : Int)) (.string xz) (.slice xL xl xc) (.slice xE xe xd)
       obtain ⟨Y, hYe⟩ : ∃ Y, Y = put6 w5 W0.heap.size (.int .i64 xk) (.int .i64 xn) (.int .u64 (xb : Int)) (.string xz) (.slice xL xl xc) (.slice xE xe xd) := ⟨_, rfl⟩
       rw [← hYe] at hF hPB hPO
       simp only [put6] at hYe
       have j6 := jq _ _ j5 hF
       have hbX : Blk Y W0.heap.size #[.int .i64 xk, .int .i64 xn, .int .u64 (xb : Int), .string xz, .slice xL xl xc, .slice xE xe xd] 26 := hPB
       have hlx6 : LiesV (fun q => q < Y.heap.size) 40 Y [.int .i64 xk, .int .i64 xn, .int .u64 (xb : Int), .string xz, .slice xL xl xc, .slice xE xe xd] v := hlx.kept (fun q hq => Nat.lt_of_lt_of_le hq.2 hF.size) hF.size (fun q hq _ => hPO q (fun e => by
        have := hq.1
        rw [e] at this
        have e2 : (W0.alloc (.cells #[.int .i64 0, .int .i64 0, .int .u64 0, .string ⟨#[]⟩, .slice none 0 0, .slice none 0 0] 26)).drew.heap.size = W0.heap.size + 1 := by show (W0.alloc _).heap.size = _; simp
        omega))
       have HS := hide (sameM_any 40 _ v v _ _ _ _ _ _ _ _ _ _ _ _ (jl _ j6) hlx6 hn true (by rw [(cmpV_ord 40).refl hlx6.isV]; rfl))
       have FIN := hide (jb _ j6)
       have a0 := (jA _ j6).cell 0 _ rfl
       have a1 := (jA _ j6).cell 1 _ rfl
       have a2 := (jA _ j6).cell 2 _ rfl
       have a3 := (jA _ j6).cell 3 _ rfl
       have a4 := (jA _ j6).cell 4 _ rfl
       have a5 := (jA _ j6).cell 5 _ rfl
       have x0 := hbX.cell 0 _ rfl
       have x1 := hbX.cell 1 _ rfl
       have x2 := hbX.cell 2 _ rfl
       have x3 := hbX.cell 3 _ rfl
       have x4 := hbX.cell 4 _ rfl
       have x5 := hbX.cell 5 _ rfl
       rw [← hYe]
       clear z0 z1 z2 z3 z4 z5 y0 y1 y2 y3 y4 y5 zB jn jb jA jl hn jq j6 hbX hlx6 hlx j5 b5 K1 hat2 hat3 HJ HJ0 HZ0 e1 e2 e3 e4 hF hPB hPO hYe
       simp only [List.getElem_toArray, List.getElem_cons_succ, List.getElem_cons_zero]
       go_wp2_with (go_at_call 16; refine (unhide HS).mono ?_; rintro e w9 ⟨rfl, b9⟩)
       go_ret
       exact ⟨rfl, FIN.out.trans (b9.mono FIN.out.size)⟩)
      | (trace_state; fail)
  ·have g1 : (p2 != 0) = true := bne_iff_ne.2 (ans_place hA).2
   have FIN := hide (HB2.out.1.trans ((b3.trans (((Below.refl _ w3).alloc (Nat.le_refl _) (.cells #[.int .i64 0, .int .i64 0, .int .u64 0, .string ⟨#[]⟩, .slice none 0 0, .slice none 0 0] 26)).mono b3.size)).mono HB2.out.1.size))
   clear HB2 HM b3 hA KM
   go_wp2
   go_ret
   exact ⟨rfl, FIN.out⟩
end Go.Proofs.YtnbfnjhbmeocfaaGreatDoor.valus
namespace Go.Proofs.YtnbfnjhbmeocfaaGreatDoor.valus
open Go.RowKit Go.Shelf
open toks (MaxOk toksL)
theorem blank_mid (w : World) (s : ByteArray) (i which : Int) (hM : MaxOk w) (hT : Lib.Utf8Tabs 1 2 w) (k : Nat) (hwh : which = (k : Int)) (hk : 1 ≤ k ∧ k ≤ 4) :
  Calls Tryz.prog 4 #[.string s, .int .i64 i, .int .i64 which] w fun e w' => e = .returned (.bool true) ∧ Below w.heap.size w w' := by
 subst hwh
 have w0 : (k : Int) > 0 := by omega
 have w5 : (k : Int) < 5 := by omega
 have K0 := hide (means_any w hM hT)
 have KM : Hid (∀ (v : World) (x : ByteArray), Below w.heap.size w v → Calls Tryz.prog 11 #[.string x] v (MeanW x v)) := hide fun v x hb => mean_any v x (hM.below (Nat.le_refl _) hb) (Utf8Tabs_below hT hb)
 have KL : Hid (∀ v : World, 20000 < s.size → Calls Tryz.prog 15 #[.string s] v fun e w' => e = .returned (.tuple #[.slice none 0 0, .int .i64 2]) ∧ w' = v) := hide fun v h => toks.cut_large s v h
 have KT : Hid (∀ v : World, s.size ≤ 20000 → Below w.heap.size w v → Calls Tryz.prog 15 #[.string s] v fun e w' => ∃ v', e = .returned (.tuple #[v', .int .i64 0]) ∧ toks.Toks w' v' (toksL s.data.toList) ∧ Below v.heap.size v w') := hide fun v h hb => toks.cut_any s v h (hM.below (Nat.le_refl _) hb)
 clear hM hT
 go_enter Tryz.func4, Tryz.ntmps4
 go_upto_region 3 with (go_at_call 14; refine (unhide K0).mono ?_; rintro e w1 ⟨rfl, b1⟩)
 by_cases hs : 20000 < s.size
 ·have HC := hide (KL.out w1 hs)
  have HM := hide (KM.out w1 s b1)
  have HB := hide b1
  clear b1 K0 KM KL KT hs
  go_upto_region 4 with (go_at_call 15; refine (unhide HC).mono ?_; rintro e w2 ⟨rfl, h2⟩; rw [h2])
  go_upto_region 5 with (go_at_call 11; refine (unhide HM).mono ?_; rintro e w3 ⟨hres, b3⟩; rcases hres with ⟨ak, an, ab, az, aL, al, ac, aE, ae, ad, v, rfl, hA, hl⟩ | ⟨⟨p1, p2⟩, rfl, hA⟩)
  ·have FIN := hide (HB.out.trans ((b3.trans (((Below.refl _ w3).alloc (Nat.le_refl _) (.cells #[.int .i64 ak, .int .i64 an, .int .u64 (ab : Int), .string az, .slice aL al ac, .slice aE ae ad] 26)).mono b3.size)).mono HB.out.size))
   clear HB HC HM b3 hA hl
   go_wp2
   go_ret
   exact ⟨rfl, FIN.out⟩
  ·have FIN := hide (HB.out.trans ((b3.trans (((Below.refl _ w3).alloc (Nat.le_refl _) (.cells #[.int .i64 0, .int .i64 0, .int .u64 0, .string ⟨#[]⟩, .slice none 0 0, .slice none 0 0] 26)).mono b3.size)).mono HB.out.size))
   clear HB HC HM b3 hA
   go_wp2
   go_ret
   exact ⟨rfl, FIN.out⟩
 ·have hss : s.size ≤ 20000 := by omega
  have HC := hide (KT.out w1 hss b1)
  have HB := hide b1
  clear b1 K0 KL KT hs
  go_upto_region 4 with (go_at_call 15; refine (unhide HC).mono ?_; rintro e w2 ⟨v', rfl, ⟨ta, cap, rfl, hcap, hRT⟩, b2⟩)
  have b12 := HB.out.trans (b2.mono HB.out.size)
  have HM := hide (KM.out w2 s b12)
  have HB2 := hide (And.intro b12 hRT)
  have hLl : (toksL s.data.toList).length ≤ 20000 := by
   rw [toks.toksL_eq]
   exact Nat.le_trans (toks.cutP_len 0 _) hss
  obtain ⟨L, hL⟩ : ∃ L, L = toksL s.data.toList := ⟨_, rfl⟩
  rw [← hL] at HB2 hLl hcap ⊢
  have HL := hide hL
  clear b12 hRT b2 HC HB hL
  go_upto_region 5 with (go_at_call 11; refine (unhide HM).mono ?_; rintro e w3 ⟨hres, b3⟩; rcases hres with ⟨ak, an, ab, az, aL, al, ac, aE, ae, ad, v, rfl, hA, hl⟩ | ⟨⟨p1, p2⟩, rfl, hA⟩)
  ·have bV : Below w3.heap.size w3 (w3.alloc (.cells #[.int .i64 ak, .int .i64 an, .int .u64 (ab : Int), .string az, .slice aL al ac, .slice aE ae ad] 26)) := (Below.refl _ w3).alloc (Nat.le_refl _) _
   have b3V := b3.trans (bV.mono b3.size)
   have b4 := HB2.out.1.trans (b3V.mono HB2.out.1.size)
   by_cases hi0 : i < 0
   ·have FIN := hide b4
    clear HM HB2 b3 hA hl bV b3V b4 KM
    go_wp2
    go_ret
    exact ⟨rfl, FIN.out⟩
   ·obtain ⟨j, rfl⟩ : ∃ j : Nat, i = (j : Int) := ⟨i.toNat, by omega⟩
    by_cases hi1 : (j : Int) ≥ (L.length : Int)
    ·have FIN := hide b4
     clear HM HB2 b3 hA hl bV b3V b4 KM
     go_wp2
     go_ret
     exact ⟨rfl, FIN.out⟩
    ·by_cases hlg : (s.size : Int) > 19980
     ·have FIN := hide b4
      clear HM HB2 b3 hA hl bV b3V b4 KM
      go_wp2
      go_ret
      exact ⟨rfl, FIN.out⟩
     ·have hj : j < L.length := by omega
      have hbA := blk_alloc w3 #[.int .i64 ak, .int .i64 an, .int .u64 (ab : Int), .string az, .slice aL al ac, .slice aE ae ad] 26
      have hl4 : LiesV (fun q => q < (w3.alloc (.cells #[.int .i64 ak, .int .i64 an, .int .u64 (ab : Int), .string az, .slice aL al ac, .slice aE ae ad] 26)).heap.size) 40 (w3.alloc (.cells #[.int .i64 ak, .int .i64 an, .int .u64 (ab : Int), .string az, .slice aL al ac, .slice aE ae ad] 26)) [.int .i64 ak, .int .i64 an, .int .u64 (ab : Int), .string az, .slice aL al ac, .slice aE ae ad] v := hl.kept (fun q hq => Nat.lt_of_lt_of_le hq.2 bV.size) bV.size (fun q hq _ => bV.block q hq.2)
      obtain ⟨q, o, rfl, hq, hce⟩ := HB2.out.2 (fun e => by rw [e] at hj; cases hj)
      obtain ⟨_, hat0, _⟩ := hce j hj
      have hqV : q < (w3.alloc (.cells #[.int .i64 ak, .int .i64 an, .int .u64 (ab : Int), .string az, .slice aL al ac, .slice aE ae ad] 26)).heap.size := Nat.lt_of_lt_of_le hq b3V.size
      have hat : (w3.alloc (.cells #[.int .i64 ak, .int .i64 an, .int .u64 (ab : Int), .string az, .slice aL al ac, .slice aE ae ad] 26)).cell? ⟨q, o + j * 3 + 1, none⟩ = some (.int .i64 (L[j].fro : Int)) := (b3V.cell (p := ⟨q, o + j * 3 + 1, none⟩) hq).trans hat0
      have htk : (toksL s.data.toList)[j]? = some L[j] := by rw [← HL.out]; exact List.getElem?_eq_getElem hj
      obtain ⟨_, t2, t3, _⟩ := toks.cut_at j 0 s.data.toList L[j] htk
      have hfs : L[j].fro ≤ s.size := by
       have e : s.data.toList.length = s.size := rfl
       omega
      obtain ⟨A, hAt⟩ : ∃ A : Nat, A = L[j].fro := ⟨_, rfl⟩
      rw [← hAt] at hat hfs
      have HG := hide (And.intro b4 (And.intro hbA (And.intro hl4 (And.intro hA (And.intro htk (And.intro hAt hqV))))))
      have hjI : (j : Int) < (L.length : Int) := by omega
      have hAI : (A : Int) ≤ (s.size : Int) := by omega
      clear HM HB2 b3 hA hl bV b3V b4 hbA hl4 hq hce hat0 htk t2 t3 hAt hqV hi0 hi1 hcap
      obtain ⟨bA, hbAe⟩ : ∃ bA, bA = w3.heap.size := ⟨_, rfl⟩
      generalize hP : w3.alloc (.cells #[.int .i64 ak, .int .i64 an, .int .u64 (ab : Int), .string az, .slice aL al ac, .slice aE ae ad] 26) = P at HG hat
      rw [← hbAe] at HG ⊢
      clear hP hbAe
      have bS : Below P.heap.size P (P.alloc (.cells #[.string ⟨#[32]⟩, .string ⟨#[10]⟩, .string ⟨#[9, 13]⟩, .string ⟨#[47, 42, 32, 44, 32, 42, 47]⟩, .string ⟨#[35, 32, 125, 10]⟩] 9)) := (Below.refl _ P).alloc (Nat.le_refl _) _
      have hSS := blk_alloc P #[.string ⟨#[32]⟩, .string ⟨#[10]⟩, .string ⟨#[9, 13]⟩, .string ⟨#[47, 42, 32, 44, 32, 42, 47]⟩, .string ⟨#[35, 32, 125, 10]⟩] 9
      have s0 := hSS.cell 0 _ rfl
      have s1 := hSS.cell 1 _ rfl
      have s2 := hSS.cell 2 _ rfl
      have s3 := hSS.cell 3 _ rfl
      have s4 := hSS.cell 4 _ rfl
      have hat2 : (P.alloc (.cells #[.string ⟨#[32]⟩, .string ⟨#[10]⟩, .string ⟨#[9, 13]⟩, .string ⟨#[47, 42, 32, 44, 32, 42, 47]⟩, .string ⟨#[35, 32, 125, 10]⟩] 9)).cell? ⟨q, o + j * 3 + 1, none⟩ = some (.int .i64 (A : Int)) := (bS.cell (p := ⟨q, o + j * 3 + 1, none⟩) HG.out.2.2.2.2.2.2).trans hat
      obtain ⟨x, sk, hxE, zx⟩ : ∃ x : ByteArray, (P.alloc (.cells #[.string ⟨#[32]⟩, .string ⟨#[10]⟩, .string ⟨#[9, 13]⟩, .string ⟨#[47, 42, 32, 44, 32, 42, 47]⟩, .string ⟨#[35, 32, 125, 10]⟩] 9)).cell? ⟨P.heap.size, k, none⟩ = some (.string x) ∧ Extra x.data.toList ∧ x.size ≤ 7 := by
       have hk' : k = 1 ∨ k = 2 ∨ k = 3 ∨ k = 4 := by omega
       rcases hk' with rfl | rfl | rfl | rfl
       ·exact ⟨_, s1, .inr (.inl rfl), by decide⟩
       ·exact ⟨_, s2, .inr (.inr (.inl rfl)), by decide⟩
       ·exact ⟨_, s3, .inr (.inr (.inr (.inl rfl))), by decide⟩
       ·exact ⟨_, s4, .inr (.inr (.inr (.inr rfl))), by decide⟩
      have HXE := hide hxE
      clear hxE s1 s2 s3 s4
      have HG2 := hide bS
      clear bS hSS
      go_upto_region 13 with fail
      clear s0 sk hat
      generalize hW0 : P.alloc (.cells #[.string ⟨#[32]⟩, .string ⟨#[10]⟩, .string ⟨#[9, 13]⟩, .string ⟨#[47, 42, 32, 44, 32, 42, 47]⟩, .string ⟨#[35, 32, 125, 10]⟩] 9) = W0 at HG2 hat2
      clear hW0
      obtain ⟨b4, hbA, hl4, hA, htk, hAt, hqP⟩ := HG.out
      have b5 := b4.trans (HG2.out.mono b4.size)
      have hbA0 := hbA.below HG2.out
      have hl0 : LiesV (fun q => q < W0.heap.size) 40 W0 [.int .i64 ak, .int .i64 an, .int .u64 (ab : Int), .string az, .slice aL al ac, .slice aE ae ad] v := hl4.kept (fun q hq => Nat.lt_of_lt_of_le hq HG2.out.size) HG2.out.size (fun q hq _ => HG2.out.block q hq)
      obtain ⟨S1, hS1⟩ : ∃ S1 : ByteArray, S1 = s.extract 0 A := ⟨_, rfl⟩
      obtain ⟨S2, hS2⟩ : ∃ S2 : ByteArray, S2 = s.extract A s.size := ⟨_, rfl⟩
      obtain ⟨Y, hY⟩ : ∃ Y : ByteArray, Y = S1 ++ x := ⟨_, rfl⟩
      obtain ⟨X, hX⟩ : ∃ X : ByteArray, X = Y ++ S2 := ⟨_, rfl⟩
      have z1 : S1.size ≤ 20000 := by rw [hS1]; simp; omega
      have z2 : S2.size ≤ 20000 := by rw [hS2]; simp; omega
      have z3 : Y.size ≤ 20010 := by rw [hY, ByteArray.size_append]; omega
      have e1 := sliceF s A (A : Int) rfl hfs
      have e2 := sliceB s A (A : Int) rfl hfs
      have e3 := catM S1 x (by omega)
      have e4 := catM Y S2 (by omega)
      rw [← hS1] at e1
      rw [← hS2] at e2
      rw [← hY] at e3
      rw [← hX] at e4
      have hXl : X.data.toList = s.data.toList.take A ++ (x.data.toList ++ s.data.toList.drop A) := by
       rw [hX, catM_list, hY, catM_list, hS1, hS2, ext_frontM, ext_rearM, List.append_assoc]
      have hXs : X.size ≤ 20000 := by
       have e5 : X.data.toList.length = X.size := rfl
       have e6 : s.data.toList.length = s.size := rfl
       have e7 : x.data.toList.length = x.size := rfl
       rw [← e5, hXl]
       simp only [List.length_append, List.length_take, List.length_drop]
       omega
      obtain ⟨_, gs, fs⟩ := gr_ans hA
      have hXA : MeanAns X (.inl v) := (ans_gr hXs (by rw [hXl, hAt, sol_insert (gr_fine gs) htk HXE.out]; exact gs)).1 fs
      have hn : nodesV 40 v ≤ 3000000 := by
       have := (good_sizes hl0.isV fs).2
       omega
      obtain ⟨J, hJ⟩ : ∃ J : World → Prop, J = Below W0.heap.size W0 := ⟨_, rfl⟩
      have jn : ∀ W W', J W → Below W.heap.size W W' → J W' := fun W W' h hb => by rw [hJ] at h ⊢; exact h.trans (hb.mono h.size)
      have jq : ∀ W W', J W → Below W0.heap.size W W' → J W' := fun W W' h hb => by rw [hJ] at h ⊢; exact h.trans hb
      have jb : ∀ W, J W → Below w.heap.size w W := fun W h => by rw [hJ] at h; exact b5.trans (h.mono b5.size)
      have jA : ∀ W, J W → Blk W bA #[.int .i64 ak, .int .i64 an, .int .u64 (ab : Int), .string az, .slice aL al ac, .slice aE ae ad] 26 := fun W h => by rw [hJ] at h; exact hbA0.below h
      have jl : ∀ W, J W → LiesV (fun q => q < W.heap.size) 40 W [.int .i64 ak, .int .i64 an, .int .u64 (ab : Int), .string az, .slice aL al ac, .slice aE ae ad] v := fun W h => by rw [hJ] at h; exact hl0.kept (fun q hq => Nat.lt_of_lt_of_le hq h.size) h.size (fun q hq _ => h.block q hq)
      have K1 : ∀ W, Hid (J W → Calls Tryz.prog 11 #[.string X] W fun e w' => (∃ (xk xn : Int) (xb : Nat) (xz : ByteArray) (xL : Option Addr) (xl xc : Nat) (xE : Option Addr) (xe xd : Nat), e = .returned (.tuple #[.agg #[.int .i64 xk, .int .i64 xn, .int .u64 (xb : Int), .string xz, .slice xL xl xc, .slice xE xe xd], .int .i64 0, .int .i64 0]) ∧ LiesV (fun q => W.heap.size ≤ q ∧ q < w'.heap.size) 40 w' [.int .i64 xk, .int .i64 xn, .int .u64 (xb : Int), .string xz, .slice xL xl xc, .slice xE xe xd] v) ∧ J w' ∧ Below W.heap.size W w') := fun W h => (mean_is hXA (KM.out W X (jb W h))).mono fun e w' ⟨⟨xk, xn, xb, xz, xL, xl, xc, xE, xe, xd, e1, e2⟩, e3⟩ => ⟨⟨xk, xn, xb, xz, xL, xl, xc, xE, xe, xd, e1, e2⟩, jn W w' h e3, e3⟩
      have J0 : J W0 := by rw [hJ]; exact Below.refl _ _
      have JZ : J (W0.alloc (.cells #[.int .i64 0, .int .i64 0, .int .u64 0, .string ⟨#[]⟩, .slice none 0 0, .slice none 0 0] 26)) := jn _ _ J0 ((Below.refl _ W0).alloc (Nat.le_refl _) _)
      have hat3 : (W0.alloc (.cells #[.int .i64 0, .int .i64 0, .int .u64 0, .string ⟨#[]⟩, .slice none 0 0, .slice none 0 0] 26)).cell? ⟨q, o + j * 3 + 1, none⟩ = some (.int .i64 (A : Int)) := (((Below.refl _ W0).alloc (Nat.le_refl _) (.cells #[.int .i64 0, .int .i64 0, .int .u64 0, .string ⟨#[]⟩, .slice none 0 0, .slice none 0 0] 26)).cell (p := ⟨q, o + j * 3 + 1, none⟩) (World.block_lt_of_cell? W0 _ hat2)).trans hat2
      have HJ := hide (And.intro jn (And.intro jb (And.intro jA (And.intro jl (And.intro hn jq)))))
      have HJ0 : Hid (J W0.drew ∧ J (W0.alloc (.cells #[.int .i64 0, .int .i64 0, .int .u64 0, .string ⟨#[]⟩, .slice none 0 0, .slice none 0 0] 26)).drew) := hide ⟨jn _ _ J0 ⟨rfl, rfl, rfl, Nat.le_refl _, fun _ _ => rfl⟩, jn _ _ JZ ⟨rfl, rfl, rfl, Nat.le_refl _, fun _ _ => rfl⟩⟩
      have HZ0 := hide (blk_alloc W0 #[.int .i64 0, .int .i64 0, .int .u64 0, .string ⟨#[]⟩, .slice none 0 0, .slice none 0 0] 26)
      clear b4 hbA hl4 hA htk hAt hqP b5 hbA0 hl0 hS1 hS2 hY hX z1 z2 z3 zx hXl hXs gs fs hXA hn hJ jn jq jb jA jl J0 JZ HG HG2 KM HL
      go_region_with (first
       | (go_at_call 11; refine (unhide (K1 W0.drew) HJ0.out.1).mono ?_; rintro e w5 ⟨⟨xk, xn, xb, xz, xL, xl, xc, xE, xe, xd, rfl, hlx⟩, j5, b5⟩; have zA := blk_alloc w5 #[.int .i64 0, .int .i64 0, .int .u64 0, .string ⟨#[]⟩, .slice none 0 0, .slice none 0 0] 26; have z0 := zA.cell 0 _ rfl; have y0 := Blk.froz zA 0; have z1 := zA.cell 1 _ rfl; have y1 := Blk.froz zA 1; have z2 := zA.cell 2 _ rfl; have y2 := Blk.froz zA 2; have z3 := zA.cell 3 _ rfl; have y3 := Blk.froz zA 3; have z4 := zA.cell 4 _ rfl; have y4 := Blk.froz zA 4; have z5 := zA.cell 5 _ rfl; have y5 := Blk.froz zA 5)
       | (go_at_call 11; refine (unhide (K1 (W0.alloc (.cells #[.int .i64 0, .int .i64 0, .int .u64 0, .string ⟨#[]⟩, .slice none 0 0, .slice none 0 0] 26)).drew) HJ0.out.2).mono ?_; rintro e w5 ⟨⟨xk, xn, xb, xz, xL, xl, xc, xE, xe, xd, rfl, hlx⟩, j5, b5⟩; have zB := (blk_drewM HZ0.out).below b5; have z0 := zB.cell 0 _ rfl; have y0 := Blk.froz zB 0; have z1 := zB.cell 1 _ rfl; have y1 := Blk.froz zB 1; have z2 := zB.cell 2 _ rfl; have y2 := Blk.froz zB 2; have z3 := zB.cell 3 _ rfl; have y3 := Blk.froz zB 3; have z4 := zB.cell 4 _ rfl; have y4 := Blk.froz zB 4; have z5 := zB.cell 5 _ rfl; have y5 := Blk.froz zB 5))
      all_goals first
      | (
       obtain ⟨jn, jb, jA, jl, hn, jq⟩ := HJ.out
       have bV : Below w5.heap.size w5 (w5.alloc (.cells #[.int .i64 xk, .int .i64 xn, .int .u64 (xb : Int), .string xz, .slice xL xl xc, .slice xE xe xd] 26)) := (Below.refl _ w5).alloc (Nat.le_refl _) _
       have j6 := jn _ _ j5 bV
       have hbX := blk_alloc w5 #[.int .i64 xk, .int .i64 xn, .int .u64 (xb : Int), .string xz, .slice xL xl xc, .slice xE xe xd] 26
       have hlx6 : LiesV (fun q => q < (w5.alloc (.cells #[.int .i64 xk, .int .i64 xn, .int .u64 (xb : Int), .string xz, .slice xL xl xc, .slice xE xe xd] 26)).heap.size) 40 (w5.alloc (.cells #[.int .i64 xk, .int .i64 xn, .int .u64 (xb : Int), .string xz, .slice xL xl xc, .slice xE xe xd] 26)) [.int .i64 xk, .int .i64 xn, .int .u64 (xb : Int), .string xz, .slice xL xl xc, .slice xE xe xd] v := hlx.kept (fun q hq => Nat.lt_of_lt_of_le hq.2 bV.size) bV.size (fun q hq _ => bV.block q hq.2)
       have HS := hide (sameM_any 40 _ v v _ _ _ _ _ _ _ _ _ _ _ _ (jl _ j6) hlx6 hn true (by rw [(cmpV_ord 40).refl hlx6.isV]; rfl))
       have FIN := hide (jb _ j6)
       have a0 := (jA _ j6).cell 0 _ rfl
       have a1 := (jA _ j6).cell 1 _ rfl
       have a2 := (jA _ j6).cell 2 _ rfl
       have a3 := (jA _ j6).cell 3 _ rfl
       have a4 := (jA _ j6).cell 4 _ rfl
       have a5 := (jA _ j6).cell 5 _ rfl
       have x0 := hbX.cell 0 _ rfl
       have x1 := hbX.cell 1 _ rfl
       have x2 := hbX.cell 2 _ rfl
       have x3 := hbX.cell 3 _ rfl
       have x4 := hbX.cell 4 _ rfl
       have x5 := hbX.cell 5 _ rfl
       clear z0 z1 z2 z3 z4 z5 y0 y1 y2 y3 y4 y5 zA jn jb jA jl hn jq bV j6 hbX hlx6 hlx j5 b5 K1 hat2 hat3 HJ HJ0 HZ0 e1 e2 e3 e4
       simp only [List.getElem_toArray, List.getElem_cons_succ, List.getElem_cons_zero]
       go_wp2_with (go_at_call 16; refine (unhide HS).mono ?_; rintro e w9 ⟨rfl, b9⟩)
       go_ret
       exact ⟨rfl, FIN.out.trans (b9.mono FIN.out.size)⟩)
      | (
       obtain ⟨jn, jb, jA, jl, hn, jq⟩ := HJ.out
       have hF : Below W0.heap.size w5 (put6 w5 W0.heap.size (.int .i64 xk) (.int .i64 xn) (.int .u64 (xb : Int)) (.string xz) (.slice xL xl xc) (.slice xE xe xd)) := below_put6 (Below.refl W0.heap.size w5) (b := W0.heap.size) (Nat.le_refl _) (.int .i64 xk) (.int .i64 xn) (.int .u64 (xb : Int)) (.string xz) (.slice xL xl xc) (.slice xE xe xd)
       have hPB := put6_blk zB (.int .i64 xk) (.int .i64 xn) (.int .u64 (xb : Int)) (.string xz) (.slice xL xl xc) (.slice xE xe xd)
       have hPO := fun q hq => put6_otherM w5 W0.heap.size q hq (.int .i64 xk) (.int .i64 xn) (.int .u64 (xb : Int)) (.string xz) (.slice xL xl xc) (.slice xE xe xd)
       obtain ⟨Y, hYe⟩ : ∃ Y, Y = put6 w5 W0.heap.size (.int .i64 xk) (.int .i64 xn) (.int .u64 (xb : Int)) (.string xz) (.slice xL xl xc) (.slice xE xe xd) := ⟨_, rfl⟩
       rw [← hYe] at hF hPB hPO
       simp only [put6] at hYe
       have j6 := jq _ _ j5 hF
       have hbX : Blk Y W0.heap.size #[.int .i64 xk, .int .i64 xn, .int .u64 (xb : Int), .string xz, .slice xL xl xc, .slice xE xe xd] 26 := hPB
       have hlx6 : LiesV (fun q => q < Y.heap.size) 40 Y [.int .i64 xk, .int .i64 xn, .int .u64 (xb : Int), .string xz, .slice xL xl xc, .slice xE xe xd] v := hlx.kept (fun q hq => Nat.lt_of_lt_of_le hq.2 hF.size) hF.size (fun q hq _ => hPO q (fun e => by
        have := hq.1
        rw [e] at this
        have e2 : (W0.alloc (.cells #[.int .i64 0, .int .i64 0, .int .u64 0, .string ⟨#[]⟩, .slice none 0 0, .slice none 0 0] 26)).drew.heap.size = W0.heap.size + 1 := by show (W0.alloc _).heap.size = _; simp
        omega))
       have HS := hide (sameM_any 40 _ v v _ _ _ _ _ _ _ _ _ _ _ _ (jl _ j6) hlx6 hn true (by rw [(cmpV_ord 40).refl hlx6.isV]; rfl))
       have FIN := hide (jb _ j6)
       have a0 := (jA _ j6).cell 0 _ rfl
       have a1 := (jA _ j6).cell 1 _ rfl
       have a2 := (jA _ j6).cell 2 _ rfl
       have a3 := (jA _ j6).cell 3 _ rfl
       have a4 := (jA _ j6).cell 4 _ rfl
       have a5 := (jA _ j6).cell 5 _ rfl
       have x0 := hbX.cell 0 _ rfl
       have x1 := hbX.cell 1 _ rfl
       have x2 := hbX.cell 2 _ rfl
       have x3 := hbX.cell 3 _ rfl
       have x4 := hbX.cell 4 _ rfl
       have x5 := hbX.cell 5 _ rfl
       rw [← hYe]
       clear z0 z1 z2 z3 z4 z5 y0 y1 y2 y3 y4 y5 zB jn jb jA jl hn jq j6 hbX hlx6 hlx j5 b5 K1 hat2 hat3 HJ HJ0 HZ0 e1 e2 e3 e4 hF hPB hPO hYe
       simp only [List.getElem_toArray, List.getElem_cons_succ, List.getElem_cons_zero]
       go_wp2_with (go_at_call 16; refine (unhide HS).mono ?_; rintro e w9 ⟨rfl, b9⟩)
       go_ret
       exact ⟨rfl, FIN.out.trans (b9.mono FIN.out.size)⟩)
      | (trace_state; fail)
  ·have g1 : (p2 != 0) = true := bne_iff_ne.2 (ans_place hA).2
   have FIN := hide (HB2.out.1.trans ((b3.trans (((Below.refl _ w3).alloc (Nat.le_refl _) (.cells #[.int .i64 0, .int .i64 0, .int .u64 0, .string ⟨#[]⟩, .slice none 0 0, .slice none 0 0] 26)).mono b3.size)).mono HB2.out.1.size))
   clear HB2 HM b3 hA KM
   go_wp2
   go_ret
   exact ⟨rfl, FIN.out⟩
end Go.Proofs.YtnbfnjhbmeocfaaGreatDoor.valus
namespace Go.Proofs.YtnbfnjhbmeocfaaGreatDoor.valus
open Go.RowKit Go.Shelf
open toks (MaxOk toksL)
theorem lawMeanBlank (w : World) (s : ByteArray) (i which : Int) (hM : MaxOk w) (hT : Lib.Utf8Tabs 1 2 w) :
  Calls Tryz.prog 4 #[.string s, .int .i64 i, .int .i64 which] w fun e w' => e = .returned (.bool true) ∧ Below w.heap.size w w' := by
 by_cases h0 : which ≤ 0
 ·exact blank_neg w s i which hM hT h0
 ·by_cases h5 : 5 ≤ which
  ·exact blank_big w s i which hM hT h5
  ·obtain ⟨k, hk⟩ : ∃ k : Nat, which = (k : Int) := ⟨which.toNat, by omega⟩
   exact blank_mid w s i which hM hT k hk (by omega)
end Go.Proofs.YtnbfnjhbmeocfaaGreatDoor.valus
