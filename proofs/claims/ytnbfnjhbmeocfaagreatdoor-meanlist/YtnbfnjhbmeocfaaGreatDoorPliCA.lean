/- Of our texts, what this claim reaches. -/
import Derived.Test.YtnbfnjhbmeocfaaGreatDoorPliBU
import Derived.Test.YtnbfnjhbmeocfaaGreatDoorPliBZ
set_option linter.unusedVariables false
set_option maxHeartbeats 8000000
set_option maxRecDepth 100000
namespace Go.Proofs.YtnbfnjhbmeocfaaGreatDoor.valus
open Go.RowKit Go.Shelf
open toks (MaxOk)
theorem catM (a b : ByteArray) (h : a.size + b.size ≤ 1000000) (u : World) : (Op.stringOp .add a b).run Tryz.prog u = .ok (.string (a ++ b)) u := run_string_add_sum _ _ _ (by omega)
theorem catM_list (a b : ByteArray) : (a ++ b).data.toList = a.data.toList ++ b.data.toList := by simp
theorem mean_is {s : ByteArray} {v : V} {w : World} (hA : MeanAns s (.inl v)) (h : Calls Tryz.prog 11 #[.string s] w (MeanW s w)) : Calls Tryz.prog 11 #[.string s] w fun e w' => (∃ (xk xn : Int) (xb : Nat) (xz : ByteArray) (xL : Option Addr) (xl xc : Nat) (xE : Option Addr) (xe xd : Nat), e = .returned (.tuple #[.agg #[.int .i64 xk, .int .i64 xn, .int .u64 (xb : Int), .string xz, .slice xL xl xc, .slice xE xe xd], .int .i64 0, .int .i64 0]) ∧ LiesV (fun q => w.heap.size ≤ q ∧ q < w'.heap.size) 40 w' [.int .i64 xk, .int .i64 xn, .int .u64 (xb : Int), .string xz, .slice xL xl xc, .slice xE xe xd] v) ∧ Below w.heap.size w w' :=
 h.mono fun e w' ⟨h1, h2⟩ => ⟨by
  rcases h1 with ⟨xk, xn, xb, xz, xL, xl, xc, xE, xe, xd, u, h3, h4, h5⟩ | ⟨pq, _, h4⟩
  ·have e2 := meanAns_unique h4 hA
   injection e2 with e2
   subst e2
   exact ⟨xk, xn, xb, xz, xL, xl, xc, xE, xe, xd, h3, h5⟩
  ·exact absurd (meanAns_unique h4 hA) (by simp), h2⟩
theorem mean_isnt {s : ByteArray} {w : World} (hA : ∀ v, ¬ MeanAns s (.inl v)) (h : Calls Tryz.prog 11 #[.string s] w (MeanW s w)) : Calls Tryz.prog 11 #[.string s] w fun e w' => (∃ p1 p2 : Int, e = .returned (.tuple #[.agg #[.int .i64 0, .int .i64 0, .int .u64 0, .string ⟨#[]⟩, .slice none 0 0, .slice none 0 0], .int .i64 p1, .int .i64 p2]) ∧ (p2 != 0) = true) ∧ Below w.heap.size w w' :=
 h.mono fun e w' ⟨h1, h2⟩ => ⟨by
  rcases h1 with ⟨xk, xn, xb, xz, xL, xl, xc, xE, xe, xd, u, h3, h4, h5⟩ | ⟨pq, h3, h4⟩
  ·exact absurd h4 (hA u)
  ·exact ⟨pq.1, pq.2, h3, bne_iff_ne.2 (ans_place h4).2⟩, h2⟩
theorem both_lies {W : World} {C : Nat} {v u : V} (ak an : Int) (ab : Nat) (az : ByteArray) (aL : Option Addr) (al ac : Nat) (aE : Option Addr) (ae ad : Nat) (ck cn : Int) (cb : Nat) (cz : ByteArray) (cL : Option Addr) (cl cc : Nat) (cE : Option Addr) (ce cd : Nat) (hC : Blk W C #[.int .i64 ak, .int .i64 an, .int .u64 (ab : Int), .string az, .slice aL al ac, .slice aE ae ad, .int .i64 ck, .int .i64 cn, .int .u64 (cb : Int), .string cz, .slice cL cl cc, .slice cE ce cd] 26) (hv : LiesV (fun q => q < W.heap.size) 40 W [.int .i64 ak, .int .i64 an, .int .u64 (ab : Int), .string az, .slice aL al ac, .slice aE ae ad] v) (hu : LiesV (fun q => q < W.heap.size) 40 W [.int .i64 ck, .int .i64 cn, .int .u64 (cb : Int), .string cz, .slice cL cl cc, .slice cE ce cd] u) : LiesV (fun q => q < W.heap.size) 41 W [.int .i64 5, .int .i64 0, .int .u64 0, .string ⟨#[]⟩, .slice (some ⟨C, 0, none⟩) 2 2, .slice none 0 0] (bothV v u) := by
 refine ⟨5, 0, 0, ⟨#[]⟩, [v, u], [], some ⟨C, 0, none⟩, none, 2, 0, rfl, rfl, ⟨by decide, by decide, by decide, Nat.zero_le _⟩, ⟨Nat.le_refl _, by decide, Nat.le_refl _, Nat.zero_le _⟩, fun _ => ⟨C, 0, rfl, hC.lt, hC.lt, fun j hj => ?_⟩, fun h => absurd rfl h⟩
 have hj' : j = 0 ∨ j = 1 := by simp at hj; omega
 rcases hj' with rfl | rfl
 ·refine ⟨_, rfl, fun i hi => ?_, v, rfl, hv⟩
  have hi' : i = 0 ∨ i = 1 ∨ i = 2 ∨ i = 3 ∨ i = 4 ∨ i = 5 := by omega
  rcases hi' with rfl | rfl | rfl | rfl | rfl | rfl
  ·exact hC.cell 0 _ rfl
  ·exact hC.cell 1 _ rfl
  ·exact hC.cell 2 _ rfl
  ·exact hC.cell 3 _ rfl
  ·exact hC.cell 4 _ rfl
  ·exact hC.cell 5 _ rfl
 ·refine ⟨_, rfl, fun i hi => ?_, u, rfl, hu⟩
  have hi' : i = 0 ∨ i = 1 ∨ i = 2 ∨ i = 3 ∨ i = 4 ∨ i = 5 := by omega
  rcases hi' with rfl | rfl | rfl | rfl | rfl | rfl
  ·exact hC.cell 6 _ rfl
  ·exact hC.cell 7 _ rfl
  ·exact hC.cell 8 _ rfl
  ·exact hC.cell 9 _ rfl
  ·exact hC.cell 10 _ rfl
  ·exact hC.cell 11 _ rfl
theorem table_lies {W : World} {C : Nat} {v u : V} (ak an : Int) (ab : Nat) (az : ByteArray) (aL : Option Addr) (al ac : Nat) (aE : Option Addr) (ae ad : Nat) (ck cn : Int) (cb : Nat) (cz : ByteArray) (cL : Option Addr) (cl cc : Nat) (cE : Option Addr) (ce cd : Nat) (hC : Blk W C #[.string ⟨#[97]⟩, .int .i64 ck, .int .i64 cn, .int .u64 (cb : Int), .string cz, .slice cL cl cc, .slice cE ce cd, .string ⟨#[98]⟩, .int .i64 ak, .int .i64 an, .int .u64 (ab : Int), .string az, .slice aL al ac, .slice aE ae ad] 44) (hv : LiesV (fun q => q < W.heap.size) 40 W [.int .i64 ak, .int .i64 an, .int .u64 (ab : Int), .string az, .slice aL al ac, .slice aE ae ad] v) (hu : LiesV (fun q => q < W.heap.size) 40 W [.int .i64 ck, .int .i64 cn, .int .u64 (cb : Int), .string cz, .slice cL cl cc, .slice cE ce cd] u) : LiesV (fun q => q < W.heap.size) 41 W [.int .i64 6, .int .i64 0, .int .u64 0, .string ⟨#[]⟩, .slice none 0 0, .slice (some ⟨C, 0, none⟩) 2 2] (tableV v u) := by
 refine ⟨6, 0, 0, ⟨#[]⟩, [], [ent [97] u, ent [98] v], none, some ⟨C, 0, none⟩, 0, 2, rfl, rfl, ⟨by decide, by decide, by decide, Nat.zero_le _⟩, ⟨Nat.le_refl _, Nat.zero_le _, Nat.le_refl _, by decide⟩, fun h => absurd rfl h, fun _ => ⟨C, 0, rfl, hC.lt, hC.lt, fun j hj => ?_⟩⟩
 have hj' : j = 0 ∨ j = 1 := by simp at hj; omega
 rcases hj' with rfl | rfl
 ·refine ⟨_, rfl, fun i hi => ?_, ⟨#[97]⟩, u, [.int .i64 ck, .int .i64 cn, .int .u64 (cb : Int), .string cz, .slice cL cl cc, .slice cE ce cd], rfl, rfl, by decide, hu⟩
  have hi' : i = 0 ∨ i = 1 ∨ i = 2 ∨ i = 3 ∨ i = 4 ∨ i = 5 ∨ i = 6 := by omega
  rcases hi' with rfl | rfl | rfl | rfl | rfl | rfl | rfl
  ·exact hC.cell 0 _ rfl
  ·exact hC.cell 1 _ rfl
  ·exact hC.cell 2 _ rfl
  ·exact hC.cell 3 _ rfl
  ·exact hC.cell 4 _ rfl
  ·exact hC.cell 5 _ rfl
  ·exact hC.cell 6 _ rfl
 ·refine ⟨_, rfl, fun i hi => ?_, ⟨#[98]⟩, v, [.int .i64 ak, .int .i64 an, .int .u64 (ab : Int), .string az, .slice aL al ac, .slice aE ae ad], rfl, rfl, by decide, hv⟩
  have hi' : i = 0 ∨ i = 1 ∨ i = 2 ∨ i = 3 ∨ i = 4 ∨ i = 5 ∨ i = 6 := by omega
  rcases hi' with rfl | rfl | rfl | rfl | rfl | rfl | rfl
  ·exact hC.cell 7 _ rfl
  ·exact hC.cell 8 _ rfl
  ·exact hC.cell 9 _ rfl
  ·exact hC.cell 10 _ rfl
  ·exact hC.cell 11 _ rfl
  ·exact hC.cell 12 _ rfl
  ·exact hC.cell 13 _ rfl
theorem lawMeanList (w : World) (s t : ByteArray) (hM : MaxOk w) (hT : Lib.Utf8Tabs 1 2 w) :
  Calls Tryz.prog 5 #[.string s, .string t] w fun e w' => e = .returned (.bool true) ∧ Below w.heap.size w w' := by
 have K0 := hide (means_any w hM hT)
 have KM : Hid (∀ (v : World) (x : ByteArray), Below w.heap.size w v → Calls Tryz.prog 11 #[.string x] v (MeanW x v)) := hide fun v x hb => mean_any v x (hM.below (Nat.le_refl _) hb) (Utf8Tabs_below hT hb)
 have HT := hide hT
 clear hM hT
 go_enter Tryz.func5, Tryz.ntmps5
 go_upto_region 3 with (go_at_call 14; refine (unhide K0).mono ?_; rintro e w1 ⟨rfl, b1⟩)
 have HC := hide (KM.out w1 s b1)
 have HB1 := hide b1
 clear b1 K0
 go_upto_region 4 with (go_at_call 11; refine (unhide HC).mono ?_; rintro e w2 ⟨hres, b2⟩; rcases hres with ⟨ak, an, ab, az, aL, al, ac, aE, ae, ad, v, rfl, hA, hl⟩ | ⟨⟨p1, p2⟩, rfl, hA⟩)
 ·have b12 := HB1.out.trans (b2.mono HB1.out.size)
  have bV : Below w2.heap.size w2 (w2.alloc (.cells #[.int .i64 ak, .int .i64 an, .int .u64 (ab : Int), .string az, .slice aL al ac, .slice aE ae ad] 26)) := (Below.refl _ w2).alloc (Nat.le_refl _) _
  have hbA := blk_alloc w2 #[.int .i64 ak, .int .i64 an, .int .u64 (ab : Int), .string az, .slice aL al ac, .slice aE ae ad] 26
  have hl2 : LiesV (fun q => q < (w2.alloc (.cells #[.int .i64 ak, .int .i64 an, .int .u64 (ab : Int), .string az, .slice aL al ac, .slice aE ae ad] 26)).heap.size) 40 (w2.alloc (.cells #[.int .i64 ak, .int .i64 an, .int .u64 (ab : Int), .string az, .slice aL al ac, .slice aE ae ad] 26)) [.int .i64 ak, .int .i64 an, .int .u64 (ab : Int), .string az, .slice aL al ac, .slice aE ae ad] v := hl.kept (fun q hq => Nat.lt_of_lt_of_le hq.2 bV.size) bV.size (fun q hq _ => bV.block q hq.2)
  have HG := hide (And.intro (b12.trans (bV.mono b12.size)) (And.intro hbA (And.intro hl2 hA)))
  clear b12 bV hbA hl2 hl hA b2 HC HB1
  obtain ⟨bA, hbAe⟩ : ∃ bA, bA = w2.heap.size := ⟨_, rfl⟩
  generalize hW2 : w2.alloc (.cells #[.int .i64 ak, .int .i64 an, .int .u64 (ab : Int), .string az, .slice aL al ac, .slice aE ae ad] 26) = W2 at HG
  rw [← hbAe] at HG ⊢
  clear hW2 hbAe
  have HC := hide (KM.out W2 t HG.out.1)
  go_upto_region 5 with (go_at_call 11; refine (unhide HC).mono ?_; rintro e w3 ⟨hres, b3⟩; rcases hres with ⟨ck, cn, cb, cz, cL, cl, cc, cE, ce, cd, u, rfl, hA2, hl3⟩ | ⟨⟨p1, p2⟩, rfl, hA2⟩)
  ·obtain ⟨b02, hbA, hl2, hA⟩ := HG.out
   have g1 := gr_ans hA
   have g2 := gr_ans hA2
   have hss : s.size ≤ 20000 := g1.1
   have hts : t.size ≤ 20000 := g2.1
   by_cases hlg : 19980 < s.size + t.size
   ·have FIN := hide (b02.trans ((b3.trans (((Below.refl _ w3).alloc (Nat.le_refl _) (.cells #[.int .i64 ck, .int .i64 cn, .int .u64 (cb : Int), .string cz, .slice cL cl cc, .slice cE ce cd] 26)).mono b3.size)).mono b02.size))
    have d0 : ((s.size : Int) + (t.size : Int)) > 19980 := by omega
    clear b02 hbA hl2 hA g1 g2 HG HC b3 hl3 hA2 KM HT
    go_wp2
    go_ret
    exact ⟨rfl, FIN.out⟩
   ·have d0 : ¬ ((s.size : Int) + (t.size : Int)) > 19980 := by omega
    have bV : Below w3.heap.size w3 (w3.alloc (.cells #[.int .i64 ck, .int .i64 cn, .int .u64 (cb : Int), .string cz, .slice cL cl cc, .slice cE ce cd] 26)) := (Below.refl _ w3).alloc (Nat.le_refl _) _
    have b3V := b3.trans (bV.mono b3.size)
    have hbB := blk_alloc w3 #[.int .i64 ck, .int .i64 cn, .int .u64 (cb : Int), .string cz, .slice cL cl cc, .slice cE ce cd] 26
    have hl4 : LiesV (fun q => q < (w3.alloc (.cells #[.int .i64 ck, .int .i64 cn, .int .u64 (cb : Int), .string cz, .slice cL cl cc, .slice cE ce cd] 26)).heap.size) 40 (w3.alloc (.cells #[.int .i64 ck, .int .i64 cn, .int .u64 (cb : Int), .string cz, .slice cL cl cc, .slice cE ce cd] 26)) [.int .i64 ck, .int .i64 cn, .int .u64 (cb : Int), .string cz, .slice cL cl cc, .slice cE ce cd] u := hl3.kept (fun q hq => Nat.lt_of_lt_of_le hq.2 bV.size) bV.size (fun q hq _ => bV.block q hq.2)
    have hl5 : LiesV (fun q => q < (w3.alloc (.cells #[.int .i64 ck, .int .i64 cn, .int .u64 (cb : Int), .string cz, .slice cL cl cc, .slice cE ce cd] 26)).heap.size) 40 (w3.alloc (.cells #[.int .i64 ck, .int .i64 cn, .int .u64 (cb : Int), .string cz, .slice cL cl cc, .slice cE ce cd] 26)) [.int .i64 ak, .int .i64 an, .int .u64 (ab : Int), .string az, .slice aL al ac, .slice aE ae ad] v := hl2.kept (fun q hq => Nat.lt_of_lt_of_le hq b3V.size) b3V.size (fun q hq _ => b3V.block q hq)
    have HG2 := hide (And.intro (b02.trans (b3V.mono b02.size)) (And.intro (hbA.below b3V) (And.intro hbB (And.intro hl4 (And.intro hl5 (And.intro hA hA2))))))
    clear b02 hbA hl2 hA g1 g2 HG HC b3 hl3 hA2 bV b3V hbB hl4 hl5 hlg
    obtain ⟨bB, hbBe⟩ : ∃ bB, bB = w3.heap.size := ⟨_, rfl⟩
    generalize hP : w3.alloc (.cells #[.int .i64 ck, .int .i64 cn, .int .u64 (cb : Int), .string cz, .slice cL cl cc, .slice cE ce cd] 26) = P at HG2 ⊢
    rw [← hbBe] at HG2 ⊢
    clear hP hbBe
    obtain ⟨b03, hbA, hbB, hlu, hlv, hA, hA2⟩ := HG2.out
    have va0 := hbA.cell 0 _ rfl
    have va1 := hbA.cell 1 _ rfl
    have va2 := hbA.cell 2 _ rfl
    have va3 := hbA.cell 3 _ rfl
    have va4 := hbA.cell 4 _ rfl
    have va5 := hbA.cell 5 _ rfl
    have vc0 := hbB.cell 0 _ rfl
    have vc1 := hbB.cell 1 _ rfl
    have vc2 := hbB.cell 2 _ rfl
    have vc3 := hbB.cell 3 _ rfl
    have vc4 := hbB.cell 4 _ rfl
    have vc5 := hbB.cell 5 _ rfl
    have bQ : Below P.heap.size P ((P.alloc (.cells #[.int .i64 ak, .int .i64 an, .int .u64 (ab : Int), .string az, .slice aL al ac, .slice aE ae ad, .int .i64 ck, .int .i64 cn, .int .u64 (cb : Int), .string cz, .slice cL cl cc, .slice cE ce cd] 26)).alloc (.cells #[.int .i64 5, .int .i64 0, .int .u64 0, .string ⟨#[]⟩, .slice (some ⟨P.heap.size, 0, none⟩) 2 2, .slice none 0 0] 26)) := ((Below.refl _ P).alloc (Nat.le_refl _) _).alloc (by simp) _
    have hCQ : Blk ((P.alloc (.cells #[.int .i64 ak, .int .i64 an, .int .u64 (ab : Int), .string az, .slice aL al ac, .slice aE ae ad, .int .i64 ck, .int .i64 cn, .int .u64 (cb : Int), .string cz, .slice cL cl cc, .slice cE ce cd] 26)).alloc (.cells #[.int .i64 5, .int .i64 0, .int .u64 0, .string ⟨#[]⟩, .slice (some ⟨P.heap.size, 0, none⟩) 2 2, .slice none 0 0] 26)) P.heap.size #[.int .i64 ak, .int .i64 an, .int .u64 (ab : Int), .string az, .slice aL al ac, .slice aE ae ad, .int .i64 ck, .int .i64 cn, .int .u64 (cb : Int), .string cz, .slice cL cl cc, .slice cE ce cd] 26 := (blk_alloc P _ _).alloc _
    have hQQ : Blk ((P.alloc (.cells #[.int .i64 ak, .int .i64 an, .int .u64 (ab : Int), .string az, .slice aL al ac, .slice aE ae ad, .int .i64 ck, .int .i64 cn, .int .u64 (cb : Int), .string cz, .slice cL cl cc, .slice cE ce cd] 26)).alloc (.cells #[.int .i64 5, .int .i64 0, .int .u64 0, .string ⟨#[]⟩, .slice (some ⟨P.heap.size, 0, none⟩) 2 2, .slice none 0 0] 26)) (P.heap.size + 1) #[.int .i64 5, .int .i64 0, .int .u64 0, .string ⟨#[]⟩, .slice (some ⟨P.heap.size, 0, none⟩) 2 2, .slice none 0 0] 26 := by
     have h := blk_alloc (P.alloc (.cells #[.int .i64 ak, .int .i64 an, .int .u64 (ab : Int), .string az, .slice aL al ac, .slice aE ae ad, .int .i64 ck, .int .i64 cn, .int .u64 (cb : Int), .string cz, .slice cL cl cc, .slice cE ce cd] 26)) #[.int .i64 5, .int .i64 0, .int .u64 0, .string ⟨#[]⟩, .slice (some ⟨P.heap.size, 0, none⟩) 2 2, .slice none 0 0] 26
     rwa [World.size_alloc] at h
    have hlvQ : LiesV (fun q => q < ((P.alloc (.cells #[.int .i64 ak, .int .i64 an, .int .u64 (ab : Int), .string az, .slice aL al ac, .slice aE ae ad, .int .i64 ck, .int .i64 cn, .int .u64 (cb : Int), .string cz, .slice cL cl cc, .slice cE ce cd] 26)).alloc (.cells #[.int .i64 5, .int .i64 0, .int .u64 0, .string ⟨#[]⟩, .slice (some ⟨P.heap.size, 0, none⟩) 2 2, .slice none 0 0] 26)).heap.size) 40 ((P.alloc (.cells #[.int .i64 ak, .int .i64 an, .int .u64 (ab : Int), .string az, .slice aL al ac, .slice aE ae ad, .int .i64 ck, .int .i64 cn, .int .u64 (cb : Int), .string cz, .slice cL cl cc, .slice cE ce cd] 26)).alloc (.cells #[.int .i64 5, .int .i64 0, .int .u64 0, .string ⟨#[]⟩, .slice (some ⟨P.heap.size, 0, none⟩) 2 2, .slice none 0 0] 26)) [.int .i64 ak, .int .i64 an, .int .u64 (ab : Int), .string az, .slice aL al ac, .slice aE ae ad] v := hlv.kept (fun q hq => Nat.lt_of_lt_of_le hq bQ.size) bQ.size (fun q hq _ => bQ.block q hq)
    have hluQ : LiesV (fun q => q < ((P.alloc (.cells #[.int .i64 ak, .int .i64 an, .int .u64 (ab : Int), .string az, .slice aL al ac, .slice aE ae ad, .int .i64 ck, .int .i64 cn, .int .u64 (cb : Int), .string cz, .slice cL cl cc, .slice cE ce cd] 26)).alloc (.cells #[.int .i64 5, .int .i64 0, .int .u64 0, .string ⟨#[]⟩, .slice (some ⟨P.heap.size, 0, none⟩) 2 2, .slice none 0 0] 26)).heap.size) 40 ((P.alloc (.cells #[.int .i64 ak, .int .i64 an, .int .u64 (ab : Int), .string az, .slice aL al ac, .slice aE ae ad, .int .i64 ck, .int .i64 cn, .int .u64 (cb : Int), .string cz, .slice cL cl cc, .slice cE ce cd] 26)).alloc (.cells #[.int .i64 5, .int .i64 0, .int .u64 0, .string ⟨#[]⟩, .slice (some ⟨P.heap.size, 0, none⟩) 2 2, .slice none 0 0] 26)) [.int .i64 ck, .int .i64 cn, .int .u64 (cb : Int), .string cz, .slice cL cl cc, .slice cE ce cd] u := hlu.kept (fun q hq => Nat.lt_of_lt_of_le hq bQ.size) bQ.size (fun q hq _ => bQ.block q hq)
    have hLB := both_lies ak an ab az aL al ac aE ae ad ck cn cb cz cL cl cc cE ce cd hCQ hlvQ hluQ
    have HG3 := hide (And.intro (b03.trans (bQ.mono b03.size)) (And.intro (hbA.below bQ) (And.intro (hbB.below bQ) (And.intro hQQ (And.intro hlvQ (And.intro hluQ (And.intro hLB (And.intro hA hA2))))))))
    clear b03 hbA hbB hlu hlv hA hA2 HG2 bQ hCQ hQQ hlvQ hluQ hLB
    go_upto_region 8 with fail
    clear va0 vc0 va1 vc1 va2 vc2 va3 vc3 va4 vc4 va5 vc5
    obtain ⟨C, hCe⟩ : ∃ C, C = P.heap.size := ⟨_, rfl⟩
    generalize hQ : (P.alloc (.cells #[.int .i64 ak, .int .i64 an, .int .u64 (ab : Int), .string az, .slice aL al ac, .slice aE ae ad, .int .i64 ck, .int .i64 cn, .int .u64 (cb : Int), .string cz, .slice cL cl cc, .slice cE ce cd] 26)).alloc (.cells #[.int .i64 5, .int .i64 0, .int .u64 0, .string ⟨#[]⟩, .slice (some ⟨P.heap.size, 0, none⟩) 2 2, .slice none 0 0] 26) = Q at HG3
    rw [← hCe] at HG3 ⊢
    clear hQ hCe
    obtain ⟨b04, hbA, hbB, hQQ, hlv, hlu, hLB, hA, hA2⟩ := HG3.out
    obtain ⟨_, gs, fs⟩ := gr_ans hA
    obtain ⟨_, gt, ft⟩ := gr_ans hA2
    obtain ⟨Y1, hY1⟩ : ∃ Y1 : ByteArray, Y1 = (⟨#[91]⟩ : ByteArray) ++ s := ⟨_, rfl⟩
    obtain ⟨Y2, hY2⟩ : ∃ Y2 : ByteArray, Y2 = Y1 ++ (⟨#[10, 44]⟩ : ByteArray) := ⟨_, rfl⟩
    obtain ⟨Y3, hY3⟩ : ∃ Y3 : ByteArray, Y3 = Y2 ++ t := ⟨_, rfl⟩
    obtain ⟨X1, hX1⟩ : ∃ X1 : ByteArray, X1 = Y3 ++ (⟨#[10, 93]⟩ : ByteArray) := ⟨_, rfl⟩
    obtain ⟨Z1, hZ1⟩ : ∃ Z1 : ByteArray, Z1 = (⟨#[123, 98, 61]⟩ : ByteArray) ++ s := ⟨_, rfl⟩
    obtain ⟨Z2, hZ2⟩ : ∃ Z2 : ByteArray, Z2 = Z1 ++ (⟨#[10, 44, 32, 34, 97, 34, 58, 32]⟩ : ByteArray) := ⟨_, rfl⟩
    obtain ⟨Z3, hZ3⟩ : ∃ Z3 : ByteArray, Z3 = Z2 ++ t := ⟨_, rfl⟩
    obtain ⟨X2, hX2⟩ : ∃ X2 : ByteArray, X2 = Z3 ++ (⟨#[10, 44, 125]⟩ : ByteArray) := ⟨_, rfl⟩
    have y1 : Y1.size = 1 + s.size := by rw [hY1, ByteArray.size_append]; rfl
    have y2 : Y2.size = Y1.size + 2 := by rw [hY2, ByteArray.size_append]; rfl
    have y3 : Y3.size = Y2.size + t.size := by rw [hY3, ByteArray.size_append]
    have y4 : X1.size = Y3.size + 2 := by rw [hX1, ByteArray.size_append]; rfl
    have z1 : Z1.size = 3 + s.size := by rw [hZ1, ByteArray.size_append]; rfl
    have z2 : Z2.size = Z1.size + 8 := by rw [hZ2, ByteArray.size_append]; rfl
    have z3 : Z3.size = Z2.size + t.size := by rw [hZ3, ByteArray.size_append]
    have z4 : X2.size = Z3.size + 3 := by rw [hX2, ByteArray.size_append]; rfl
    have c1 := catM ⟨#[91]⟩ s (by show 1 + s.size ≤ _; omega)
    have c2 := catM Y1 ⟨#[10, 44]⟩ (by show Y1.size + 2 ≤ _; omega)
    have c3 := catM Y2 t (by omega)
    have c4 := catM Y3 ⟨#[10, 93]⟩ (by show Y3.size + 2 ≤ _; omega)
    have d1 := catM ⟨#[123, 98, 61]⟩ s (by show 3 + s.size ≤ _; omega)
    have d2 := catM Z1 ⟨#[10, 44, 32, 34, 97, 34, 58, 32]⟩ (by show Z1.size + 8 ≤ _; omega)
    have d3 := catM Z2 t (by omega)
    have d4 := catM Z3 ⟨#[10, 44, 125]⟩ (by show Z3.size + 3 ≤ _; omega)
    have l1 : X1.data.toList = 91 :: (s.data.toList ++ 10 :: 44 :: (t.data.toList ++ 10 :: [93])) := by
     rw [hX1, catM_list, hY3, catM_list, hY2, catM_list, hY1, catM_list]
     simp
    have l2 : X2.data.toList = 123 :: 98 :: 61 :: (s.data.toList ++ 10 :: 44 :: 32 :: 34 :: 97 :: 34 :: 58 :: 32 :: (t.data.toList ++ 10 :: 44 :: [125])) := by
     rw [hX2, catM_list, hZ3, catM_list, hZ2, catM_list, hZ1, catM_list]
     simp
    rw [← hY1] at c1
    rw [← hY2] at c2
    rw [← hY3] at c3
    rw [← hX1] at c4
    rw [← hZ1] at d1
    rw [← hZ2] at d2
    rw [← hZ3] at d3
    rw [← hX2] at d4
    have M1 := two_means hA hA2 (by omega : X1.size ≤ 20000) (P := bothV) (by rw [l1, sol_two (gr_fine gs) (gr_fine gt)]; exact gr_two gs gt) (both_isV (gr_isV 20 _ _ gs) (gr_isV 20 _ _ gt))
    have M2 := two_means hA hA2 (by omega : X2.size ≤ 20000) (P := tableV) (by rw [l2, sol_tab (gr_fine gs) (gr_fine gt)]; exact gr_tab gs gt) (table_isV (gr_isV 20 _ _ gs) (gr_isV 20 _ _ gt))
    have hfq := two_fault (gr_isV 20 _ _ gs) (gr_isV 20 _ _ gt) fs ft
    have hI := both_isV (gr_isV 20 _ _ gs) (gr_isV 20 _ _ gt)
    have hnv := (good_sizes (gr_isV 20 _ _ gs) fs).2
    have hnu := (good_sizes (gr_isV 20 _ _ gt) ft).2
    have hnb : nodesV 41 (bothV v u) ≤ 3000000 := by
     have e1 : nodesV 41 (bothV v u) = nodesV 40 v + (nodesV 40 u + 0) + 1 := rfl
     have e2 : nodesV 40 v = nodesV 20 v := nodesV_le (gr_isV 20 _ _ gs) (by decide)
     have e3 : nodesV 40 u = nodesV 20 u := nodesV_le (gr_isV 20 _ _ gt) (by decide)
     omega
    clear gs gt fs ft y1 y2 y3 y4 z1 z2 z3 z4 l1 l2 hY1 hY2 hY3 hX1 hZ1 hZ2 hZ3 hX2 hA hA2 HG3 hnv hnu
    -- what stands in every later world
    obtain ⟨J, hJ⟩ : ∃ J : World → Prop, J = Below Q.heap.size Q := ⟨_, rfl⟩
    have jb : ∀ W, J W → Below w.heap.size w W := fun W h => by rw [hJ] at h; exact b04.trans (h.mono b04.size)
    have jn : ∀ W W', J W → Below W.heap.size W W' → J W' := fun W W' h hb => by rw [hJ] at h ⊢; exact h.trans (hb.mono h.size)
    have jA : ∀ W, J W → Blk W bA #[.int .i64 ak, .int .i64 an, .int .u64 (ab : Int), .string az, .slice aL al ac, .slice aE ae ad] 26 := fun W h => by rw [hJ] at h; exact hbA.below h
    have jB : ∀ W, J W → Blk W bB #[.int .i64 ck, .int .i64 cn, .int .u64 (cb : Int), .string cz, .slice cL cl cc, .slice cE ce cd] 26 := fun W h => by rw [hJ] at h; exact hbB.below h
    have jQ : ∀ W, J W → Blk W (C + 1) #[.int .i64 5, .int .i64 0, .int .u64 0, .string ⟨#[]⟩, .slice (some ⟨C, 0, none⟩) 2 2, .slice none 0 0] 26 := fun W h => by rw [hJ] at h; exact hQQ.below h
    have jv : ∀ W, J W → LiesV (fun q => q < W.heap.size) 40 W [.int .i64 ak, .int .i64 an, .int .u64 (ab : Int), .string az, .slice aL al ac, .slice aE ae ad] v := fun W h => by rw [hJ] at h; exact hlv.kept (fun q hq => Nat.lt_of_lt_of_le hq h.size) h.size (fun q hq _ => h.block q hq)
    have ju : ∀ W, J W → LiesV (fun q => q < W.heap.size) 40 W [.int .i64 ck, .int .i64 cn, .int .u64 (cb : Int), .string cz, .slice cL cl cc, .slice cE ce cd] u := fun W h => by rw [hJ] at h; exact hlu.kept (fun q hq => Nat.lt_of_lt_of_le hq h.size) h.size (fun q hq _ => h.block q hq)
    have jl : ∀ W, J W → LiesV (fun q => q < W.heap.size) 41 W [.int .i64 5, .int .i64 0, .int .u64 0, .string ⟨#[]⟩, .slice (some ⟨C, 0, none⟩) 2 2, .slice none 0 0] (bothV v u) := fun W h => by rw [hJ] at h; exact hLB.kept (fun q hq => Nat.lt_of_lt_of_le hq h.size) h.size (fun q hq _ => h.block q hq)
    have JQ : J Q := by rw [hJ]; exact Below.refl _ _
    have KC : ∀ W, Hid (J W → Calls Tryz.prog 17 #[.agg #[.int .i64 5, .int .i64 0, .int .u64 0, .string ⟨#[]⟩, .slice (some ⟨C, 0, none⟩) 2 2, .slice none 0 0]] W fun e w' => e = .returned (.int .i64 (faultV oneV (bothV v u))) ∧ J w' ∧ Below W.heap.size W w') := fun W h => (callsIn_wide.1 (check_any 41 W (bothV v u) _ _ _ _ _ _ (jl W h) (by omega) (Utf8Tabs_below HT.out (jb W h)))).mono fun e w' ⟨e1, e2⟩ => ⟨e1, jn W w' h e2, e2⟩
    by_cases h0 : faultV oneV (bothV v u) = 0
    ·have K1 : ∀ W, Hid (J W → Calls Tryz.prog 11 #[.string X1] W fun e w' => (∃ (xk xn : Int) (xb : Nat) (xz : ByteArray) (xL : Option Addr) (xl xc : Nat) (xE : Option Addr) (xe xd : Nat), e = .returned (.tuple #[.agg #[.int .i64 xk, .int .i64 xn, .int .u64 (xb : Int), .string xz, .slice xL xl xc, .slice xE xe xd], .int .i64 0, .int .i64 0]) ∧ LiesV (fun q => q < w'.heap.size) 40 w' [.int .i64 xk, .int .i64 xn, .int .u64 (xb : Int), .string xz, .slice xL xl xc, .slice xE xe xd] (bothV v u)) ∧ J w') := fun W h => (mean_is (M1.1 h0) (KM.out W X1 (jb W h))).mono fun e w' ⟨⟨xk, xn, xb, xz, xL, xl, xc, xE, xe, xd, e1, e2⟩, e3⟩ => ⟨⟨xk, xn, xb, xz, xL, xl, xc, xE, xe, xd, e1, e2.kept (fun q hq => hq.2) (Nat.le_refl _) (fun _ _ _ => rfl)⟩, jn W w' h e3⟩
     have K2 : ∀ W, Hid (J W → Calls Tryz.prog 11 #[.string X2] W fun e w' => (∃ (xk xn : Int) (xb : Nat) (xz : ByteArray) (xL : Option Addr) (xl xc : Nat) (xE : Option Addr) (xe xd : Nat), e = .returned (.tuple #[.agg #[.int .i64 xk, .int .i64 xn, .int .u64 (xb : Int), .string xz, .slice xL xl xc, .slice xE xe xd], .int .i64 0, .int .i64 0]) ∧ LiesV (fun q => q < w'.heap.size) 40 w' [.int .i64 xk, .int .i64 xn, .int .u64 (xb : Int), .string xz, .slice xL xl xc, .slice xE xe xd] (tableV v u)) ∧ J w' ∧ Below W.heap.size W w') := fun W h => (mean_is (M2.1 (hfq.2 h0)) (KM.out W X2 (jb W h))).mono fun e w' ⟨⟨xk, xn, xb, xz, xL, xl, xc, xE, xe, xd, e1, e2⟩, e3⟩ => ⟨⟨xk, xn, xb, xz, xL, xl, xc, xE, xe, xd, e1, e2.kept (fun q hq => hq.2) (Nat.le_refl _) (fun _ _ _ => rfl)⟩, jn W w' h e3, e3⟩
     rw [h0] at KC
     have HP := hide (And.intro jb (And.intro jn (And.intro jA (And.intro jB (And.intro jQ (And.intro jv (And.intro ju (And.intro jl (And.intro hI hnb)))))))))
     have HX1 := hide (unhide (K1 Q) JQ)
     clear M1 M2 hfq hI hnb jb jn jA jB jQ jv ju jl b04 hbA hbB hQQ hlv hlu hLB hJ JQ K1 h0 KM HT
     go_upto_region 9 with (go_at_call 11; refine (unhide HX1).mono ?_; rintro e w5 ⟨⟨xk, xn, xb, xz, xL, xl, xc, xE, xe, xd, rfl, hlx⟩, j5⟩)
     obtain ⟨jb, jn, jA, jB, jQ, jv, ju, jl, hI, hnb⟩ := HP.out
     have bV : Below w5.heap.size w5 (w5.alloc (.cells #[.int .i64 xk, .int .i64 xn, .int .u64 (xb : Int), .string xz, .slice xL xl xc, .slice xE xe xd] 26)) := (Below.refl _ w5).alloc (Nat.le_refl _) _
     have j6 := jn _ _ j5 bV
     have hbX := blk_alloc w5 #[.int .i64 xk, .int .i64 xn, .int .u64 (xb : Int), .string xz, .slice xL xl xc, .slice xE xe xd] 26
     have hlx6 : LiesV (fun q => q < (w5.alloc (.cells #[.int .i64 xk, .int .i64 xn, .int .u64 (xb : Int), .string xz, .slice xL xl xc, .slice xE xe xd] 26)).heap.size) 40 (w5.alloc (.cells #[.int .i64 xk, .int .i64 xn, .int .u64 (xb : Int), .string xz, .slice xL xl xc, .slice xE xe xd] 26)) [.int .i64 xk, .int .i64 xn, .int .u64 (xb : Int), .string xz, .slice xL xl xc, .slice xE xe xd] (bothV v u) := hlx.kept (fun q hq => Nat.lt_of_lt_of_le hq bV.size) bV.size (fun q hq _ => bV.block q hq)
     obtain ⟨bX, hbXe⟩ : ∃ bX, bX = w5.heap.size := ⟨_, rfl⟩
     generalize w5.alloc (.cells #[.int .i64 xk, .int .i64 xn, .int .u64 (xb : Int), .string xz, .slice xL xl xc, .slice xE xe xd] 26) = W6 at *
     rw [← hbXe] at hbX ⊢
     have HX2 := hide (unhide (K2 W6) j6)
     have H6 := hide (And.intro hbX hlx6)
     clear bV j5 j6 hbX hlx hlx6 hbXe jb jn jA jB jQ jv ju jl hI hnb K2 HX1
     go_upto_region 10 with (go_at_call 11; refine (unhide HX2).mono ?_; rintro e w7 ⟨⟨yk, yn, yb, yz, yL, yl, yc, yE, ye, yd, rfl, hly⟩, j7, b7⟩)
     obtain ⟨jb, jn, jA, jB, jQ, jv, ju, jl, hI, hnb⟩ := HP.out
     obtain ⟨hbX, hlx6⟩ := H6.out
     have bV : Below w7.heap.size w7 (w7.alloc (.cells #[.int .i64 yk, .int .i64 yn, .int .u64 (yb : Int), .string yz, .slice yL yl yc, .slice yE ye yd] 26)) := (Below.refl _ w7).alloc (Nat.le_refl _) _
     have j8 := jn _ _ j7 bV
     have b8 := b7.trans (bV.mono b7.size)
     have hbY := blk_alloc w7 #[.int .i64 yk, .int .i64 yn, .int .u64 (yb : Int), .string yz, .slice yL yl yc, .slice yE ye yd] 26
     have hbX8 := hbX.below b8
     have hly8 : LiesV (fun q => q < (w7.alloc (.cells #[.int .i64 yk, .int .i64 yn, .int .u64 (yb : Int), .string yz, .slice yL yl yc, .slice yE ye yd] 26)).heap.size) 40 (w7.alloc (.cells #[.int .i64 yk, .int .i64 yn, .int .u64 (yb : Int), .string yz, .slice yL yl yc, .slice yE ye yd] 26)) [.int .i64 yk, .int .i64 yn, .int .u64 (yb : Int), .string yz, .slice yL yl yc, .slice yE ye yd] (tableV v u) := hly.kept (fun q hq => Nat.lt_of_lt_of_le hq bV.size) bV.size (fun q hq _ => bV.block q hq)
     have hlx8 : LiesV (fun q => q < (w7.alloc (.cells #[.int .i64 yk, .int .i64 yn, .int .u64 (yb : Int), .string yz, .slice yL yl yc, .slice yE ye yd] 26)).heap.size) 40 (w7.alloc (.cells #[.int .i64 yk, .int .i64 yn, .int .u64 (yb : Int), .string yz, .slice yL yl yc, .slice yE ye yd] 26)) [.int .i64 xk, .int .i64 xn, .int .u64 (xb : Int), .string xz, .slice xL xl xc, .slice xE xe xd] (bothV v u) := hlx6.kept (fun q hq => Nat.lt_of_lt_of_le hq b8.size) b8.size (fun q hq _ => b8.block q hq)
     obtain ⟨bY, hbYe⟩ : ∃ bY, bY = w7.heap.size := ⟨_, rfl⟩
     generalize w7.alloc (.cells #[.int .i64 yk, .int .i64 yn, .int .u64 (yb : Int), .string yz, .slice yL yl yc, .slice yE ye yd] 26) = W8 at *
     rw [← hbYe] at hbY ⊢
     have HCk := hide (unhide (KC W8) j8)
     have q0 := (jQ _ j8).cell 0 _ rfl
     have q1 := (jQ _ j8).cell 1 _ rfl
     have q2 := (jQ _ j8).cell 2 _ rfl
     have q3 := (jQ _ j8).cell 3 _ rfl
     have q4 := (jQ _ j8).cell 4 _ rfl
     have q5 := (jQ _ j8).cell 5 _ rfl
     have H8 := hide (And.intro hbX8 (And.intro hbY (And.intro hlx8 hly8)))
     clear bV j7 j8 b8 b7 hbY hly hly8 hlx8 hbX8 hbYe jb jn jA jB jQ jv ju jl hI hnb KC HX2 hbX hlx6 H6
     go_upto_region 12 with (go_at_call 17; refine (unhide HCk).mono ?_; rintro e w9 ⟨rfl, j9, b9⟩)
     obtain ⟨jb, jn, jA, jB, jQ, jv, ju, jl, hI, hnb⟩ := HP.out
     obtain ⟨hbX8, hbY8, hlx8, hly8⟩ := H8.out
     have hbX9 := hbX8.below b9
     have hbY9 := hbY8.below b9
     have hlx9 : LiesV (fun q => q < w9.heap.size) 40 w9 [.int .i64 xk, .int .i64 xn, .int .u64 (xb : Int), .string xz, .slice xL xl xc, .slice xE xe xd] (bothV v u) := hlx8.kept (fun q hq => Nat.lt_of_lt_of_le hq b9.size) b9.size (fun q hq _ => b9.block q hq)
     have hly9 : LiesV (fun q => q < w9.heap.size) 40 w9 [.int .i64 yk, .int .i64 yn, .int .u64 (yb : Int), .string yz, .slice yL yl yc, .slice yE ye yd] (tableV v u) := hly8.kept (fun q hq => Nat.lt_of_lt_of_le hq b9.size) b9.size (fun q hq _ => b9.block q hq)
     have va0 := (jA _ j9).cell 0 _ rfl
     have va1 := (jA _ j9).cell 1 _ rfl
     have va2 := (jA _ j9).cell 2 _ rfl
     have va3 := (jA _ j9).cell 3 _ rfl
     have va4 := (jA _ j9).cell 4 _ rfl
     have va5 := (jA _ j9).cell 5 _ rfl
     have vc0 := (jB _ j9).cell 0 _ rfl
     have vc1 := (jB _ j9).cell 1 _ rfl
     have vc2 := (jB _ j9).cell 2 _ rfl
     have vc3 := (jB _ j9).cell 3 _ rfl
     have vc4 := (jB _ j9).cell 4 _ rfl
     have vc5 := (jB _ j9).cell 5 _ rfl
     have bR : Below w9.heap.size w9 ((w9.alloc (.cells #[.string ⟨#[97]⟩, .int .i64 ck, .int .i64 cn, .int .u64 (cb : Int), .string cz, .slice cL cl cc, .slice cE ce cd, .string ⟨#[98]⟩, .int .i64 ak, .int .i64 an, .int .u64 (ab : Int), .string az, .slice aL al ac, .slice aE ae ad] 44)).alloc (.cells #[.int .i64 6, .int .i64 0, .int .u64 0, .string ⟨#[]⟩, .slice none 0 0, .slice (some ⟨w9.heap.size, 0, none⟩) 2 2] 26)) := ((Below.refl _ w9).alloc (Nat.le_refl _) _).alloc (by simp) _
     have hDR : Blk ((w9.alloc (.cells #[.string ⟨#[97]⟩, .int .i64 ck, .int .i64 cn, .int .u64 (cb : Int), .string cz, .slice cL cl cc, .slice cE ce cd, .string ⟨#[98]⟩, .int .i64 ak, .int .i64 an, .int .u64 (ab : Int), .string az, .slice aL al ac, .slice aE ae ad] 44)).alloc (.cells #[.int .i64 6, .int .i64 0, .int .u64 0, .string ⟨#[]⟩, .slice none 0 0, .slice (some ⟨w9.heap.size, 0, none⟩) 2 2] 26)) w9.heap.size #[.string ⟨#[97]⟩, .int .i64 ck, .int .i64 cn, .int .u64 (cb : Int), .string cz, .slice cL cl cc, .slice cE ce cd, .string ⟨#[98]⟩, .int .i64 ak, .int .i64 an, .int .u64 (ab : Int), .string az, .slice aL al ac, .slice aE ae ad] 44 := (blk_alloc w9 _ _).alloc _
     have hTR : Blk ((w9.alloc (.cells #[.string ⟨#[97]⟩, .int .i64 ck, .int .i64 cn, .int .u64 (cb : Int), .string cz, .slice cL cl cc, .slice cE ce cd, .string ⟨#[98]⟩, .int .i64 ak, .int .i64 an, .int .u64 (ab : Int), .string az, .slice aL al ac, .slice aE ae ad] 44)).alloc (.cells #[.int .i64 6, .int .i64 0, .int .u64 0, .string ⟨#[]⟩, .slice none 0 0, .slice (some ⟨w9.heap.size, 0, none⟩) 2 2] 26)) (w9.heap.size + 1) #[.int .i64 6, .int .i64 0, .int .u64 0, .string ⟨#[]⟩, .slice none 0 0, .slice (some ⟨w9.heap.size, 0, none⟩) 2 2] 26 := by
      have h := blk_alloc (w9.alloc (.cells #[.string ⟨#[97]⟩, .int .i64 ck, .int .i64 cn, .int .u64 (cb : Int), .string cz, .slice cL cl cc, .slice cE ce cd, .string ⟨#[98]⟩, .int .i64 ak, .int .i64 an, .int .u64 (ab : Int), .string az, .slice aL al ac, .slice aE ae ad] 44)) #[.int .i64 6, .int .i64 0, .int .u64 0, .string ⟨#[]⟩, .slice none 0 0, .slice (some ⟨w9.heap.size, 0, none⟩) 2 2] 26
      rwa [World.size_alloc] at h
     have jR := jn _ _ j9 bR
     have hLT := table_lies ak an ab az aL al ac aE ae ad ck cn cb cz cL cl cc cE ce cd hDR (jv _ jR) (ju _ jR)
     have hlxR : LiesV (fun q => q < ((w9.alloc (.cells #[.string ⟨#[97]⟩, .int .i64 ck, .int .i64 cn, .int .u64 (cb : Int), .string cz, .slice cL cl cc, .slice cE ce cd, .string ⟨#[98]⟩, .int .i64 ak, .int .i64 an, .int .u64 (ab : Int), .string az, .slice aL al ac, .slice aE ae ad] 44)).alloc (.cells #[.int .i64 6, .int .i64 0, .int .u64 0, .string ⟨#[]⟩, .slice none 0 0, .slice (some ⟨w9.heap.size, 0, none⟩) 2 2] 26)).heap.size) 41 ((w9.alloc (.cells #[.string ⟨#[97]⟩, .int .i64 ck, .int .i64 cn, .int .u64 (cb : Int), .string cz, .slice cL cl cc, .slice cE ce cd, .string ⟨#[98]⟩, .int .i64 ak, .int .i64 an, .int .u64 (ab : Int), .string az, .slice aL al ac, .slice aE ae ad] 44)).alloc (.cells #[.int .i64 6, .int .i64 0, .int .u64 0, .string ⟨#[]⟩, .slice none 0 0, .slice (some ⟨w9.heap.size, 0, none⟩) 2 2] 26)) [.int .i64 xk, .int .i64 xn, .int .u64 (xb : Int), .string xz, .slice xL xl xc, .slice xE xe xd] (bothV v u) := LiesV.to (by decide : 40 ≤ 41) (hlx9.kept (fun q hq => Nat.lt_of_lt_of_le hq bR.size) bR.size (fun q hq _ => bR.block q hq))
     have hlyR : LiesV (fun q => q < ((w9.alloc (.cells #[.string ⟨#[97]⟩, .int .i64 ck, .int .i64 cn, .int .u64 (cb : Int), .string cz, .slice cL cl cc, .slice cE ce cd, .string ⟨#[98]⟩, .int .i64 ak, .int .i64 an, .int .u64 (ab : Int), .string az, .slice aL al ac, .slice aE ae ad] 44)).alloc (.cells #[.int .i64 6, .int .i64 0, .int .u64 0, .string ⟨#[]⟩, .slice none 0 0, .slice (some ⟨w9.heap.size, 0, none⟩) 2 2] 26)).heap.size) 41 ((w9.alloc (.cells #[.string ⟨#[97]⟩, .int .i64 ck, .int .i64 cn, .int .u64 (cb : Int), .string cz, .slice cL cl cc, .slice cE ce cd, .string ⟨#[98]⟩, .int .i64 ak, .int .i64 an, .int .u64 (ab : Int), .string az, .slice aL al ac, .slice aE ae ad] 44)).alloc (.cells #[.int .i64 6, .int .i64 0, .int .u64 0, .string ⟨#[]⟩, .slice none 0 0, .slice (some ⟨w9.heap.size, 0, none⟩) 2 2] 26)) [.int .i64 yk, .int .i64 yn, .int .u64 (yb : Int), .string yz, .slice yL yl yc, .slice yE ye yd] (tableV v u) := LiesV.to (by decide : 40 ≤ 41) (hly9.kept (fun q hq => Nat.lt_of_lt_of_le hq bR.size) bR.size (fun q hq _ => bR.block q hq))
     have HR := hide (And.intro jR (And.intro hTR (And.intro hLT (And.intro hlxR (And.intro hlyR (And.intro (hbX9.below bR) (hbY9.below bR)))))))
     clear jb jn jA jB jQ jv ju jl hI hnb hbX8 hbY8 hlx8 hly8 hbX9 hbY9 hlx9 hly9 bR hDR hTR jR hLT hlxR hlyR j9 b9 HCk H8 q0 q1 q2 q3 q4 q5
     go_upto_region 13 with fail
     clear va0 vc0 va1 vc1 va2 vc2 va3 vc3 va4 vc4 va5 vc5
     obtain ⟨E9, hE9⟩ : ∃ E9, E9 = w9.heap.size := ⟨_, rfl⟩
     generalize hRR : (w9.alloc (.cells #[.string ⟨#[97]⟩, .int .i64 ck, .int .i64 cn, .int .u64 (cb : Int), .string cz, .slice cL cl cc, .slice cE ce cd, .string ⟨#[98]⟩, .int .i64 ak, .int .i64 an, .int .u64 (ab : Int), .string az, .slice aL al ac, .slice aE ae ad] 44)).alloc (.cells #[.int .i64 6, .int .i64 0, .int .u64 0, .string ⟨#[]⟩, .slice none 0 0, .slice (some ⟨w9.heap.size, 0, none⟩) 2 2] 26) = R at HR
     rw [← hE9] at HR ⊢
     clear hRR hE9
     obtain ⟨jR, hTR, hLT, hlxR, hlyR, hbX, hbY⟩ := HR.out
     obtain ⟨jb, jn, jA, jB, jQ, jv, ju, jl, hI, hnb⟩ := HP.out
     have HS1 := hide (sameM_any 41 R (bothV v u) (bothV v u) _ _ _ _ _ _ _ _ _ _ _ _ hlxR (jl _ jR) (by omega) true (by rw [(cmpV_ord 41).refl hlxR.isV]; rfl))
     have hnt : nodesV 41 (tableV v u) ≤ 3000000 := by
      have e1 : nodesV 41 (bothV v u) = nodesV 40 v + (nodesV 40 u + 0) + 1 := rfl
      have e2 : nodesV 41 (tableV v u) = nodesV 40 u + (nodesV 40 v + 0) + 1 := rfl
      omega
     have HS2 : Hid (∀ W, Below R.heap.size R W → Calls Tryz.prog 16 #[.agg #[.int .i64 yk, .int .i64 yn, .int .u64 (yb : Int), .string yz, .slice yL yl yc, .slice yE ye yd], .agg #[.int .i64 6, .int .i64 0, .int .u64 0, .string ⟨#[]⟩, .slice none 0 0, .slice (some ⟨E9, 0, none⟩) 2 2]] W fun e w' => e = .returned (.bool true) ∧ Below W.heap.size W w') := hide fun W hb => sameM_any 41 W (tableV v u) (tableV v u) _ _ _ _ _ _ _ _ _ _ _ _ (hlyR.kept (fun q hq => Nat.lt_of_lt_of_le hq hb.size) hb.size (fun q hq _ => hb.block q hq)) (hLT.kept (fun q hq => Nat.lt_of_lt_of_le hq hb.size) hb.size (fun q hq _ => hb.block q hq)) hnt true (by rw [(cmpV_ord 41).refl hlyR.isV]; rfl)
     have FIN := hide (jb _ jR)
     have HBK := hide (And.intro hbY hTR)
     have x0 := hbX.cell 0 _ rfl
     have x1 := hbX.cell 1 _ rfl
     have x2 := hbX.cell 2 _ rfl
     have x3 := hbX.cell 3 _ rfl
     have x4 := hbX.cell 4 _ rfl
     have x5 := hbX.cell 5 _ rfl
     have q0 := (jQ _ jR).cell 0 _ rfl
     have q1 := (jQ _ jR).cell 1 _ rfl
     have q2 := (jQ _ jR).cell 2 _ rfl
     have q3 := (jQ _ jR).cell 3 _ rfl
     have q4 := (jQ _ jR).cell 4 _ rfl
     have q5 := (jQ _ jR).cell 5 _ rfl
     clear jR hTR hLT hlxR hlyR hbX hbY jb jn jA jB jQ jv ju jl hI hnb hnt HR HP
     go_wp2_with (first
      | (go_at_call_of 16 (Value.agg #[.int .i64 xk, .int .i64 xn, .int .u64 (xb : Int), .string xz, .slice xL xl xc, .slice xE xe xd]); refine (unhide HS1).mono ?_; rintro e w10 ⟨rfl, b10⟩; have HS3 := hide (HS2.out w10 b10); have hY10 := HBK.out.1.below b10; have hT10 := HBK.out.2.below b10; have HB10 := hide b10; have y0 := hY10.cell 0 _ rfl; have y1 := hY10.cell 1 _ rfl; have y2 := hY10.cell 2 _ rfl; have y3 := hY10.cell 3 _ rfl; have y4 := hY10.cell 4 _ rfl; have y5 := hY10.cell 5 _ rfl; have t0 := hT10.cell 0 _ rfl; have t1 := hT10.cell 1 _ rfl; have t2 := hT10.cell 2 _ rfl; have t3 := hT10.cell 3 _ rfl; have t4 := hT10.cell 4 _ rfl; have t5 := hT10.cell 5 _ rfl)
      | (go_at_call 16; refine (unhide HS3).mono ?_; rintro e w11 ⟨rfl, b11⟩))
     go_ret
     exact ⟨rfl, FIN.out.trans ((HB10.out.trans (b11.mono HB10.out.size)).mono FIN.out.size)⟩
    ·have K1 : ∀ W, Hid (J W → Calls Tryz.prog 11 #[.string X1] W fun e w' => (∃ p1 p2 : Int, e = .returned (.tuple #[.agg #[.int .i64 0, .int .i64 0, .int .u64 0, .string ⟨#[]⟩, .slice none 0 0, .slice none 0 0], .int .i64 p1, .int .i64 p2]) ∧ (p2 != 0) = true) ∧ J w') := fun W h => (mean_isnt (M1.2 h0) (KM.out W X1 (jb W h))).mono fun e w' ⟨e1, e3⟩ => ⟨e1, jn W w' h e3⟩
     have K2 : ∀ W, Hid (J W → Calls Tryz.prog 11 #[.string X2] W fun e w' => (∃ p1 p2 : Int, e = .returned (.tuple #[.agg #[.int .i64 0, .int .i64 0, .int .u64 0, .string ⟨#[]⟩, .slice none 0 0, .slice none 0 0], .int .i64 p1, .int .i64 p2]) ∧ (p2 != 0) = true) ∧ J w') := fun W h => (mean_isnt (M2.2 (fun e => h0 (hfq.1 e))) (KM.out W X2 (jb W h))).mono fun e w' ⟨e1, e3⟩ => ⟨e1, jn W w' h e3⟩
     obtain ⟨fv, hfv⟩ : ∃ fv, fv = faultV oneV (bothV v u) := ⟨_, rfl⟩
     rw [← hfv] at KC h0
     have gf : (fv != 0) = true := bne_iff_ne.2 h0
     have HP := hide (And.intro jb (And.intro jn jQ))
     have HX1 := hide (unhide (K1 Q) JQ)
     clear M1 M2 hfq hI hnb jb jn jA jB jQ jv ju jl b04 hbA hbB hQQ hlv hlu hLB hJ JQ K1 h0 KM HT hfv
     go_upto_region 9 with (go_at_call 11; refine (unhide HX1).mono ?_; rintro e w5 ⟨⟨p1, p2, rfl, g1⟩, j5⟩)
     obtain ⟨jb, jn, jQ⟩ := HP.out
     have j6 := jn _ _ j5 ((Below.refl _ w5).alloc (Nat.le_refl _) (.cells #[.int .i64 0, .int .i64 0, .int .u64 0, .string ⟨#[]⟩, .slice none 0 0, .slice none 0 0] 26))
     generalize w5.alloc (.cells #[.int .i64 0, .int .i64 0, .int .u64 0, .string ⟨#[]⟩, .slice none 0 0, .slice none 0 0] 26) = W6 at *
     have HX2 := hide (unhide (K2 W6) j6)
     clear j5 j6 jb jn jQ K2 HX1
     go_upto_region 10 with (go_at_call 11; refine (unhide HX2).mono ?_; rintro e w7 ⟨⟨r1, r2, rfl, g2⟩, j7⟩)
     obtain ⟨jb, jn, jQ⟩ := HP.out
     have j8 := jn _ _ j7 ((Below.refl _ w7).alloc (Nat.le_refl _) (.cells #[.int .i64 0, .int .i64 0, .int .u64 0, .string ⟨#[]⟩, .slice none 0 0, .slice none 0 0] 26))
     generalize w7.alloc (.cells #[.int .i64 0, .int .i64 0, .int .u64 0, .string ⟨#[]⟩, .slice none 0 0, .slice none 0 0] 26) = W8 at *
     have HCk := hide (unhide (KC W8) j8)
     have q0 := (jQ _ j8).cell 0 _ rfl
     have q1 := (jQ _ j8).cell 1 _ rfl
     have q2 := (jQ _ j8).cell 2 _ rfl
     have q3 := (jQ _ j8).cell 3 _ rfl
     have q4 := (jQ _ j8).cell 4 _ rfl
     have q5 := (jQ _ j8).cell 5 _ rfl
     have FJ := hide jb
     clear j7 j8 jb jn jQ KC HX2 HP
     go_wp2_with (go_at_call 17; refine (unhide HCk).mono ?_; rintro e w9 ⟨rfl, j9, b9⟩)
     go_ret
     exact ⟨rfl, FJ.out _ j9⟩
  ·obtain ⟨b02, hbA, hl2, hA⟩ := HG.out
   have g1 : (p2 != 0) = true := bne_iff_ne.2 (ans_place hA2).2
   have FIN := hide (b02.trans ((b3.trans (((Below.refl _ w3).alloc (Nat.le_refl _) (.cells #[.int .i64 0, .int .i64 0, .int .u64 0, .string ⟨#[]⟩, .slice none 0 0, .slice none 0 0] 26)).mono b3.size)).mono b02.size))
   clear b02 hbA hl2 hA HG HC b3 hA2 KM HT
   go_wp2
   go_ret
   exact ⟨rfl, FIN.out⟩
 ·have b12 := HB1.out.trans (b2.mono HB1.out.size)
  have bV : Below w2.heap.size w2 (w2.alloc (.cells #[.int .i64 0, .int .i64 0, .int .u64 0, .string ⟨#[]⟩, .slice none 0 0, .slice none 0 0] 26)) := (Below.refl _ w2).alloc (Nat.le_refl _) _
  have g1 : (p2 != 0) = true := bne_iff_ne.2 (ans_place hA).2
  have HG := hide (b12.trans (bV.mono b12.size))
  clear b12 bV hA b2 HC HB1
  generalize w2.alloc (.cells #[.int .i64 0, .int .i64 0, .int .u64 0, .string ⟨#[]⟩, .slice none 0 0, .slice none 0 0] 26) = W2 at *
  have HC := hide (KM.out W2 t HG.out)
  go_upto_region 5 with (go_at_call 11; refine (unhide HC).mono ?_; rintro e w3 ⟨hres, b3⟩; rcases hres with ⟨ck, cn, cb, cz, cL, cl, cc, cE, ce, cd, u, rfl, hA2, hl3⟩ | ⟨⟨r1, r2⟩, rfl, hA2⟩)
  ·have FIN := hide (HG.out.trans ((b3.trans (((Below.refl _ w3).alloc (Nat.le_refl _) (.cells #[.int .i64 ck, .int .i64 cn, .int .u64 (cb : Int), .string cz, .slice cL cl cc, .slice cE ce cd] 26)).mono b3.size)).mono HG.out.size))
   clear HG HC b3 hA2 KM HT hl3
   go_wp2
   go_ret
   exact ⟨rfl, FIN.out⟩
  ·have FIN := hide (HG.out.trans ((b3.trans (((Below.refl _ w3).alloc (Nat.le_refl _) (.cells #[.int .i64 0, .int .i64 0, .int .u64 0, .string ⟨#[]⟩, .slice none 0 0, .slice none 0 0] 26)).mono b3.size)).mono HG.out.size))
   clear HG HC b3 hA2 KM HT
   go_wp2
   go_ret
   exact ⟨rfl, FIN.out⟩
end Go.Proofs.YtnbfnjhbmeocfaaGreatDoor.valus
