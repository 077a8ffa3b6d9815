/- Of our texts, what this claim reaches. -/
import Derived.Test.YtnbfnjhbmeocfabGreatDoorPssBB
import Derived.Test.YtnbfnjhbmeocfabGreatDoorPssBD
import Derived.Test.YtnbfnjhbmeocfabGreatDoorPssAE
import Derived.Test.YtnbfnjhbmeocfabGreatDoorPssAI
import Derived.Laws.BitsLemmas
set_option linter.unusedVariables false
set_option maxHeartbeats 8000000
set_option maxRecDepth 100000
namespace Go.Proofs.YtnbfnjhbmeocfabGreatDoor.valus
open Go.RowKit
def Tb (B : Nat) (w : World) : Prop := ∃ w0, w0.heap.size = B ∧ ShowTabs w0 ∧ Below B w0 w
theorem Tb.next {B : Nat} {w w' : World} (h : Tb B w) (hb : Below B w w') : Tb B w' := by
 obtain ⟨w0, h1, h2, h3⟩ := h
 exact ⟨w0, h1, h2, h3.trans hb⟩
theorem Tb.tabs {B : Nat} {w : World} (h : Tb B w) : ShowTabs w := by
 obtain ⟨w0, h1, h2, h3⟩ := h
 subst h1
 exact h2.below h3
def FmIs (many : Bool) (fm : Int) : Prop := (many = true ∧ fm = 1) ∨ (many = false ∧ fm = 0)
def LiesB (B f : Nat) (w : World) (us : List Value) (t : V) : Prop := LiesV (fun q => q < B) f w us t
theorem LiesB.next {B f : Nat} {w w' : World} {us : List Value} {t : V} (h : LiesB B f w us t) (hb : Below B w w') : LiesB B f w' us t := LiesV.kept (fun _ h => h) hb.size (fun q hq _ => hb.block q hq) h
def ValT (B R : Nat) (F : Nat → List UInt8) (many : Bool) (fm : Int) (f : Nat) : Prop :=
 ∀ (w : World) (l : List UInt8) (d : Nat) (k n : Int) (b : Nat) (s : ByteArray) (pL : Option Addr) (nL cL : Nat) (pE : Option Addr) (nE cE : Nat) (t : V), Pg B R l (d : Int) fm w → Tb B w → B ≤ w.heap.size →
  LiesB B f w [.int .i64 k, .int .i64 n, .int .u64 (b : Int), .string s, .slice pL nL cL, .slice pE nE cE] t → GoodV f t → d + f ≤ 1000 → l.length + (toldV F many f d t).length ≤ 140737488355328 →
  Calls Tryz.prog 35 #[.pointer (some ⟨R, 0, none⟩), .agg #[.int .i64 k, .int .i64 n, .int .u64 (b : Int), .string s, .slice pL nL cL, .slice pE nE cE]] w fun e w' => (∃ v, e = .returned v) ∧ Pg B R (l ++ toldV F many f d t) (d : Int) fm w' ∧ Below B w w' ∧ KeptR R w w'
theorem told_line (F : Nat → List UInt8) : ∀ (f d d' : Nat) (v : V), toldV F false f d v = toldV F false f d' v
 | 0, _, _, _ => rfl
 | f + 1, d, d', v => by
  have ih : ∀ x, toldV F false f (d + 1) x = toldV F false f (d' + 1) x := fun x => told_line F f _ _ x
  rw [toldV, toldV]
  have e1 : (opn v).2.1.map (toldV F false f (d + 1)) = (opn v).2.1.map (toldV F false f (d' + 1)) := List.map_congr_left (fun x _ => ih x)
  have e2 : (opn v).2.2.map (fun e => entT (opnE e).1 (toldV F false f (d + 1) (opnE e).2)) = (opn v).2.2.map (fun e => entT (opnE e).1 (toldV F false f (d' + 1) (opnE e).2)) := List.map_congr_left (fun x _ => by rw [ih])
  rw [e1, e2]
  unfold betwL
  simp only [Bool.false_eq_true, if_false]
def inner (many : Bool) (d : Nat) : Nat := if many = true then d + 1 else d
theorem inner_told (F : Nat → List UInt8) (many : Bool) (f d : Nat) (v : V) : toldV F many f (inner many d) v = toldV F many f (d + 1) v := by
 unfold inner
 cases many with
 | true => rfl
 | false => exact told_line F f _ _ v
def Boxes (B R b2 b3 : Nat) (cs : Array Value) (w : World) : Prop := (R < b2 ∧ R < b3) ∧ Blk w b2 #[.pointer (some ⟨R, 0, none⟩)] 91 ∧ Blk w b3 cs 26
theorem Boxes.next {B R b2 b3 : Nat} {cs : Array Value} {w w' : World} (h : Boxes B R b2 b3 cs w) (hk : KeptR R w w') : Boxes B R b2 b3 cs w' := by
 obtain ⟨⟨h1, h2⟩, h3, h4⟩ := h
 have n1 : (91 : Nat) ≠ 5 := by decide
 have n2 : (26 : Nat) ≠ 5 := by decide
 refine ⟨⟨h1, h2⟩, hk b2 _ h3 (fun e => by have := Option.some.inj e; omega) (fun c fz e => ?_), hk b3 _ h4 (fun e => by have := Option.some.inj e; omega) (fun c fz e => ?_)⟩
 ·injection e with _ e _
  exact n1 e
 ·injection e with _ e _
  exact n2 e
end Go.Proofs.YtnbfnjhbmeocfabGreatDoor.valus
namespace Go.Proofs.YtnbfnjhbmeocfabGreatDoor.valus
open Go.RowKit
theorem between1 (B R b2 b3 : Nat) (many : Bool) (fm : Int) (hfm : FmIs many fm) (d : Nat) (hd : d ≤ 100000) (ps : List (List UInt8)) (P : World → Prop) (hP : ∀ w w', P w → Below B w w' → KeptR R w w' → P w') (hT : Tell B R 70 #[.pointer (some ⟨b2, 0, none⟩), .pointer (some ⟨b3, 0, none⟩)] fm (inner many d) ps P)
  (w : World) (l : List UInt8) (oc cc : UInt8) (h : Pg B R l (d : Int) fm w) (hw : P w) (hBw : B ≤ w.heap.size) (hlen : l.length + (oc :: (betwL many d ps ++ [cc])).length ≤ 140737488355328) (hps : ps.length ≤ 9223372036854775807) :
  Calls Tryz.prog 69 #[.pointer (some ⟨R, 0, none⟩), .string ⟨#[oc]⟩, .string ⟨#[cc]⟩, .int .i64 (ps.length : Int), .func (.func 70) #[] #[.pointer (some ⟨b2, 0, none⟩), .pointer (some ⟨b3, 0, none⟩)]] w fun e w' => (∃ v, e = .returned v) ∧ Pg B R (l ++ oc :: (betwL many d ps ++ [cc])) (d : Int) fm w' ∧ Below B w w' ∧ KeptR R w w' := by
 simp only [List.length_cons, List.length_append, List.length_nil] at hlen
 have K1 := hide (pgWrite B R l [oc] d fm w h (by simp only [List.length_cons, List.length_nil]; omega) hBw)
 have K2 : Hid (∀ w1, Pg B R (l ++ [oc]) (d : Int) fm w1 → Below B w w1 → KeptR R w w1 → Calls Tryz.prog (if many = true then 109 else 110) #[.pointer (some ⟨R, 0, none⟩), .int .i64 (ps.length : Int), .func (.func 70) #[] #[.pointer (some ⟨b2, 0, none⟩), .pointer (some ⟨b3, 0, none⟩)]] w1 fun e w' => (∃ v, e = .returned v) ∧ Pg B R ((l ++ [oc]) ++ betwL many d ps) (d : Int) fm w' ∧ Below B w1 w' ∧ KeptR R w1 w') := hide fun w1 g1 b1 k1 => by
  have hs := b1.size
  have hl2 : (l ++ [oc]).length + (betwL many d ps).length ≤ 140737488355328 := by simp only [List.length_append, List.length_cons, List.length_nil]; omega
  cases many with
  | true =>
   rw [if_pos rfl]
   exact onLines1 B R b2 b3 fm d hd ps P hP hT w1 _ g1 (hP _ _ hw b1 k1) (by omega) hl2 hps
  | false =>
   rw [if_neg (by decide)]
   have eb : betwL false d ps = commaL ps := by unfold betwL; rw [if_neg (by decide)]
   rw [eb] at hl2 ⊢
   exact inLine1 B R b2 b3 fm d ps P hP hT w1 _ g1 (hP _ _ hw b1 k1) (by omega) hl2 hps
 have K3 : Hid (∀ w1, B ≤ w1.heap.size → Pg B R ((l ++ [oc]) ++ betwL many d ps) (d : Int) fm w1 → Calls Tryz.prog 73 #[.pointer (some ⟨R, 0, none⟩), .string ⟨#[cc]⟩] w1 fun e w' => e = .returned (.tuple #[]) ∧ Pg B R (((l ++ [oc]) ++ betwL many d ps) ++ [cc]) (d : Int) fm w' ∧ Below B w1 w' ∧ KeptR R w1 w') := hide fun w1 hb g1 => pgWrite B R _ [cc] d fm w1 g1 (by simp only [List.length_append, List.length_cons, List.length_nil]; omega) hb
 have HE : Hid (∀ w', Pg B R (((l ++ [oc]) ++ betwL many d ps) ++ [cc]) (d : Int) fm w' → Pg B R (l ++ oc :: (betwL many d ps ++ [cc])) (d : Int) fm w') := hide fun w' g => by
  have e : l ++ oc :: (betwL many d ps ++ [cc]) = ((l ++ [oc]) ++ betwL many d ps) ++ [cc] := by simp
  rw [e]
  exact g
 have HB := hide hBw
 obtain ⟨N, hN⟩ : ∃ N : Nat, N = ps.length := ⟨_, rfl⟩
 rw [← hN] at K2 hps ⊢
 clear h hw hBw hlen hT hP hN
 rcases hfm with ⟨rfl, rfl⟩ | ⟨rfl, rfl⟩
 ·rw [if_pos rfl] at K2
  go_enter Tryz.func69, Tryz.ntmps69
  go_wp2_with (go_at_call 73; refine (unhide K1).mono ?_)
  rintro e w1 ⟨rfl, g1, b1, k1⟩
  have c3 := g1.c3
  have K2' := hide (K2.out w1 g1 b1 k1)
  have H1 := hide (And.intro b1 k1)
  clear g1 b1 k1 K1 K2
  go_wp2_with (go_at_call 109; refine (unhide K2').mono ?_)
  rintro e w2 ⟨⟨v, rfl⟩, g2, b2', k2⟩
  have b02 := H1.out.1.trans b2'
  have hs := b02.size
  have K3' := hide (K3.out w2 (by have := HB.out; omega) g2)
  have H2 := hide (And.intro b02 (H1.out.2.trans k2))
  clear g2 b2' k2 K3 K2' H1 b02 hs
  go_wp2_with (go_at_call 73; refine (unhide K3').mono ?_)
  rintro e w3 ⟨rfl, g3, b3', k3⟩
  have H3 := hide (And.intro (HE.out _ g3) (And.intro (H2.out.1.trans b3') (H2.out.2.trans k3)))
  clear g3 b3' k3
  go_wp2
  go_end0
  exact ⟨⟨_, rfl⟩, H3.out⟩
 ·rw [if_neg (by decide)] at K2
  go_enter Tryz.func69, Tryz.ntmps69
  go_wp2_with (go_at_call 73; refine (unhide K1).mono ?_)
  rintro e w1 ⟨rfl, g1, b1, k1⟩
  have c3 := g1.c3
  have K2' := hide (K2.out w1 g1 b1 k1)
  have H1 := hide (And.intro b1 k1)
  clear g1 b1 k1 K1 K2
  go_wp2_with (go_at_call 110; refine (unhide K2').mono ?_)
  rintro e w2 ⟨⟨v, rfl⟩, g2, b2', k2⟩
  have b02 := H1.out.1.trans b2'
  have hs := b02.size
  have K3' := hide (K3.out w2 (by have := HB.out; omega) g2)
  have H2 := hide (And.intro b02 (H1.out.2.trans k2))
  clear g2 b2' k2 K3 K2' H1 b02 hs
  go_wp2_with (go_at_call 73; refine (unhide K3').mono ?_)
  rintro e w3 ⟨rfl, g3, b3', k3⟩
  have H3 := hide (And.intro (HE.out _ g3) (And.intro (H2.out.1.trans b3') (H2.out.2.trans k3)))
  clear g3 b3' k3
  go_wp2
  go_end0
  exact ⟨⟨_, rfl⟩, H3.out⟩
end Go.Proofs.YtnbfnjhbmeocfabGreatDoor.valus
namespace Go.Proofs.YtnbfnjhbmeocfabGreatDoor.valus
open Go.RowKit
theorem between2 (B R b2 b3 : Nat) (many : Bool) (fm : Int) (hfm : FmIs many fm) (d : Nat) (hd : d ≤ 100000) (ps : List (List UInt8)) (P : World → Prop) (hP : ∀ w w', P w → Below B w w' → KeptR R w w' → P w') (hT : Tell B R 71 #[.pointer (some ⟨b2, 0, none⟩), .pointer (some ⟨b3, 0, none⟩)] fm (inner many d) ps P)
  (w : World) (l : List UInt8) (oc cc : UInt8) (h : Pg B R l (d : Int) fm w) (hw : P w) (hBw : B ≤ w.heap.size) (hlen : l.length + (oc :: (betwL many d ps ++ [cc])).length ≤ 140737488355328) (hps : ps.length ≤ 9223372036854775807) :
  Calls Tryz.prog 69 #[.pointer (some ⟨R, 0, none⟩), .string ⟨#[oc]⟩, .string ⟨#[cc]⟩, .int .i64 (ps.length : Int), .func (.func 71) #[] #[.pointer (some ⟨b2, 0, none⟩), .pointer (some ⟨b3, 0, none⟩)]] w fun e w' => (∃ v, e = .returned v) ∧ Pg B R (l ++ oc :: (betwL many d ps ++ [cc])) (d : Int) fm w' ∧ Below B w w' ∧ KeptR R w w' := by
 simp only [List.length_cons, List.length_append, List.length_nil] at hlen
 have K1 := hide (pgWrite B R l [oc] d fm w h (by simp only [List.length_cons, List.length_nil]; omega) hBw)
 have K2 : Hid (∀ w1, Pg B R (l ++ [oc]) (d : Int) fm w1 → Below B w w1 → KeptR R w w1 → Calls Tryz.prog (if many = true then 109 else 110) #[.pointer (some ⟨R, 0, none⟩), .int .i64 (ps.length : Int), .func (.func 71) #[] #[.pointer (some ⟨b2, 0, none⟩), .pointer (some ⟨b3, 0, none⟩)]] w1 fun e w' => (∃ v, e = .returned v) ∧ Pg B R ((l ++ [oc]) ++ betwL many d ps) (d : Int) fm w' ∧ Below B w1 w' ∧ KeptR R w1 w') := hide fun w1 g1 b1 k1 => by
  have hs := b1.size
  have hl2 : (l ++ [oc]).length + (betwL many d ps).length ≤ 140737488355328 := by simp only [List.length_append, List.length_cons, List.length_nil]; omega
  cases many with
  | true =>
   rw [if_pos rfl]
   exact onLines2 B R b2 b3 fm d hd ps P hP hT w1 _ g1 (hP _ _ hw b1 k1) (by omega) hl2 hps
  | false =>
   rw [if_neg (by decide)]
   have eb : betwL false d ps = commaL ps := by unfold betwL; rw [if_neg (by decide)]
   rw [eb] at hl2 ⊢
   exact inLine2 B R b2 b3 fm d ps P hP hT w1 _ g1 (hP _ _ hw b1 k1) (by omega) hl2 hps
 have K3 : Hid (∀ w1, B ≤ w1.heap.size → Pg B R ((l ++ [oc]) ++ betwL many d ps) (d : Int) fm w1 → Calls Tryz.prog 73 #[.pointer (some ⟨R, 0, none⟩), .string ⟨#[cc]⟩] w1 fun e w' => e = .returned (.tuple #[]) ∧ Pg B R (((l ++ [oc]) ++ betwL many d ps) ++ [cc]) (d : Int) fm w' ∧ Below B w1 w' ∧ KeptR R w1 w') := hide fun w1 hb g1 => pgWrite B R _ [cc] d fm w1 g1 (by simp only [List.length_append, List.length_cons, List.length_nil]; omega) hb
 have HE : Hid (∀ w', Pg B R (((l ++ [oc]) ++ betwL many d ps) ++ [cc]) (d : Int) fm w' → Pg B R (l ++ oc :: (betwL many d ps ++ [cc])) (d : Int) fm w') := hide fun w' g => by
  have e : l ++ oc :: (betwL many d ps ++ [cc]) = ((l ++ [oc]) ++ betwL many d ps) ++ [cc] := by simp
  rw [e]
  exact g
 have HB := hide hBw
 obtain ⟨N, hN⟩ : ∃ N : Nat, N = ps.length := ⟨_, rfl⟩
 rw [← hN] at K2 hps ⊢
 clear h hw hBw hlen hT hP hN
 rcases hfm with ⟨rfl, rfl⟩ | ⟨rfl, rfl⟩
 ·rw [if_pos rfl] at K2
  go_enter Tryz.func69, Tryz.ntmps69
  go_wp2_with (go_at_call 73; refine (unhide K1).mono ?_)
  rintro e w1 ⟨rfl, g1, b1, k1⟩
  have c3 := g1.c3
  have K2' := hide (K2.out w1 g1 b1 k1)
  have H1 := hide (And.intro b1 k1)
  clear g1 b1 k1 K1 K2
  go_wp2_with (go_at_call 109; refine (unhide K2').mono ?_)
  rintro e w2 ⟨⟨v, rfl⟩, g2, b2', k2⟩
  have b02 := H1.out.1.trans b2'
  have hs := b02.size
  have K3' := hide (K3.out w2 (by have := HB.out; omega) g2)
  have H2 := hide (And.intro b02 (H1.out.2.trans k2))
  clear g2 b2' k2 K3 K2' H1 b02 hs
  go_wp2_with (go_at_call 73; refine (unhide K3').mono ?_)
  rintro e w3 ⟨rfl, g3, b3', k3⟩
  have H3 := hide (And.intro (HE.out _ g3) (And.intro (H2.out.1.trans b3') (H2.out.2.trans k3)))
  clear g3 b3' k3
  go_wp2
  go_end0
  exact ⟨⟨_, rfl⟩, H3.out⟩
 ·rw [if_neg (by decide)] at K2
  go_enter Tryz.func69, Tryz.ntmps69
  go_wp2_with (go_at_call 73; refine (unhide K1).mono ?_)
  rintro e w1 ⟨rfl, g1, b1, k1⟩
  have c3 := g1.c3
  have K2' := hide (K2.out w1 g1 b1 k1)
  have H1 := hide (And.intro b1 k1)
  clear g1 b1 k1 K1 K2
  go_wp2_with (go_at_call 110; refine (unhide K2').mono ?_)
  rintro e w2 ⟨⟨v, rfl⟩, g2, b2', k2⟩
  have b02 := H1.out.1.trans b2'
  have hs := b02.size
  have K3' := hide (K3.out w2 (by have := HB.out; omega) g2)
  have H2 := hide (And.intro b02 (H1.out.2.trans k2))
  clear g2 b2' k2 K3 K2' H1 b02 hs
  go_wp2_with (go_at_call 73; refine (unhide K3').mono ?_)
  rintro e w3 ⟨rfl, g3, b3', k3⟩
  have H3 := hide (And.intro (HE.out _ g3) (And.intro (H2.out.1.trans b3') (H2.out.2.trans k3)))
  clear g3 b3' k3
  go_wp2
  go_end0
  exact ⟨⟨_, rfl⟩, H3.out⟩
end Go.Proofs.YtnbfnjhbmeocfabGreatDoor.valus
namespace Go.Proofs.YtnbfnjhbmeocfabGreatDoor.valus
open Go.RowKit
/-- value$1 tells an element. -/
theorem clo1 (B R b2 b3 f : Nat) (F : Nat → List UInt8) (many : Bool) (fm : Int) (d : Nat) (hv : ValT B R F many fm f) (hd : d + f ≤ 1000) (L : List V) (hG : ∀ y ∈ L, GoodV f y) (x0 x1 x2 x3 x5 : Value) (pL : Option Addr) (cL : Nat) (hcl : L.length ≤ cL ∧ cL ≤ maxLen) :
  Tell B R 70 #[.pointer (some ⟨b2, 0, none⟩), .pointer (some ⟨b3, 0, none⟩)] fm d (L.map (toldV F many f d)) (fun w => Boxes B R b2 b3 #[x0, x1, x2, x3, .slice pL L.length cL, x5] w ∧ Tb B w ∧ RowIn (fun q => q < B) w pL 6 L.length (fun j us => ∃ y, L[j]? = some y ∧ LiesB B f w us y)) := by
 intro w i l hi hg ⟨hX, hT, hR⟩ hBw hlen
 have hi' : i < L.length := by simpa using hi
 obtain ⟨Bk, o, rfl, hBok, hBl, u0, u1, u2, u3, u4, u5, ⟨y, hy, hly⟩, k0, k1, k2, k3, k4, k5⟩ := hR.six hi'
 have hyL : y ∈ L := List.mem_iff_getElem?.2 ⟨i, hy⟩
 obtain ⟨yk, yn, yb, ys, ypL, ynL, ycL, ypE, ynE, ycE, rfl, rfl, rfl, rfl, rfl, rfl⟩ := LiesV.form hly
 have et : (L.map (toldV F many f d))[i] = toldV F many f d y := by
  rw [List.getElem_map]
  rw [List.getElem?_eq_getElem hi'] at hy
  injection hy with hy
  rw [hy]
 rw [et] at hlen ⊢
 have KV := hide (hv w.drew l d yk yn yb ys ypL ynL ycL ypE ynE ycE y hg (hT.next (Below.drew (Below.refl B w))) hBw (hly.next (Below.drew (Below.refl B w))) (hG y hyL) hd hlen)
 obtain ⟨_, q2, q3⟩ := hX
 have c2 := q2.cell 0 _ rfl
 have c3 := q3.cell 4 _ rfl
 have mixed : Tryz.prog.follows Departure.mixedOrders = true := by kernel_rfl
 have hn63 : L.length ≤ 9223372036854775807 := by have := hcl.2; unfold maxLen at this; omega
 have D0 : w.drew.cell? ⟨b2, 0, none⟩ = some (.pointer (some ⟨R, 0, none⟩)) := c2
 have D1 : w.drew.cell? ⟨b3, 4, none⟩ = _ := c3
 have E0 : w.drew.cell? ⟨Bk, o + i * 6, none⟩ = _ := k0
 have E1 : w.drew.cell? ⟨Bk, o + i * 6 + 1, none⟩ = _ := k1
 have E2 : w.drew.cell? ⟨Bk, o + i * 6 + 2, none⟩ = _ := k2
 have E3 : w.drew.cell? ⟨Bk, o + i * 6 + 3, none⟩ = _ := k3
 have E4 : w.drew.cell? ⟨Bk, o + i * 6 + 4, none⟩ = _ := k4
 have E5 : w.drew.cell? ⟨Bk, o + i * 6 + 5, none⟩ = _ := k5
 have HDR : Hid (∀ w', Below B w.drew w' → KeptR R w.drew w' → Below B w w' ∧ KeptR R w w') := hide fun w' p q => ⟨(Below.drew (Below.refl B w)).trans p, fun k o hk a b => q k o hk a b⟩
 clear hg hT hR hly q2 q3 hv hG hy et hlen hi
 show Calls Tryz.prog 70 #[.int .i64 (i : Int), .pointer (some ⟨b2, 0, none⟩), .pointer (some ⟨b3, 0, none⟩)] w _
 go_enter Tryz.func70, Tryz.ntmps70
 go_region_with (go_at_call 35; refine (unhide KV).mono ?_; rintro e w1 ⟨⟨v, rfl⟩, g1, b1, k1'⟩)
 all_goals
  have H1 := hide (And.intro g1 (HDR.out _ b1 k1'))
  clear g1 b1 k1'
  go_wp2
  go_end0
  exact ⟨⟨_, rfl⟩, H1.out.1, H1.out.2.1, H1.out.2.2⟩
end Go.Proofs.YtnbfnjhbmeocfabGreatDoor.valus
namespace Go.Proofs.YtnbfnjhbmeocfabGreatDoor.valus
open Go.RowKit
theorem entryS (B R f : Nat) (F : Nat → List UInt8) (many : Bool) (fm : Int) (hv : ValT B R F many fm f) (w : World) (l : List UInt8) (d : Nat) (key : ByteArray) (k n : Int) (b : Nat) (s : ByteArray) (pL : Option Addr) (nL cL : Nat) (pE : Option Addr) (nE cE : Nat) (t : V)
  (hg : Pg B R l (d : Int) fm w) (hT : Tb B w) (hBw : B ≤ w.heap.size) (hl : LiesB B f w [.int .i64 k, .int .i64 n, .int .u64 (b : Int), .string s, .slice pL nL cL, .slice pE nE cE] t) (hG : GoodV f t) (hd : d + f ≤ 1000) (hks : key.size ≤ 1073741824) (hlen : l.length + (entT key.data.toList (toldV F many f d t)).length ≤ 140737488355328) :
  Calls Tryz.prog 72 #[.pointer (some ⟨R, 0, none⟩), .agg #[.string key, .int .i64 k, .int .i64 n, .int .u64 (b : Int), .string s, .slice pL nL cL, .slice pE nE cE]] w fun e w' => (∃ v, e = .returned v) ∧ Pg B R (l ++ entT key.data.toList (toldV F many f d t)) (d : Int) fm w' ∧ Below B w w' ∧ KeptR R w w' := by
 have bV : Below w.heap.size w (w.alloc (.cells #[.string key, .int .i64 k, .int .i64 n, .int .u64 (b : Int), .string s, .slice pL nL cL, .slice pE nE cE] 53)) := (Below.refl _ w).alloc (Nat.le_refl _) _
 have hX := blk_alloc w #[.string key, .int .i64 k, .int .i64 n, .int .u64 (b : Int), .string s, .slice pL nL cL, .slice pE nE cE] 53
 have hRl := hg.lt
 unfold entT at hlen ⊢
 simp only [List.length_append, List.length_cons] at hlen
 obtain ⟨KT, hKT⟩ : ∃ KT : List UInt8, KT = escs.keyT key.data.toList := ⟨_, rfl⟩
 obtain ⟨TT, hTT⟩ : ∃ TT : List UInt8, TT = toldV F many f d t := ⟨_, rfl⟩
 have K1 := escs.key_any _ key hks (hT.next (bV.mono hBw)).tabs.esc
 rw [← hKT] at hlen K1 ⊢
 rw [← hTT] at hlen ⊢
 have HK1 := hide K1
 have KW1 : Hid (∀ w1, Below w.heap.size w w1 → Calls Tryz.prog 73 #[.pointer (some ⟨R, 0, none⟩), .string ⟨KT.toArray⟩] w1 fun e w' => e = .returned (.tuple #[]) ∧ Pg B R (l ++ KT) (d : Int) fm w' ∧ Below B w1 w' ∧ KeptR R w1 w') := hide fun w1 hb => pgWrite B R l KT d fm w1 (hg.below hb) (by omega) (by have := hb.size; omega)
 have KW2 : Hid (∀ w1, B ≤ w1.heap.size → Pg B R (l ++ KT) (d : Int) fm w1 → Calls Tryz.prog 73 #[.pointer (some ⟨R, 0, none⟩), .string ⟨#[58, 32]⟩] w1 fun e w' => e = .returned (.tuple #[]) ∧ Pg B R ((l ++ KT) ++ [58, 32]) (d : Int) fm w' ∧ Below B w1 w' ∧ KeptR R w1 w') := hide fun w1 hb h1 => pgWrite B R (l ++ KT) [58, 32] d fm w1 h1 (by simp only [List.length_append, List.length_cons, List.length_nil]; omega) hb
 have KV : Hid (∀ w1, B ≤ w1.heap.size → Below B w w1 → Pg B R ((l ++ KT) ++ [58, 32]) (d : Int) fm w1 → Calls Tryz.prog 35 #[.pointer (some ⟨R, 0, none⟩), .agg #[.int .i64 k, .int .i64 n, .int .u64 (b : Int), .string s, .slice pL nL cL, .slice pE nE cE]] w1 fun e w' => (∃ v, e = .returned v) ∧ Pg B R (((l ++ KT) ++ [58, 32]) ++ TT) (d : Int) fm w' ∧ Below B w1 w' ∧ KeptR R w1 w') := hide fun w1 hb hb2 h1 => by
  rw [hTT]
  exact hv w1 _ d k n b s pL nL cL pE nE cE t h1 (hT.next hb2) hb (hl.next hb2) hG hd (by rw [← hTT]; simp only [List.length_append, List.length_cons, List.length_nil]; omega)
 have e0 := hX.cell 0 _ rfl
 have HB : Hid (Below w.heap.size w (w.alloc (.cells #[.string key, .int .i64 k, .int .i64 n, .int .u64 (b : Int), .string s, .slice pL nL cL, .slice pE nE cE] 53)) ∧ B ≤ w.heap.size ∧ R < w.heap.size ∧ Blk (w.alloc (.cells #[.string key, .int .i64 k, .int .i64 n, .int .u64 (b : Int), .string s, .slice pL nL cL, .slice pE nE cE] 53)) w.heap.size #[.string key, .int .i64 k, .int .i64 n, .int .u64 (b : Int), .string s, .slice pL nL cL, .slice pE nE cE] 53) := hide ⟨bV, hBw, hRl, hX⟩
 clear bV hX hg hT hl hv hlen hKT hTT hBw hRl K1
 generalize hWA : w.alloc (.cells #[.string key, .int .i64 k, .int .i64 n, .int .u64 (b : Int), .string s, .slice pL nL cL, .slice pE nE cE] 53) = WA at HB HK1 e0
 go_enter Tryz.func72, Tryz.ntmps72
 go_upto_region 2 with (go_at_call 111; refine (unhide HK1).mono ?_; rintro e w1 ⟨rfl, b1⟩)
 obtain ⟨bV, hBw, hRl, hX⟩ := HB.out
 have b01 := bV.trans (b1.mono bV.size)
 have KW1' := hide (KW1.out w1 b01)
 have s1 := b01.size
 have X1 : Blk w1 w.heap.size #[.string key, .int .i64 k, .int .i64 n, .int .u64 (b : Int), .string s, .slice pL nL cL, .slice pE nE cE] 53 := hX.below b1
 have H1 := hide (And.intro b01 (And.intro hBw (And.intro hRl X1)))
 clear KW1 HK1 e0 b1 bV hX b01 hBw hRl X1 HB hWA s1
 go_upto_region 3 with (go_at_call 73; refine (unhide KW1').mono ?_; rintro e w2 ⟨rfl, g2, b2, k2⟩)
 obtain ⟨b01, hBw, hRl, X1⟩ := H1.out
 have n2 : (53 : Nat) ≠ 5 := by decide
 have s2 := b2.size
 have s1 := b01.size
 have b02 := (b01.mono hBw).trans b2
 have kk2 := (KeptR.below (R := R) b01).trans k2
 have X2 : Blk w2 w.heap.size #[.string key, .int .i64 k, .int .i64 n, .int .u64 (b : Int), .string s, .slice pL nL cL, .slice pE nE cE] 53 := k2 _ _ X1 (fun e => by have := Option.some.inj e; omega) (fun c fz e => by injection e with _ e _; exact n2 e)
 have KW2' := hide (KW2.out w2 (by omega) g2)
 have H2 := hide (And.intro b02 (And.intro kk2 (And.intro hBw (And.intro hRl X2))))
 clear KW1' KW2 g2 b2 k2 H1 b01 hBw hRl X1 s2 s1 b02 kk2 X2
 go_upto_region 4 with (go_at_call 73; refine (unhide KW2').mono ?_; rintro e w3 ⟨rfl, g3, b3, k3⟩)
 obtain ⟨b02, kk2, hBw, hRl, X2⟩ := H2.out
 have s3 := b3.size
 have s2 := b02.size
 have X3 : Blk w3 w.heap.size #[.string key, .int .i64 k, .int .i64 n, .int .u64 (b : Int), .string s, .slice pL nL cL, .slice pE nE cE] 53 := k3 _ _ X2 (fun e => by have := Option.some.inj e; omega) (fun c fz e => by injection e with _ e _; exact n2 e)
 have c1 := X3.cell 1 _ rfl
 have c2 := X3.cell 2 _ rfl
 have c3 := X3.cell 3 _ rfl
 have c4 := X3.cell 4 _ rfl
 have c5 := X3.cell 5 _ rfl
 have c6 := X3.cell 6 _ rfl
 have KV' := hide (KV.out w3 (by omega) (b02.trans b3) g3)
 have H3 := hide (And.intro (b02.trans b3) (kk2.trans k3))
 clear KW2' KV g3 b3 k3 H2 b02 hBw hRl X2 s3 s2 kk2 X3 n2
 go_wp2_with (go_at_call 35; refine (unhide KV').mono ?_; rintro e w4 ⟨⟨v, rfl⟩, g4, b4, k4⟩)
 go_end0
 refine ⟨⟨_, rfl⟩, ?_, H3.out.1.trans b4, H3.out.2.trans k4⟩
 have e : l ++ (KT ++ 58 :: 32 :: TT) = ((l ++ KT) ++ [58, 32]) ++ TT := by simp
 rw [e]
 exact g4
/-- value$2 tells an entry. -/
theorem clo2 (B R b2 b3 f : Nat) (F : Nat → List UInt8) (many : Bool) (fm : Int) (d : Nat) (hv : ValT B R F many fm f) (hd : d + f ≤ 1000) (E : List V) (hG : ∀ e ∈ E, GoodV f (opnE e).2) (hk : ∀ e ∈ E, (opnE e).1.length ≤ 100) (x0 x1 x2 x3 x4 : Value) (pE : Option Addr) (cE : Nat) (hcl : E.length ≤ cE ∧ cE ≤ maxLen) :
  Tell B R 71 #[.pointer (some ⟨b2, 0, none⟩), .pointer (some ⟨b3, 0, none⟩)] fm d (E.map (fun e => entT (opnE e).1 (toldV F many f d (opnE e).2))) (fun w => Boxes B R b2 b3 #[x0, x1, x2, x3, x4, .slice pE E.length cE] w ∧ Tb B w ∧ RowIn (fun q => q < B) w pE 7 E.length (fun j us => ∃ (key : ByteArray) (y : V) (xs : List Value), E[j]? = some (ent key.data.toList y) ∧ us = .string key :: xs ∧ key.size ≤ maxLen ∧ LiesB B f w xs y)) := by
 intro w i l hi hg ⟨hX, hT, hR⟩ hBw hlen
 have hi' : i < E.length := by simpa using hi
 obtain ⟨Bk, o, rfl, hBok, hBl, u0, u1, u2, u3, u4, u5, u6, ⟨key, y, xs, hy, hus, hks, hly⟩, k0, k1, k2, k3, k4, k5, k6⟩ := hR.seven hi'
 injection hus with hu0 hus
 subst hu0
 subst hus
 have hyE : ent key.data.toList y ∈ E := List.mem_iff_getElem?.2 ⟨i, hy⟩
 obtain ⟨yk, yn, yb, ys, ypL, ynL, ycL, ypE, ynE, ycE, rfl, rfl, rfl, rfl, rfl, rfl⟩ := LiesV.form hly
 have et : (E.map (fun e => entT (opnE e).1 (toldV F many f d (opnE e).2)))[i] = entT key.data.toList (toldV F many f d y) := by
  rw [List.getElem_map]
  rw [List.getElem?_eq_getElem hi'] at hy
  injection hy with hy
  rw [hy, opnE_ent]
 rw [et] at hlen ⊢
 have hGy := hG _ hyE
 have hky := hk _ hyE
 rw [opnE_ent] at hGy hky
 have hkz : key.size ≤ 1073741824 := by
  have e : key.data.toList.length = key.size := by rw [Array.length_toList]; rfl
  simp only at hky
  omega
 have KV := hide (entryS B R f F many fm hv w.drew l d key yk yn yb ys ypL ynL ycL ypE ynE ycE y hg (hT.next (Below.drew (Below.refl B w))) hBw (hly.next (Below.drew (Below.refl B w))) hGy hd hkz hlen)
 obtain ⟨_, q2, q3⟩ := hX
 have c2 := q2.cell 0 _ rfl
 have c3 := q3.cell 5 _ rfl
 have mixed : Tryz.prog.follows Departure.mixedOrders = true := by kernel_rfl
 have hn63 : E.length ≤ 9223372036854775807 := by have := hcl.2; unfold maxLen at this; omega
 have D0 : w.drew.cell? ⟨b2, 0, none⟩ = some (.pointer (some ⟨R, 0, none⟩)) := c2
 have D1 : w.drew.cell? ⟨b3, 5, none⟩ = _ := c3
 have E0 : w.drew.cell? ⟨Bk, o + i * 7, none⟩ = _ := k0
 have E1 : w.drew.cell? ⟨Bk, o + i * 7 + 1, none⟩ = _ := k1
 have E2 : w.drew.cell? ⟨Bk, o + i * 7 + 2, none⟩ = _ := k2
 have E3 : w.drew.cell? ⟨Bk, o + i * 7 + 3, none⟩ = _ := k3
 have E4 : w.drew.cell? ⟨Bk, o + i * 7 + 4, none⟩ = _ := k4
 have E5 : w.drew.cell? ⟨Bk, o + i * 7 + 5, none⟩ = _ := k5
 have E6 : w.drew.cell? ⟨Bk, o + i * 7 + 6, none⟩ = _ := k6
 have HDR : Hid (∀ w', Below B w.drew w' → KeptR R w.drew w' → Below B w w' ∧ KeptR R w w') := hide fun w' p q => ⟨(Below.drew (Below.refl B w)).trans p, fun k o hk a b => q k o hk a b⟩
 clear hg hT hR hly q2 q3 hv hG hy et hlen hi hGy hky hk hkz hks
 show Calls Tryz.prog 71 #[.int .i64 (i : Int), .pointer (some ⟨b2, 0, none⟩), .pointer (some ⟨b3, 0, none⟩)] w _
 go_enter Tryz.func71, Tryz.ntmps71
 go_region_with (go_at_call 72; refine (unhide KV).mono ?_; rintro e w1 ⟨⟨v, rfl⟩, g1, b1, k1'⟩)
 all_goals
  have H1 := hide (And.intro g1 (HDR.out _ b1 k1'))
  clear g1 b1 k1'
  go_wp2
  go_end0
  exact ⟨⟨_, rfl⟩, H1.out.1, H1.out.2.1, H1.out.2.2⟩
end Go.Proofs.YtnbfnjhbmeocfabGreatDoor.valus
namespace Go.Proofs.YtnbfnjhbmeocfabGreatDoor.valus
open Go.RowKit
open bigs (TextIs)
theorem boxes_two (B R : Nat) (w : World) (cs : Array Value) (hR : R < w.heap.size) :
  Boxes B R w.heap.size (w.heap.size + 1) cs ((w.alloc (.cells #[.pointer (some ⟨R, 0, none⟩)] 91)).alloc (.cells cs 26)) ∧ Below w.heap.size w ((w.alloc (.cells #[.pointer (some ⟨R, 0, none⟩)] 91)).alloc (.cells cs 26)) := by
 refine ⟨⟨⟨hR, by omega⟩, (blk_alloc w _ _).alloc _, ?_⟩, ((Below.refl _ w).alloc (Nat.le_refl _) _).alloc (by simp) _⟩
 have h := blk_alloc (w.alloc (.cells #[.pointer (some ⟨R, 0, none⟩)] 91)) cs 26
 rwa [World.size_alloc] at h
section
variable (B R f : Nat) (F : Nat → List UInt8) (many : Bool) (fm : Int) (w : World) (l : List UInt8) (d : Nat) (n : Int) (b : Nat) (s : ByteArray)
theorem valS_list (hfm : FmIs many fm) (ih : ValT B R F many fm f) (pL : Option Addr) (L : List V) (cL : Nat) (pE : Option Addr) (nE cE : Nat) (hg : Pg B R l (d : Int) fm w) (hT : Tb B w) (hBw : B ≤ w.heap.size) (hcl : L.length ≤ cL ∧ cL ≤ maxLen) (hps : L.length ≤ 9223372036854775807) (rL : RowIn (fun q => q < B) w pL 6 L.length (fun j us => ∃ y, L[j]? = some y ∧ LiesB B f w us y)) (hG : ∀ y ∈ L, GoodV f y) (hd : d + f ≤ 999) (hlen : l.length + (91 :: (betwL many d (L.map (toldV F many f (d + 1))) ++ [93])).length ≤ 140737488355328) :
  Calls Tryz.prog 35 #[.pointer (some ⟨R, 0, none⟩), .agg #[.int .i64 5, .int .i64 n, .int .u64 (b : Int), .string s, .slice pL L.length cL, .slice pE nE cE]] w fun e w' => (∃ v, e = .returned v) ∧ Pg B R (l ++ 91 :: (betwL many d (L.map (toldV F many f (d + 1))) ++ [93])) (d : Int) fm w' ∧ Below B w w' ∧ KeptR R w w' := by
 obtain ⟨hX, bX⟩ := boxes_two B R w #[.int .i64 5, .int .i64 n, .int .u64 (b : Int), .string s, .slice pL L.length cL, .slice pE nE cE] hg.lt
 have hdi : inner many d + f ≤ 1000 := by unfold inner; split <;> omega
 have em : L.map (toldV F many f (inner many d)) = L.map (toldV F many f (d + 1)) := List.map_congr_left (fun x _ => inner_told F many f d x)
 have hTell := clo1 B R w.heap.size (w.heap.size + 1) f F many fm (inner many d) ih hdi L hG (.int .i64 5) (.int .i64 n) (.int .u64 (b : Int)) (.string s) (.slice pE nE cE) pL cL hcl
 rw [em] at hTell
 have nextR : ∀ w w', Below B w w' → RowIn (fun q => q < B) w pL 6 L.length (fun j us => ∃ y, L[j]? = some y ∧ LiesB B f w us y) → RowIn (fun q => q < B) w' pL 6 L.length (fun j us => ∃ y, L[j]? = some y ∧ LiesB B f w' us y) := fun w w' hb h => h.kept (fun _ h => h) hb.size (fun q hq _ => hb.block q hq) (fun j us _ ⟨y, h1, h2⟩ => ⟨y, h1, h2.next hb⟩)
 have bXB := bX.mono hBw
 have KB := between1 B R w.heap.size (w.heap.size + 1) many fm hfm d (by omega) (L.map (toldV F many f (d + 1))) _ (fun w w' ⟨h1, h2, h3⟩ hb hk => ⟨h1.next hk, h2.next hb, nextR w w' hb h3⟩) hTell _ l 91 93 (hg.below bX) ⟨hX, hT.next bXB, nextR _ _ bXB rL⟩ (by have := bX.size; omega) hlen (by rw [List.length_map]; exact hps)
 rw [List.length_map] at KB
 have HK := hide KB
 obtain ⟨_, q2, q3⟩ := hX
 have c2 := q2.cell 0 _ rfl
 have c30 := q3.cell 0 _ rfl
 have c34 := q3.cell 4 _ rfl
 have FIN : Hid (∀ w', Below B ((w.alloc (.cells #[.pointer (some ⟨R, 0, none⟩)] 91)).alloc (.cells #[.int .i64 5, .int .i64 n, .int .u64 (b : Int), .string s, .slice pL L.length cL, .slice pE nE cE] 26)) w' → KeptR R ((w.alloc (.cells #[.pointer (some ⟨R, 0, none⟩)] 91)).alloc (.cells #[.int .i64 5, .int .i64 n, .int .u64 (b : Int), .string s, .slice pL L.length cL, .slice pE nE cE] 26)) w' → Below B w w' ∧ KeptR R w w') := hide fun w' h1 h2 => ⟨bXB.trans h1, (KeptR.below bX).trans h2⟩
 clear KB q2 q3 hTell nextR bX bXB hg hT rL hG ih em hlen
 go_enter Tryz.func35, Tryz.ntmps35
 go_wp2_with (go_at_call 69; refine (unhide HK).mono ?_; rintro e w1 ⟨⟨v, rfl⟩, g1, b1, k1⟩)
 go_end0
 exact ⟨⟨_, rfl⟩, g1, FIN.out _ b1 k1⟩
theorem valS_table (hfm : FmIs many fm) (ih : ValT B R F many fm f) (pL : Option Addr) (nL cL : Nat) (pE : Option Addr) (E : List V) (cE : Nat) (hg : Pg B R l (d : Int) fm w) (hT : Tb B w) (hBw : B ≤ w.heap.size) (hcl : E.length ≤ cE ∧ cE ≤ maxLen) (hps : E.length ≤ 9223372036854775807) (rE : RowIn (fun q => q < B) w pE 7 E.length (fun j us => ∃ (key : ByteArray) (y : V) (xs : List Value), E[j]? = some (ent key.data.toList y) ∧ us = .string key :: xs ∧ key.size ≤ maxLen ∧ LiesB B f w xs y)) (hG : ∀ e ∈ E, GoodV f (opnE e).2) (hk : ∀ e ∈ E, (opnE e).1.length ≤ 100) (hd : d + f ≤ 999) (hlen : l.length + (123 :: (betwL many d (E.map (fun e => entT (opnE e).1 (toldV F many f (d + 1) (opnE e).2))) ++ [125])).length ≤ 140737488355328) :
  Calls Tryz.prog 35 #[.pointer (some ⟨R, 0, none⟩), .agg #[.int .i64 6, .int .i64 n, .int .u64 (b : Int), .string s, .slice pL nL cL, .slice pE E.length cE]] w fun e w' => (∃ v, e = .returned v) ∧ Pg B R (l ++ 123 :: (betwL many d (E.map (fun e => entT (opnE e).1 (toldV F many f (d + 1) (opnE e).2))) ++ [125])) (d : Int) fm w' ∧ Below B w w' ∧ KeptR R w w' := by
 obtain ⟨hX, bX⟩ := boxes_two B R w #[.int .i64 6, .int .i64 n, .int .u64 (b : Int), .string s, .slice pL nL cL, .slice pE E.length cE] hg.lt
 have hdi : inner many d + f ≤ 1000 := by unfold inner; split <;> omega
 have em : E.map (fun e => entT (opnE e).1 (toldV F many f (inner many d) (opnE e).2)) = E.map (fun e => entT (opnE e).1 (toldV F many f (d + 1) (opnE e).2)) := List.map_congr_left (fun x _ => by rw [inner_told])
 have hTell := clo2 B R w.heap.size (w.heap.size + 1) f F many fm (inner many d) ih hdi E hG hk (.int .i64 6) (.int .i64 n) (.int .u64 (b : Int)) (.string s) (.slice pL nL cL) pE cE hcl
 rw [em] at hTell
 have nextR : ∀ w w', Below B w w' → RowIn (fun q => q < B) w pE 7 E.length (fun j us => ∃ (key : ByteArray) (y : V) (xs : List Value), E[j]? = some (ent key.data.toList y) ∧ us = .string key :: xs ∧ key.size ≤ maxLen ∧ LiesB B f w xs y) → RowIn (fun q => q < B) w' pE 7 E.length (fun j us => ∃ (key : ByteArray) (y : V) (xs : List Value), E[j]? = some (ent key.data.toList y) ∧ us = .string key :: xs ∧ key.size ≤ maxLen ∧ LiesB B f w' xs y) := fun w w' hb h => h.kept (fun _ h => h) hb.size (fun q hq _ => hb.block q hq) (fun j us _ ⟨key, y, xs, h1, h2, h3, h4⟩ => ⟨key, y, xs, h1, h2, h3, h4.next hb⟩)
 have bXB := bX.mono hBw
 have KB := between2 B R w.heap.size (w.heap.size + 1) many fm hfm d (by omega) (E.map (fun e => entT (opnE e).1 (toldV F many f (d + 1) (opnE e).2))) _ (fun w w' ⟨h1, h2, h3⟩ hb hk => ⟨h1.next hk, h2.next hb, nextR w w' hb h3⟩) hTell _ l 123 125 (hg.below bX) ⟨hX, hT.next bXB, nextR _ _ bXB rE⟩ (by have := bX.size; omega) hlen (by rw [List.length_map]; exact hps)
 rw [List.length_map] at KB
 have HK := hide KB
 obtain ⟨_, q2, q3⟩ := hX
 have c2 := q2.cell 0 _ rfl
 have c30 := q3.cell 0 _ rfl
 have c35 := q3.cell 5 _ rfl
 have FIN : Hid (∀ w', Below B ((w.alloc (.cells #[.pointer (some ⟨R, 0, none⟩)] 91)).alloc (.cells #[.int .i64 6, .int .i64 n, .int .u64 (b : Int), .string s, .slice pL nL cL, .slice pE E.length cE] 26)) w' → KeptR R ((w.alloc (.cells #[.pointer (some ⟨R, 0, none⟩)] 91)).alloc (.cells #[.int .i64 6, .int .i64 n, .int .u64 (b : Int), .string s, .slice pL nL cL, .slice pE E.length cE] 26)) w' → Below B w w' ∧ KeptR R w w') := hide fun w' h1 h2 => ⟨bXB.trans h1, (KeptR.below bX).trans h2⟩
 clear KB q2 q3 hTell nextR bX bXB hg hT rE hG ih em hlen hk
 go_enter Tryz.func35, Tryz.ntmps35
 go_wp2_with (go_at_call 69; refine (unhide HK).mono ?_; rintro e w1 ⟨⟨v, rfl⟩, g1, b1, k1⟩)
 go_end0
 exact ⟨⟨_, rfl⟩, g1, FIN.out _ b1 k1⟩
theorem valS_leaf (hF : ∀ b, b < 18446744073709551616 → TextIs b (F b)) (k : Int) (k5 : (k == 5) = false) (k6 : (k == 6) = false) (hn : -9223372036854775808 ≤ n ∧ n ≤ 9223372036854775807) (hb : b < 18446744073709551616) (hs : s.size ≤ 1073741824) (pL : Option Addr) (nL cL : Nat) (pE : Option Addr) (nE cE : Nat) (hg : Pg B R l (d : Int) fm w) (hT : Tb B w) (hBw : B ≤ w.heap.size) (hlen : l.length + (leafT F (k, n, b, s.data.toList)).length ≤ 140737488355328) :
  Calls Tryz.prog 35 #[.pointer (some ⟨R, 0, none⟩), .agg #[.int .i64 k, .int .i64 n, .int .u64 (b : Int), .string s, .slice pL nL cL, .slice pE nE cE]] w fun e w' => (∃ v, e = .returned v) ∧ Pg B R (l ++ leafT F (k, n, b, s.data.toList)) (d : Int) fm w' ∧ Below B w w' ∧ KeptR R w w' := by
 have e5 : ¬ k = 5 := ne_of_beq_false k5
 have e6 : ¬ k = 6 := ne_of_beq_false k6
 obtain ⟨hX, bX⟩ := boxes_two B R w #[.int .i64 k, .int .i64 n, .int .u64 (b : Int), .string s, .slice pL nL cL, .slice pE nE cE] hg.lt
 have bXB := bX.mono hBw
 obtain ⟨T, hTT⟩ : ∃ T, T = leafT F (k, n, b, s.data.toList) := ⟨_, rfl⟩
 obtain ⟨W, hW⟩ : ∃ W, W = (w.alloc (.cells #[.pointer (some ⟨R, 0, none⟩)] 91)).alloc (.cells #[.int .i64 k, .int .i64 n, .int .u64 (b : Int), .string s, .slice pL nL cL, .slice pE nE cE] 26) := ⟨_, rfl⟩
 have hsz : W.heap.size = w.heap.size + 2 := by rw [hW]; simp
 rw [← hW] at hX bX bXB
 have KL := leafS_any hF W.drew k n b s pL pE nL cL nE cE hn hb hs ((hT.next bXB).tabs.below (Below.drew (Below.refl _ W)))
 rw [← hTT] at KL hlen ⊢
 have HKL := hide KL
 have KW : Hid (∀ w1, Below W.drew.heap.size W.drew w1 → Calls Tryz.prog 73 #[.pointer (some ⟨R, 0, none⟩), .string ⟨T.toArray⟩] w1 fun e w' => e = .returned (.tuple #[]) ∧ Pg B R (l ++ T) (d : Int) fm w' ∧ Below B w w' ∧ KeptR R w w') := hide fun w1 hb1 => by
  have b01 : Below w.heap.size w w1 := (bX.trans (Below.drew (Below.refl _ W))).trans (hb1.mono (by show w.heap.size ≤ W.heap.size; omega))
  refine (pgWrite B R l T d fm w1 (hg.below b01) hlen (by have := b01.size; omega)).mono ?_
  rintro e w' ⟨h1, h2, h3, h4⟩
  exact ⟨h1, h2, (b01.mono hBw).trans h3, (KeptR.below b01).trans h4⟩
 obtain ⟨_, q2, q3⟩ := hX
 have D0 : W.drew.cell? ⟨w.heap.size, 0, none⟩ = some (.pointer (some ⟨R, 0, none⟩)) := q2.cell 0 _ rfl
 have D1 : ∀ w1, Hid (Below W.drew.heap.size W.drew w1 → w1.cell? ⟨w.heap.size, 0, none⟩ = some (.pointer (some ⟨R, 0, none⟩))) := fun w1 => hide fun hb1 => (hb1.cell (p := ⟨w.heap.size, 0, none⟩) (by show w.heap.size < W.heap.size; omega)).trans D0
 have C0 : W.cell? ⟨w.heap.size + 1, 0, none⟩ = _ := q3.cell 0 _ rfl
 have E0 : W.drew.cell? ⟨w.heap.size + 1, 0, none⟩ = _ := q3.cell 0 _ rfl
 have E1 : W.drew.cell? ⟨w.heap.size + 1, 1, none⟩ = _ := q3.cell 1 _ rfl
 have E2 : W.drew.cell? ⟨w.heap.size + 1, 2, none⟩ = _ := q3.cell 2 _ rfl
 have E3 : W.drew.cell? ⟨w.heap.size + 1, 3, none⟩ = _ := q3.cell 3 _ rfl
 have E4 : W.drew.cell? ⟨w.heap.size + 1, 4, none⟩ = _ := q3.cell 4 _ rfl
 have E5 : W.drew.cell? ⟨w.heap.size + 1, 5, none⟩ = _ := q3.cell 5 _ rfl
 have mixed : Tryz.prog.follows Departure.mixedOrders = true := by kernel_rfl
 clear q2 q3 KL hg hT hlen bX bXB hsz hTT hF
 go_enter Tryz.func35, Tryz.ntmps35
 go_upto_region 1 with fail
 rw [← hW]
 clear hW
 go_wp2
 go_region_with (first
  | (go_at_call 74; refine (unhide HKL).mono ?_; rintro e w1 ⟨rfl, b1⟩; have D2 := unhide (D1 w1) b1; have KW1 := hide (KW.out w1 b1); clear b1)
  | (go_at_call 73; refine (unhide KW1).mono ?_; rintro e w2 ⟨rfl, g2⟩))
 all_goals
  have H2 := hide g2
  clear g2
  go_wp2
  go_end0
  exact ⟨⟨_, rfl⟩, H2.out⟩
end
theorem value_all (B R : Nat) {F : Nat → List UInt8} (hF : ∀ b, b < 18446744073709551616 → TextIs b (F b)) (many : Bool) (fm : Int) (hfm : FmIs many fm) : ∀ f, ValT B R F many fm f
 | 0 => fun w l d k n b s pL nL cL pE nE cE t _ _ _ hl => hl.elim
 | f + 1 => fun w l d k n b s pL nL cL pE nE cE t hg hT hBw hl hG hd hlen => by
  have ih := value_all B R hF many fm hfm f
  obtain ⟨k', n', b', s', L, E, pL', pE', cL', cE', rfl, e2, ⟨h1, h2, h3, h4⟩, ⟨h5, h6, h7, h8⟩, rL, rE⟩ := hl
  injection e2 with e0 e2
  injection e0 with _ e0
  injection e2 with e1 e2
  injection e1 with _ e1
  injection e2 with eb e2
  injection eb with _ eb
  injection e2 with es e2
  injection es with es
  injection e2 with eL e2
  injection eL with eL1 eL2 eL3
  injection e2 with eE _
  injection eE with eE1 eE2 eE3
  have eb' : b = b' := by omega
  subst e0 e1 eb' es eL1 eL2 eL3 eE1 eE2 eE3
  obtain ⟨o, ⟨ho1, ho2⟩, gL, gE⟩ := hG
  rw [opn_mk] at o ho1 ho2 gL gE
  simp only at ho1 ho2 gL gE
  have hsz : s.size ≤ 1073741824 := by
   have e : s.data.toList.length = s.size := by rw [Array.length_toList]; rfl
   omega
  rw [toldV, opn_mk] at hlen ⊢
  simp only at hlen ⊢
  have hfewL : L.length ≤ 9223372036854775807 := by unfold maxLen at h6; omega
  have hfewE : E.length ≤ 9223372036854775807 := by unfold maxLen at h8; omega
  by_cases k5 : k = 5
  ·subst k5
   rw [if_pos rfl] at hlen ⊢
   exact valS_list B R f F many fm w l d n b s hfm ih pL L cL pE E.length cE hg hT hBw ⟨h5, h6⟩ hfewL rL gL (by omega) hlen
  ·rw [if_neg k5] at hlen ⊢
   by_cases k6 : k = 6
   ·subst k6
    rw [if_pos rfl] at hlen ⊢
    exact valS_table B R f F many fm w l d n b s hfm ih pL L.length cL pE E cE hg hT hBw ⟨h7, h8⟩ hfewE rE gE ho2 (by omega) hlen
   ·rw [if_neg k6] at hlen ⊢
    exact valS_leaf B R F fm w l d n b s hF k (beq_false_of_ne k5) (beq_false_of_ne k6) h2 h3 hsz pL L.length cL pE E.length cE hg hT hBw hlen
end Go.Proofs.YtnbfnjhbmeocfabGreatDoor.valus
namespace Go.Proofs.YtnbfnjhbmeocfabGreatDoor.valus
open Go.RowKit
theorem nanI_any (w : World) (a : Int) : Calls Tryz.prog 106 #[.int .i64 a] w fun e w' => e = .returned (.bool false) ∧ w' = w := by
 go_enter Tryz.func106, Tryz.ntmps106
 go_wp2
 go_ret
 exact ⟨by simp, rfl⟩
theorem nanL_any (w : World) (a : Int) : Calls Tryz.prog 107 #[.int .i64 a] w fun e w' => e = .returned (.bool false) ∧ w' = w := by
 go_enter Tryz.func107, Tryz.ntmps107
 go_wp2
 go_ret
 exact ⟨by simp, rfl⟩
theorem nanU_any (w : World) (a : Int) : Calls Tryz.prog 108 #[.int .u64 a] w fun e w' => e = .returned (.bool false) ∧ w' = w := by
 go_enter Tryz.func108, Tryz.ntmps108
 go_wp2
 go_ret
 exact ⟨by simp, rfl⟩
theorem ordI_cases (a b : Int) : ordI (cmpI a b) = if a < b then -1 else if a > b then 1 else 0 := by
 unfold cmpI
 split
 ·rfl
 ·split
  ·rw [if_neg (by omega)]
   rfl
  ·rw [if_pos (by omega)]
   rfl
theorem compI_any (w : World) (a b : Int) : Calls Tryz.prog 65 #[.int .i64 a, .int .i64 b] w fun e w' => e = .returned (.int .i64 (ordI (cmpI a b))) ∧ w' = w := by
 have h := ordI_cases a b
 by_cases h1 : a < b
 ·rw [if_pos h1] at h
  rw [h]
  clear h
  go_enter Tryz.func65, Tryz.ntmps65
  go_wp2_with (go_at_call 106; refine (nanI_any _ _).mono ?_; rintro e w1 ⟨rfl, rfl⟩)
  go_ret
  exact ⟨rfl, rfl⟩
 ·rw [if_neg h1] at h
  by_cases h2 : a > b
  ·rw [if_pos h2] at h
   rw [h]
   clear h
   go_enter Tryz.func65, Tryz.ntmps65
   go_wp2_with (go_at_call 106; refine (nanI_any _ _).mono ?_; rintro e w1 ⟨rfl, rfl⟩)
   go_ret
   exact ⟨rfl, rfl⟩
  ·rw [if_neg h2] at h
   rw [h]
   clear h
   go_enter Tryz.func65, Tryz.ntmps65
   go_wp2_with (go_at_call 106; refine (nanI_any _ _).mono ?_; rintro e w1 ⟨rfl, rfl⟩)
   go_ret
   exact ⟨rfl, rfl⟩
theorem compL_any (w : World) (a b : Int) : Calls Tryz.prog 66 #[.int .i64 a, .int .i64 b] w fun e w' => e = .returned (.int .i64 (ordI (cmpI a b))) ∧ w' = w := by
 have h := ordI_cases a b
 by_cases h1 : a < b
 ·rw [if_pos h1] at h
  rw [h]
  clear h
  go_enter Tryz.func66, Tryz.ntmps66
  go_wp2_with (go_at_call 107; refine (nanL_any _ _).mono ?_; rintro e w1 ⟨rfl, rfl⟩)
  go_ret
  exact ⟨rfl, rfl⟩
 ·rw [if_neg h1] at h
  by_cases h2 : a > b
  ·rw [if_pos h2] at h
   rw [h]
   clear h
   go_enter Tryz.func66, Tryz.ntmps66
   go_wp2_with (go_at_call 107; refine (nanL_any _ _).mono ?_; rintro e w1 ⟨rfl, rfl⟩)
   go_ret
   exact ⟨rfl, rfl⟩
  ·rw [if_neg h2] at h
   rw [h]
   clear h
   go_enter Tryz.func66, Tryz.ntmps66
   go_wp2_with (go_at_call 107; refine (nanL_any _ _).mono ?_; rintro e w1 ⟨rfl, rfl⟩)
   go_ret
   exact ⟨rfl, rfl⟩
theorem compU_any (w : World) (a b : Int) : Calls Tryz.prog 67 #[.int .u64 a, .int .u64 b] w fun e w' => e = .returned (.int .i64 (ordI (cmpI a b))) ∧ w' = w := by
 have h := ordI_cases a b
 by_cases h1 : a < b
 ·rw [if_pos h1] at h
  rw [h]
  clear h
  go_enter Tryz.func67, Tryz.ntmps67
  go_wp2_with (go_at_call 108; refine (nanU_any _ _).mono ?_; rintro e w1 ⟨rfl, rfl⟩)
  go_ret
  exact ⟨rfl, rfl⟩
 ·rw [if_neg h1] at h
  by_cases h2 : a > b
  ·rw [if_pos h2] at h
   rw [h]
   clear h
   go_enter Tryz.func67, Tryz.ntmps67
   go_wp2_with (go_at_call 108; refine (nanU_any _ _).mono ?_; rintro e w1 ⟨rfl, rfl⟩)
   go_ret
   exact ⟨rfl, rfl⟩
  ·rw [if_neg h2] at h
   rw [h]
   clear h
   go_enter Tryz.func67, Tryz.ntmps67
   go_wp2_with (go_at_call 108; refine (nanU_any _ _).mono ?_; rintro e w1 ⟨rfl, rfl⟩)
   go_ret
   exact ⟨rfl, rfl⟩
def orF : List Int → Int
 | [] => 0
 | z :: r => if z = 0 then orF r else z
theorem or_any (w : World) (B : Nat) (zs : List Int) (hl : zs.length ≤ 1000) (hc : ∀ (j : Nat) (z : Int), zs[j]? = some z → w.cell? ⟨B, j, none⟩ = some (.int .i64 z)) (c : Nat) : Calls Tryz.prog 64 #[.slice (some ⟨B, 0, none⟩) zs.length c] w fun e w' => e = .returned (.int .i64 (orF zs)) ∧ w' = w := by
 have HC := hide hc
 clear hc
 go_enter Tryz.func64, Tryz.ntmps64
 go_wp2
 go_loopw [8] (fun i wr => ∃ j : Nat, i = .int .i64 j ∧ j ≤ zs.length ∧ Hid (orF (zs.drop j) = orF zs) ∧ wr = w) (fun i _ => zs.length - (intOf i).toNat)
 case atStart => exact ⟨0, rfl, Nat.zero_le _, rfl, rfl⟩
 case round =>
  obtain ⟨j, rfl, hj, hacc, hwr⟩ := hrel
  rw [hwr]
  clear hwr wr
  by_cases hlt : j < zs.length
  ·obtain ⟨z, hz⟩ : ∃ z, zs[j]? = some z := ⟨_, List.getElem?_eq_getElem hlt⟩
   have q := HC.out j z hz
   have hstep : orF (zs.drop j) = if z = 0 then orF (zs.drop (j + 1)) else z := by
    obtain ⟨h1, h2⟩ := List.getElem?_eq_some_iff.1 hz
    rw [List.drop_eq_getElem_cons h1, h2]
    rfl
   rw [hacc.out] at hstep
   have HS := hide hstep
   clear hstep hacc hz
   by_cases h0 : z = 0
   ·subst h0
    go_wp2
    go_roundw
    case rel => exact ⟨j + 1, by simp, by omega, by have := HS.out; rw [if_pos rfl] at this; exact this.symm, by first | rfl | trivial⟩
    case measure => simp [intOf]; omega
   ·have h1 : (z != 0) = true := bne_iff_ne.2 h0
    have HV := HS.out
    rw [if_neg h0] at HV
    have HV2 := hide HV
    clear HV HS
    go_wp2
    go_ret
    exact ⟨by rw [HV2.out]; rfl, rfl⟩
  ·obtain rfl : j = zs.length := by omega
   have hz : orF zs = 0 := by rw [← hacc.out, List.drop_length]; rfl
   have HZ := hide hz
   clear hz hacc
   go_wp2
   go_ret
   exact ⟨by rw [HZ.out]; rfl, rfl⟩
def rankN (b : Nat) : Nat := if b < 9223372036854775808 then b + 9223372036854775808 else 18446744073709551615 - b
theorem rank_key {b : Nat} (h : b < 18446744073709551616) : fkey b = (rankN b : Int) - 9223372036854775808 := by
 unfold fkey rankN
 split <;> omega
theorem cmpI_shift (x y c : Int) : cmpI (x - c) (y - c) = cmpI x y := by
 have e1 : (x - c < y - c) ↔ (x < y) := by omega
 have e2 : (x - c = y - c) ↔ (x = y) := by omega
 unfold cmpI
 simp only [e1, e2]
theorem rank_cmp {a b : Nat} (ha : a < 18446744073709551616) (hb : b < 18446744073709551616) : cmpI (rankN a : Int) (rankN b : Int) = cmpI (fkey a) (fkey b) := by
 rw [rank_key ha, rank_key hb, cmpI_shift]
theorem wrapsW64 : ∀ n : Int, 0 ≤ n → n < 2 ^ 64 → IntKind.u64.wrap n = n := fun n h1 h2 => by
 simp only [IntKind.wrap, IntKind.bits, IntKind.signed]
 have e : ((2 : Int) ^ 64) = 18446744073709551616 := by decide
 simp [e] at *
 omega
theorem top_and {b : Nat} (hb : b < 18446744073709551616) : Go.bits .and .u64 (b : Int) 9223372036854775808 = if b < 9223372036854775808 then 0 else 9223372036854775808 := by
 have h := (bits_nat .u64 64 (by decide) wrapsW64 b 9223372036854775808 (by omega) (by omega)).1
 have e : ((9223372036854775808 : Nat) : Int) = 9223372036854775808 := rfl
 rw [e] at h
 rw [h]
 have e2 : (9223372036854775808 : Nat) = 2 ^ 63 := by decide
 by_cases c : b < 9223372036854775808
 ·rw [if_pos c]
  have : b &&& 9223372036854775808 = 0 := by
   apply Nat.eq_of_testBit_eq
   intro i
   rw [e2, Nat.testBit_and, Nat.testBit_two_pow, Nat.zero_testBit]
   by_cases hi : 63 = i
   ·subst hi
    rw [Nat.testBit_lt_two_pow (by omega)]
    rfl
   ·simp [hi]
  rw [this]
  rfl
 ·rw [if_neg c]
  have : b &&& 9223372036854775808 = 9223372036854775808 := by
   apply Nat.eq_of_testBit_eq
   intro i
   rw [e2, Nat.testBit_and, Nat.testBit_two_pow]
   by_cases hi : 63 = i
   ·subst hi
    have : b.testBit 63 = true := by
     rw [Nat.testBit_eq_decide_div_mod_eq]
     exact decide_eq_true (by omega)
    rw [this]
    rfl
   ·simp [hi]
  rw [this]
  rfl
theorem ret_u64 {a b : Int} (h : a = b) : Ending.returned (.int .u64 a) = Ending.returned (.int .u64 b) := by rw [h]
theorem top_or {b : Nat} (hb : b < 9223372036854775808) : Go.bits .or .u64 (b : Int) 9223372036854775808 = ((b + 9223372036854775808 : Nat) : Int) := by
 have h := (bits_nat .u64 64 (by decide) wrapsW64 b 9223372036854775808 (by omega) (by omega)).2
 have e : ((9223372036854775808 : Nat) : Int) = 9223372036854775808 := rfl
 rw [e] at h
 rw [h]
 congr 1
 rw [Nat.or_comm, show (9223372036854775808 : Nat) = 2 ^ 63 * 1 by decide, ← Nat.two_pow_add_eq_or_of_lt (i := 63) (by omega) 1]
 omega
theorem top_xor {b : Nat} (hb : b < 18446744073709551616) : Go.bits .xor .u64 IntKind.u64.max (b : Int) = ((18446744073709551615 - b : Nat) : Int) := by
 have e : BitVec.ofInt 64 IntKind.u64.max = BitVec.allOnes 64 := by decide
 have h : Go.bits .xor .u64 IntKind.u64.max (b : Int) = IntKind.u64.wrap ((BitVec.ofInt 64 IntKind.u64.max ^^^ BitVec.ofInt 64 (b : Int)).toNat : Int) := rfl
 rw [h, e, BitVec.allOnes_xor, BitVec.toNat_not, BitVec.ofInt_natCast, BitVec.toNat_ofNat, Nat.mod_eq_of_lt (by omega), wrapsW64 _ (by omega) (by omega)]
theorem rank_any (w : World) (b : Nat) (hb : b < 18446744073709551616) : Calls Tryz.prog 68 #[.int .u64 (b : Int)] w fun e w' => e = .returned (.int .u64 (rankN b : Int)) ∧ w' = w := by
 have h1 := top_and hb
 by_cases c : b < 9223372036854775808
 ·rw [if_pos c] at h1
  have h2 := top_or c
  have HV : Hid (rankN b = b + 9223372036854775808) := hide (if_pos c)
  clear c hb
  go_enter Tryz.func68, Tryz.ntmps68
  go_wp2
  go_ret
  exact ⟨ret_u64 (by rw [HV.out]; omega), rfl⟩
 ·rw [if_neg c] at h1
  have h2 := top_xor hb
  have HV : Hid (rankN b = 18446744073709551615 - b) := hide (if_neg c)
  clear c hb
  go_enter Tryz.func68, Tryz.ntmps68
  go_wp2
  go_ret
  exact ⟨ret_u64 (by rw [HV.out]), rfl⟩
end Go.Proofs.YtnbfnjhbmeocfabGreatDoor.valus
