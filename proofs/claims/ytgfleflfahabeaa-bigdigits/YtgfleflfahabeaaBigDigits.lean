/- The walk of the law that a number is read as it was told, and that there is one text of it, by what each call of package big answers. -/
import Derived.Test.YtgfleflfahabeaaBigPowers
set_option linter.unusedVariables false
namespace Go.Proofs.Ytgfleflfahabeaa.bigs
open Go.RowKit

theorem textN (D : Face2) (w : World) (v : Value) (n : Nat) (h : Num w v n) : Calls Try.prog 29 #[v] w fun e w' => e = .returned (.string ⟨(decs n).toArray⟩) ∧ Below w.heap.size w w' := by
  obtain ⟨l, h1, h2, h3, rfl⟩ := h
  exact D.text w v l h1 h2 h3


set_option maxHeartbeats 8000000 in
set_option maxRecDepth 100000 in
theorem digits_less_large (C : Face1) (D : Face2) (w : World) (a b : Option Addr) (ca cb : Nat) (l k : List Nat) (s : ByteArray) (x y : Nat) (hl : l.length ≤ 100) (hk : k.length ≤ 100) (hA : Num w (.slice a l.length ca) x) (hB : Num w (.slice b k.length cb) y) (hx : (wdig x).length ≤ 100) (hy : (wdig y).length ≤ 100) (hxy : x < y) (hne : (decs x).length ≠ (decs y).length) (hs : 1000 < s.size) (hs2 : s.size ≤ 140737488355328) :
    Calls Try.prog 8 #[.slice a l.length ca, .slice b k.length cb, .string s] w fun e w' => e = .returned (.bool true) ∧ Below w.heap.size w w' := by
  have bw := Below.refl w.heap.size w
  have hfit : ∀ {w v x}, WBig w v x → (wdig x).length ≤ 2000 → Num w v x := fun h h2 => h.num h2
  have K1 : ∀ u v, Num u v x → Hid _ := fun u v h => hide (textN D u v x h)
  have K2 : ∀ u v, Num u v y → Hid _ := fun u v h => hide (textN D u v y h)
  have zT : (⟨(decs x).toArray⟩ : ByteArray).size = (decs x).length := by simp [ByteArray.size]
  have zU : (⟨(decs y).toArray⟩ : ByteArray).size = (decs y).length := by simp [ByteArray.size]
  have lT := decs_words hx
  have lU := decs_words hy
  have K3 : ∀ u, Hid _ := fun u => hide (D.read u ⟨(decs x).toArray⟩ (by omega) (decs_form x))
  have e1 : dec (⟨(decs x).toArray⟩ : ByteArray).data.toList = x := dec_decs x
  rw [e1] at K3
  have hmo := decs_mono (Nat.le_of_lt hxy)
  have ez : sgn x y = -1 := sgn_lt hxy
  have EZ := hide ez
  clear ez
  have K5 : ∀ u, Hid _ := fun u => hide (D.readLarge u s hs hs2)
  generalize (⟨(decs x).toArray⟩ : ByteArray) = T at *
  generalize (⟨(decs y).toArray⟩ : ByteArray) = U at *
  generalize (decs x).length = lx at *
  generalize (decs y).length = ly at *
  go_enter Try.func8, Try.ntmps8
  go_wp2_with fail
  refine (bigs_any D _).mono ?_
  rintro e w1 ⟨rfl, b1⟩
  replace hA := hA.below b1
  replace hB := hB.below b1
  replace bw := bw.trans (b1.mono bw.size)
  clear b1
  go_wp2_with fail
  refine (unhide (K1 _ _ hA)).mono ?_
  rintro e w2 ⟨rfl, b2⟩
  replace hA := hA.below b2
  replace hB := hB.below b2
  replace bw := bw.trans (b2.mono bw.size)
  clear b2
  go_wp2_with fail
  refine (unhide (K2 _ _ hB)).mono ?_
  rintro e w3 ⟨rfl, b3⟩
  replace hA := hA.below b3
  replace hB := hB.below b3
  replace bw := bw.trans (b3.mono bw.size)
  clear b3
  go_wp2_with fail
  refine (unhide (K3 _)).mono ?_
  rintro e w4 ⟨v1, rfl, h1, b4⟩
  replace hA := hA.below b4
  replace hB := hB.below b4
  replace bw := bw.trans (b4.mono bw.size)
  clear b4
  go_wp2_with fail
  refine (trimN C _ _ x hA).mono ?_
  rintro e w5 ⟨v2, rfl, h2, b5⟩
  replace hA := hA.below b5
  replace hB := hB.below b5
  replace h1 := h1.below b5
  replace bw := bw.trans (b5.mono bw.size)
  clear b5
  go_wp2_with fail
  refine (equalN _ _ _ _ _ rfl (by omega) h1 h2).mono ?_
  rintro e w6 ⟨rfl, b6⟩
  replace hA := hA.below b6
  replace hB := hB.below b6
  replace h1 := h1.below b6
  replace h2 := h2.below b6
  replace bw := bw.trans (b6.mono bw.size)
  clear b6
  clear h1 h2
  go_wp2_with fail
  refine (cmpN C _ _ _ x y hA hB).mono ?_
  rintro e w7 ⟨rfl, b7⟩
  replace hA := hA.below b7
  replace hB := hB.below b7
  replace bw := bw.trans (b7.mono bw.size)
  clear b7
  rw [unhide EZ]
  go_wp2_with fail
  refine (unhide (K5 _)).mono ?_
  rintro e w8 ⟨a3, c3, rfl, b8⟩
  replace hA := hA.below b8
  replace hB := hB.below b8
  replace bw := bw.trans (b8.mono bw.size)
  clear b8
  clear hA hB C D K1 K2 K3 K5
  go_wp2
  go_ret
  exact ⟨rfl, bw⟩

set_option maxHeartbeats 8000000 in
set_option maxRecDepth 100000 in
theorem digits_less_bad (C : Face1) (D : Face2) (w : World) (a b : Option Addr) (ca cb : Nat) (l k : List Nat) (s : ByteArray) (x y : Nat) (hl : l.length ≤ 100) (hk : k.length ≤ 100) (hA : Num w (.slice a l.length ca) x) (hB : Num w (.slice b k.length cb) y) (hx : (wdig x).length ≤ 100) (hy : (wdig y).length ≤ 100) (hxy : x < y) (hne : (decs x).length ≠ (decs y).length) (hs : s.size ≤ 1000) (hf : ¬ Form s.data.toList) :
    Calls Try.prog 8 #[.slice a l.length ca, .slice b k.length cb, .string s] w fun e w' => e = .returned (.bool true) ∧ Below w.heap.size w w' := by
  have bw := Below.refl w.heap.size w
  have hfit : ∀ {w v x}, WBig w v x → (wdig x).length ≤ 2000 → Num w v x := fun h h2 => h.num h2
  have K1 : ∀ u v, Num u v x → Hid _ := fun u v h => hide (textN D u v x h)
  have K2 : ∀ u v, Num u v y → Hid _ := fun u v h => hide (textN D u v y h)
  have zT : (⟨(decs x).toArray⟩ : ByteArray).size = (decs x).length := by simp [ByteArray.size]
  have zU : (⟨(decs y).toArray⟩ : ByteArray).size = (decs y).length := by simp [ByteArray.size]
  have lT := decs_words hx
  have lU := decs_words hy
  have K3 : ∀ u, Hid _ := fun u => hide (D.read u ⟨(decs x).toArray⟩ (by omega) (decs_form x))
  have e1 : dec (⟨(decs x).toArray⟩ : ByteArray).data.toList = x := dec_decs x
  rw [e1] at K3
  have hmo := decs_mono (Nat.le_of_lt hxy)
  have ez : sgn x y = -1 := sgn_lt hxy
  have EZ := hide ez
  clear ez
  have K5 : ∀ u, Hid _ := fun u => hide (D.readForm u s hs hf)
  generalize (⟨(decs x).toArray⟩ : ByteArray) = T at *
  generalize (⟨(decs y).toArray⟩ : ByteArray) = U at *
  generalize (decs x).length = lx at *
  generalize (decs y).length = ly at *
  go_enter Try.func8, Try.ntmps8
  go_wp2_with fail
  refine (bigs_any D _).mono ?_
  rintro e w1 ⟨rfl, b1⟩
  replace hA := hA.below b1
  replace hB := hB.below b1
  replace bw := bw.trans (b1.mono bw.size)
  clear b1
  go_wp2_with fail
  refine (unhide (K1 _ _ hA)).mono ?_
  rintro e w2 ⟨rfl, b2⟩
  replace hA := hA.below b2
  replace hB := hB.below b2
  replace bw := bw.trans (b2.mono bw.size)
  clear b2
  go_wp2_with fail
  refine (unhide (K2 _ _ hB)).mono ?_
  rintro e w3 ⟨rfl, b3⟩
  replace hA := hA.below b3
  replace hB := hB.below b3
  replace bw := bw.trans (b3.mono bw.size)
  clear b3
  go_wp2_with fail
  refine (unhide (K3 _)).mono ?_
  rintro e w4 ⟨v1, rfl, h1, b4⟩
  replace hA := hA.below b4
  replace hB := hB.below b4
  replace bw := bw.trans (b4.mono bw.size)
  clear b4
  go_wp2_with fail
  refine (trimN C _ _ x hA).mono ?_
  rintro e w5 ⟨v2, rfl, h2, b5⟩
  replace hA := hA.below b5
  replace hB := hB.below b5
  replace h1 := h1.below b5
  replace bw := bw.trans (b5.mono bw.size)
  clear b5
  go_wp2_with fail
  refine (equalN _ _ _ _ _ rfl (by omega) h1 h2).mono ?_
  rintro e w6 ⟨rfl, b6⟩
  replace hA := hA.below b6
  replace hB := hB.below b6
  replace h1 := h1.below b6
  replace h2 := h2.below b6
  replace bw := bw.trans (b6.mono bw.size)
  clear b6
  clear h1 h2
  go_wp2_with fail
  refine (cmpN C _ _ _ x y hA hB).mono ?_
  rintro e w7 ⟨rfl, b7⟩
  replace hA := hA.below b7
  replace hB := hB.below b7
  replace bw := bw.trans (b7.mono bw.size)
  clear b7
  rw [unhide EZ]
  go_wp2_with fail
  refine (unhide (K5 _)).mono ?_
  rintro e w8 ⟨a3, c3, rfl, b8⟩
  replace hA := hA.below b8
  replace hB := hB.below b8
  replace bw := bw.trans (b8.mono bw.size)
  clear b8
  clear hA hB C D K1 K2 K3 K5
  go_wp2
  go_ret
  exact ⟨rfl, bw⟩

set_option maxHeartbeats 8000000 in
set_option maxRecDepth 100000 in
theorem digits_less_good (C : Face1) (D : Face2) (w : World) (a b : Option Addr) (ca cb : Nat) (l k : List Nat) (s : ByteArray) (x y : Nat) (hl : l.length ≤ 100) (hk : k.length ≤ 100) (hA : Num w (.slice a l.length ca) x) (hB : Num w (.slice b k.length cb) y) (hx : (wdig x).length ≤ 100) (hy : (wdig y).length ≤ 100) (hxy : x < y) (hne : (decs x).length ≠ (decs y).length) (hs : s.size ≤ 1000) (hf : Form s.data.toList) :
    Calls Try.prog 8 #[.slice a l.length ca, .slice b k.length cb, .string s] w fun e w' => e = .returned (.bool true) ∧ Below w.heap.size w w' := by
  have bw := Below.refl w.heap.size w
  have hfit : ∀ {w v x}, WBig w v x → (wdig x).length ≤ 2000 → Num w v x := fun h h2 => h.num h2
  have K1 : ∀ u v, Num u v x → Hid _ := fun u v h => hide (textN D u v x h)
  have K2 : ∀ u v, Num u v y → Hid _ := fun u v h => hide (textN D u v y h)
  have zT : (⟨(decs x).toArray⟩ : ByteArray).size = (decs x).length := by simp [ByteArray.size]
  have zU : (⟨(decs y).toArray⟩ : ByteArray).size = (decs y).length := by simp [ByteArray.size]
  have lT := decs_words hx
  have lU := decs_words hy
  have K3 : ∀ u, Hid _ := fun u => hide (D.read u ⟨(decs x).toArray⟩ (by omega) (decs_form x))
  have e1 : dec (⟨(decs x).toArray⟩ : ByteArray).data.toList = x := dec_decs x
  rw [e1] at K3
  have hmo := decs_mono (Nat.le_of_lt hxy)
  have ez : sgn x y = -1 := sgn_lt hxy
  have EZ := hide ez
  clear ez
  have K5 : ∀ u, Hid _ := fun u => hide (D.read u s hs hf)
  have ds : decs (dec s.data.toList) = s.data.toList := decs_dec hf
  have dl : (wdig (dec s.data.toList)).length ≤ 2000 := by have h1 := dec_lt hf.2.1; rw [blen_list] at h1; exact wdig_dec_len h1 hs
  have K6 : ∀ u v, WBig u v (dec s.data.toList) → Hid _ := fun u v h => hide (textN D u v (dec s.data.toList) (h.num dl))
  have es : (⟨s.data.toList.toArray⟩ : ByteArray) = s := by simp
  rw [ds, es] at K6
  generalize (⟨(decs x).toArray⟩ : ByteArray) = T at *
  generalize (⟨(decs y).toArray⟩ : ByteArray) = U at *
  generalize (decs x).length = lx at *
  generalize (decs y).length = ly at *
  go_enter Try.func8, Try.ntmps8
  go_wp2_with fail
  refine (bigs_any D _).mono ?_
  rintro e w1 ⟨rfl, b1⟩
  replace hA := hA.below b1
  replace hB := hB.below b1
  replace bw := bw.trans (b1.mono bw.size)
  clear b1
  go_wp2_with fail
  refine (unhide (K1 _ _ hA)).mono ?_
  rintro e w2 ⟨rfl, b2⟩
  replace hA := hA.below b2
  replace hB := hB.below b2
  replace bw := bw.trans (b2.mono bw.size)
  clear b2
  go_wp2_with fail
  refine (unhide (K2 _ _ hB)).mono ?_
  rintro e w3 ⟨rfl, b3⟩
  replace hA := hA.below b3
  replace hB := hB.below b3
  replace bw := bw.trans (b3.mono bw.size)
  clear b3
  go_wp2_with fail
  refine (unhide (K3 _)).mono ?_
  rintro e w4 ⟨v1, rfl, h1, b4⟩
  replace hA := hA.below b4
  replace hB := hB.below b4
  replace bw := bw.trans (b4.mono bw.size)
  clear b4
  go_wp2_with fail
  refine (trimN C _ _ x hA).mono ?_
  rintro e w5 ⟨v2, rfl, h2, b5⟩
  replace hA := hA.below b5
  replace hB := hB.below b5
  replace h1 := h1.below b5
  replace bw := bw.trans (b5.mono bw.size)
  clear b5
  go_wp2_with fail
  refine (equalN _ _ _ _ _ rfl (by omega) h1 h2).mono ?_
  rintro e w6 ⟨rfl, b6⟩
  replace hA := hA.below b6
  replace hB := hB.below b6
  replace h1 := h1.below b6
  replace h2 := h2.below b6
  replace bw := bw.trans (b6.mono bw.size)
  clear b6
  clear h1 h2
  go_wp2_with fail
  refine (cmpN C _ _ _ x y hA hB).mono ?_
  rintro e w7 ⟨rfl, b7⟩
  replace hA := hA.below b7
  replace hB := hB.below b7
  replace bw := bw.trans (b7.mono bw.size)
  clear b7
  rw [unhide EZ]
  go_wp2_with fail
  refine (unhide (K5 _)).mono ?_
  rintro e w8 ⟨v3, rfl, h3, b8⟩
  replace hA := hA.below b8
  replace hB := hB.below b8
  replace bw := bw.trans (b8.mono bw.size)
  clear b8
  go_wp2_with fail
  refine (unhide (K6 _ _ h3)).mono ?_
  rintro e w9 ⟨rfl, b9⟩
  replace hA := hA.below b9
  replace hB := hB.below b9
  replace h3 := h3.below b9
  replace bw := bw.trans (b9.mono bw.size)
  clear b9
  clear h3 K6
  clear hA hB C D K1 K2 K3 K5
  go_wp2
  go_ret
  exact ⟨rfl, bw⟩

set_option maxHeartbeats 8000000 in
set_option maxRecDepth 100000 in
theorem digits_same_large (C : Face1) (D : Face2) (w : World) (a b : Option Addr) (ca cb : Nat) (l k : List Nat) (s : ByteArray) (x y : Nat) (hl : l.length ≤ 100) (hk : k.length ≤ 100) (hA : Num w (.slice a l.length ca) x) (hB : Num w (.slice b k.length cb) y) (hx : (wdig x).length ≤ 100) (hy : (wdig y).length ≤ 100) (hxy : x < y) (hne : (decs x).length = (decs y).length) (hs : 1000 < s.size) (hs2 : s.size ≤ 140737488355328) :
    Calls Try.prog 8 #[.slice a l.length ca, .slice b k.length cb, .string s] w fun e w' => e = .returned (.bool true) ∧ Below w.heap.size w w' := by
  have bw := Below.refl w.heap.size w
  have hfit : ∀ {w v x}, WBig w v x → (wdig x).length ≤ 2000 → Num w v x := fun h h2 => h.num h2
  have K1 : ∀ u v, Num u v x → Hid _ := fun u v h => hide (textN D u v x h)
  have K2 : ∀ u v, Num u v y → Hid _ := fun u v h => hide (textN D u v y h)
  have zT : (⟨(decs x).toArray⟩ : ByteArray).size = (decs x).length := by simp [ByteArray.size]
  have zU : (⟨(decs y).toArray⟩ : ByteArray).size = (decs y).length := by simp [ByteArray.size]
  have lT := decs_words hx
  have lU := decs_words hy
  have K3 : ∀ u, Hid _ := fun u => hide (D.read u ⟨(decs x).toArray⟩ (by omega) (decs_form x))
  have e1 : dec (⟨(decs x).toArray⟩ : ByteArray).data.toList = x := dec_decs x
  rw [e1] at K3
  have hlt : Op.bytesLess (⟨(decs x).toArray⟩ : ByteArray).toList (⟨(decs y).toArray⟩ : ByteArray).toList = true := by rw [ByteArray.toList_eq, ByteArray.toList_eq]; exact less_of_dec _ _ hne (decs_form x).2.1 (decs_form y).2.1 (by rw [dec_decs, dec_decs]; exact hxy)
  have hge : ∀ u : World, (Op.stringOp .geq ⟨(decs x).toArray⟩ ⟨(decs y).toArray⟩).run Try.prog u = .ok (.bool false) u := fun u => by simp only [Op.stringOp, hlt]; rfl
  have hge2 : ∀ u : World, (binOp .geq 9 (.string ⟨(decs x).toArray⟩) (.string ⟨(decs y).toArray⟩)).run Try.prog u = .ok (.bool false) u := hge
  have ez : sgn x y = -1 := sgn_lt hxy
  have EZ := hide ez
  clear ez
  have K5 : ∀ u, Hid _ := fun u => hide (D.readLarge u s hs hs2)
  generalize (⟨(decs x).toArray⟩ : ByteArray) = T at *
  generalize (⟨(decs y).toArray⟩ : ByteArray) = U at *
  generalize (decs x).length = lx at *
  generalize (decs y).length = ly at *
  go_enter Try.func8, Try.ntmps8
  go_wp2_with fail
  refine (bigs_any D _).mono ?_
  rintro e w1 ⟨rfl, b1⟩
  replace hA := hA.below b1
  replace hB := hB.below b1
  replace bw := bw.trans (b1.mono bw.size)
  clear b1
  go_wp2_with fail
  refine (unhide (K1 _ _ hA)).mono ?_
  rintro e w2 ⟨rfl, b2⟩
  replace hA := hA.below b2
  replace hB := hB.below b2
  replace bw := bw.trans (b2.mono bw.size)
  clear b2
  go_wp2_with fail
  refine (unhide (K2 _ _ hB)).mono ?_
  rintro e w3 ⟨rfl, b3⟩
  replace hA := hA.below b3
  replace hB := hB.below b3
  replace bw := bw.trans (b3.mono bw.size)
  clear b3
  go_wp2_with fail
  refine (unhide (K3 _)).mono ?_
  rintro e w4 ⟨v1, rfl, h1, b4⟩
  replace hA := hA.below b4
  replace hB := hB.below b4
  replace bw := bw.trans (b4.mono bw.size)
  clear b4
  go_wp2_with fail
  refine (trimN C _ _ x hA).mono ?_
  rintro e w5 ⟨v2, rfl, h2, b5⟩
  replace hA := hA.below b5
  replace hB := hB.below b5
  replace h1 := h1.below b5
  replace bw := bw.trans (b5.mono bw.size)
  clear b5
  go_wp2_with fail
  refine (equalN _ _ _ _ _ rfl (by omega) h1 h2).mono ?_
  rintro e w6 ⟨rfl, b6⟩
  replace hA := hA.below b6
  replace hB := hB.below b6
  replace h1 := h1.below b6
  replace h2 := h2.below b6
  replace bw := bw.trans (b6.mono bw.size)
  clear b6
  clear h1 h2
  go_wp2_with fail
  refine (cmpN C _ _ _ x y hA hB).mono ?_
  rintro e w7 ⟨rfl, b7⟩
  replace hA := hA.below b7
  replace hB := hB.below b7
  replace bw := bw.trans (b7.mono bw.size)
  clear b7
  rw [unhide EZ]
  go_wp2_with fail
  refine (unhide (K5 _)).mono ?_
  rintro e w8 ⟨a3, c3, rfl, b8⟩
  replace hA := hA.below b8
  replace hB := hB.below b8
  replace bw := bw.trans (b8.mono bw.size)
  clear b8
  clear hA hB C D K1 K2 K3 K5
  go_wp2
  go_ret
  exact ⟨rfl, bw⟩

set_option maxHeartbeats 8000000 in
set_option maxRecDepth 100000 in
theorem digits_same_bad (C : Face1) (D : Face2) (w : World) (a b : Option Addr) (ca cb : Nat) (l k : List Nat) (s : ByteArray) (x y : Nat) (hl : l.length ≤ 100) (hk : k.length ≤ 100) (hA : Num w (.slice a l.length ca) x) (hB : Num w (.slice b k.length cb) y) (hx : (wdig x).length ≤ 100) (hy : (wdig y).length ≤ 100) (hxy : x < y) (hne : (decs x).length = (decs y).length) (hs : s.size ≤ 1000) (hf : ¬ Form s.data.toList) :
    Calls Try.prog 8 #[.slice a l.length ca, .slice b k.length cb, .string s] w fun e w' => e = .returned (.bool true) ∧ Below w.heap.size w w' := by
  have bw := Below.refl w.heap.size w
  have hfit : ∀ {w v x}, WBig w v x → (wdig x).length ≤ 2000 → Num w v x := fun h h2 => h.num h2
  have K1 : ∀ u v, Num u v x → Hid _ := fun u v h => hide (textN D u v x h)
  have K2 : ∀ u v, Num u v y → Hid _ := fun u v h => hide (textN D u v y h)
  have zT : (⟨(decs x).toArray⟩ : ByteArray).size = (decs x).length := by simp [ByteArray.size]
  have zU : (⟨(decs y).toArray⟩ : ByteArray).size = (decs y).length := by simp [ByteArray.size]
  have lT := decs_words hx
  have lU := decs_words hy
  have K3 : ∀ u, Hid _ := fun u => hide (D.read u ⟨(decs x).toArray⟩ (by omega) (decs_form x))
  have e1 : dec (⟨(decs x).toArray⟩ : ByteArray).data.toList = x := dec_decs x
  rw [e1] at K3
  have hlt : Op.bytesLess (⟨(decs x).toArray⟩ : ByteArray).toList (⟨(decs y).toArray⟩ : ByteArray).toList = true := by rw [ByteArray.toList_eq, ByteArray.toList_eq]; exact less_of_dec _ _ hne (decs_form x).2.1 (decs_form y).2.1 (by rw [dec_decs, dec_decs]; exact hxy)
  have hge : ∀ u : World, (Op.stringOp .geq ⟨(decs x).toArray⟩ ⟨(decs y).toArray⟩).run Try.prog u = .ok (.bool false) u := fun u => by simp only [Op.stringOp, hlt]; rfl
  have hge2 : ∀ u : World, (binOp .geq 9 (.string ⟨(decs x).toArray⟩) (.string ⟨(decs y).toArray⟩)).run Try.prog u = .ok (.bool false) u := hge
  have ez : sgn x y = -1 := sgn_lt hxy
  have EZ := hide ez
  clear ez
  have K5 : ∀ u, Hid _ := fun u => hide (D.readForm u s hs hf)
  generalize (⟨(decs x).toArray⟩ : ByteArray) = T at *
  generalize (⟨(decs y).toArray⟩ : ByteArray) = U at *
  generalize (decs x).length = lx at *
  generalize (decs y).length = ly at *
  go_enter Try.func8, Try.ntmps8
  go_wp2_with fail
  refine (bigs_any D _).mono ?_
  rintro e w1 ⟨rfl, b1⟩
  replace hA := hA.below b1
  replace hB := hB.below b1
  replace bw := bw.trans (b1.mono bw.size)
  clear b1
  go_wp2_with fail
  refine (unhide (K1 _ _ hA)).mono ?_
  rintro e w2 ⟨rfl, b2⟩
  replace hA := hA.below b2
  replace hB := hB.below b2
  replace bw := bw.trans (b2.mono bw.size)
  clear b2
  go_wp2_with fail
  refine (unhide (K2 _ _ hB)).mono ?_
  rintro e w3 ⟨rfl, b3⟩
  replace hA := hA.below b3
  replace hB := hB.below b3
  replace bw := bw.trans (b3.mono bw.size)
  clear b3
  go_wp2_with fail
  refine (unhide (K3 _)).mono ?_
  rintro e w4 ⟨v1, rfl, h1, b4⟩
  replace hA := hA.below b4
  replace hB := hB.below b4
  replace bw := bw.trans (b4.mono bw.size)
  clear b4
  go_wp2_with fail
  refine (trimN C _ _ x hA).mono ?_
  rintro e w5 ⟨v2, rfl, h2, b5⟩
  replace hA := hA.below b5
  replace hB := hB.below b5
  replace h1 := h1.below b5
  replace bw := bw.trans (b5.mono bw.size)
  clear b5
  go_wp2_with fail
  refine (equalN _ _ _ _ _ rfl (by omega) h1 h2).mono ?_
  rintro e w6 ⟨rfl, b6⟩
  replace hA := hA.below b6
  replace hB := hB.below b6
  replace h1 := h1.below b6
  replace h2 := h2.below b6
  replace bw := bw.trans (b6.mono bw.size)
  clear b6
  clear h1 h2
  go_wp2_with fail
  refine (cmpN C _ _ _ x y hA hB).mono ?_
  rintro e w7 ⟨rfl, b7⟩
  replace hA := hA.below b7
  replace hB := hB.below b7
  replace bw := bw.trans (b7.mono bw.size)
  clear b7
  rw [unhide EZ]
  go_wp2_with fail
  refine (unhide (K5 _)).mono ?_
  rintro e w8 ⟨a3, c3, rfl, b8⟩
  replace hA := hA.below b8
  replace hB := hB.below b8
  replace bw := bw.trans (b8.mono bw.size)
  clear b8
  clear hA hB C D K1 K2 K3 K5
  go_wp2
  go_ret
  exact ⟨rfl, bw⟩

set_option maxHeartbeats 8000000 in
set_option maxRecDepth 100000 in
theorem digits_same_good (C : Face1) (D : Face2) (w : World) (a b : Option Addr) (ca cb : Nat) (l k : List Nat) (s : ByteArray) (x y : Nat) (hl : l.length ≤ 100) (hk : k.length ≤ 100) (hA : Num w (.slice a l.length ca) x) (hB : Num w (.slice b k.length cb) y) (hx : (wdig x).length ≤ 100) (hy : (wdig y).length ≤ 100) (hxy : x < y) (hne : (decs x).length = (decs y).length) (hs : s.size ≤ 1000) (hf : Form s.data.toList) :
    Calls Try.prog 8 #[.slice a l.length ca, .slice b k.length cb, .string s] w fun e w' => e = .returned (.bool true) ∧ Below w.heap.size w w' := by
  have bw := Below.refl w.heap.size w
  have hfit : ∀ {w v x}, WBig w v x → (wdig x).length ≤ 2000 → Num w v x := fun h h2 => h.num h2
  have K1 : ∀ u v, Num u v x → Hid _ := fun u v h => hide (textN D u v x h)
  have K2 : ∀ u v, Num u v y → Hid _ := fun u v h => hide (textN D u v y h)
  have zT : (⟨(decs x).toArray⟩ : ByteArray).size = (decs x).length := by simp [ByteArray.size]
  have zU : (⟨(decs y).toArray⟩ : ByteArray).size = (decs y).length := by simp [ByteArray.size]
  have lT := decs_words hx
  have lU := decs_words hy
  have K3 : ∀ u, Hid _ := fun u => hide (D.read u ⟨(decs x).toArray⟩ (by omega) (decs_form x))
  have e1 : dec (⟨(decs x).toArray⟩ : ByteArray).data.toList = x := dec_decs x
  rw [e1] at K3
  have hlt : Op.bytesLess (⟨(decs x).toArray⟩ : ByteArray).toList (⟨(decs y).toArray⟩ : ByteArray).toList = true := by rw [ByteArray.toList_eq, ByteArray.toList_eq]; exact less_of_dec _ _ hne (decs_form x).2.1 (decs_form y).2.1 (by rw [dec_decs, dec_decs]; exact hxy)
  have hge : ∀ u : World, (Op.stringOp .geq ⟨(decs x).toArray⟩ ⟨(decs y).toArray⟩).run Try.prog u = .ok (.bool false) u := fun u => by simp only [Op.stringOp, hlt]; rfl
  have hge2 : ∀ u : World, (binOp .geq 9 (.string ⟨(decs x).toArray⟩) (.string ⟨(decs y).toArray⟩)).run Try.prog u = .ok (.bool false) u := hge
  have ez : sgn x y = -1 := sgn_lt hxy
  have EZ := hide ez
  clear ez
  have K5 : ∀ u, Hid _ := fun u => hide (D.read u s hs hf)
  have ds : decs (dec s.data.toList) = s.data.toList := decs_dec hf
  have dl : (wdig (dec s.data.toList)).length ≤ 2000 := by have h1 := dec_lt hf.2.1; rw [blen_list] at h1; exact wdig_dec_len h1 hs
  have K6 : ∀ u v, WBig u v (dec s.data.toList) → Hid _ := fun u v h => hide (textN D u v (dec s.data.toList) (h.num dl))
  have es : (⟨s.data.toList.toArray⟩ : ByteArray) = s := by simp
  rw [ds, es] at K6
  generalize (⟨(decs x).toArray⟩ : ByteArray) = T at *
  generalize (⟨(decs y).toArray⟩ : ByteArray) = U at *
  generalize (decs x).length = lx at *
  generalize (decs y).length = ly at *
  go_enter Try.func8, Try.ntmps8
  go_wp2_with fail
  refine (bigs_any D _).mono ?_
  rintro e w1 ⟨rfl, b1⟩
  replace hA := hA.below b1
  replace hB := hB.below b1
  replace bw := bw.trans (b1.mono bw.size)
  clear b1
  go_wp2_with fail
  refine (unhide (K1 _ _ hA)).mono ?_
  rintro e w2 ⟨rfl, b2⟩
  replace hA := hA.below b2
  replace hB := hB.below b2
  replace bw := bw.trans (b2.mono bw.size)
  clear b2
  go_wp2_with fail
  refine (unhide (K2 _ _ hB)).mono ?_
  rintro e w3 ⟨rfl, b3⟩
  replace hA := hA.below b3
  replace hB := hB.below b3
  replace bw := bw.trans (b3.mono bw.size)
  clear b3
  go_wp2_with fail
  refine (unhide (K3 _)).mono ?_
  rintro e w4 ⟨v1, rfl, h1, b4⟩
  replace hA := hA.below b4
  replace hB := hB.below b4
  replace bw := bw.trans (b4.mono bw.size)
  clear b4
  go_wp2_with fail
  refine (trimN C _ _ x hA).mono ?_
  rintro e w5 ⟨v2, rfl, h2, b5⟩
  replace hA := hA.below b5
  replace hB := hB.below b5
  replace h1 := h1.below b5
  replace bw := bw.trans (b5.mono bw.size)
  clear b5
  go_wp2_with fail
  refine (equalN _ _ _ _ _ rfl (by omega) h1 h2).mono ?_
  rintro e w6 ⟨rfl, b6⟩
  replace hA := hA.below b6
  replace hB := hB.below b6
  replace h1 := h1.below b6
  replace h2 := h2.below b6
  replace bw := bw.trans (b6.mono bw.size)
  clear b6
  clear h1 h2
  go_wp2_with fail
  refine (cmpN C _ _ _ x y hA hB).mono ?_
  rintro e w7 ⟨rfl, b7⟩
  replace hA := hA.below b7
  replace hB := hB.below b7
  replace bw := bw.trans (b7.mono bw.size)
  clear b7
  rw [unhide EZ]
  go_wp2_with fail
  refine (unhide (K5 _)).mono ?_
  rintro e w8 ⟨v3, rfl, h3, b8⟩
  replace hA := hA.below b8
  replace hB := hB.below b8
  replace bw := bw.trans (b8.mono bw.size)
  clear b8
  go_wp2_with fail
  refine (unhide (K6 _ _ h3)).mono ?_
  rintro e w9 ⟨rfl, b9⟩
  replace hA := hA.below b9
  replace hB := hB.below b9
  replace h3 := h3.below b9
  replace bw := bw.trans (b9.mono bw.size)
  clear b9
  clear h3 K6
  clear hA hB C D K1 K2 K3 K5
  go_wp2
  go_ret
  exact ⟨rfl, bw⟩

set_option maxHeartbeats 8000000 in
set_option maxRecDepth 100000 in
theorem digits_not_large (C : Face1) (D : Face2) (w : World) (a b : Option Addr) (ca cb : Nat) (l k : List Nat) (s : ByteArray) (x y : Nat) (hl : l.length ≤ 100) (hk : k.length ≤ 100) (hA : Num w (.slice a l.length ca) x) (hB : Num w (.slice b k.length cb) y) (hx : (wdig x).length ≤ 100) (hy : (wdig y).length ≤ 100) (hxy : y ≤ x) (hs : 1000 < s.size) (hs2 : s.size ≤ 140737488355328) :
    Calls Try.prog 8 #[.slice a l.length ca, .slice b k.length cb, .string s] w fun e w' => e = .returned (.bool true) ∧ Below w.heap.size w w' := by
  have bw := Below.refl w.heap.size w
  have hfit : ∀ {w v x}, WBig w v x → (wdig x).length ≤ 2000 → Num w v x := fun h h2 => h.num h2
  have K1 : ∀ u v, Num u v x → Hid _ := fun u v h => hide (textN D u v x h)
  have K2 : ∀ u v, Num u v y → Hid _ := fun u v h => hide (textN D u v y h)
  have zT : (⟨(decs x).toArray⟩ : ByteArray).size = (decs x).length := by simp [ByteArray.size]
  have zU : (⟨(decs y).toArray⟩ : ByteArray).size = (decs y).length := by simp [ByteArray.size]
  have lT := decs_words hx
  have lU := decs_words hy
  have K3 : ∀ u, Hid _ := fun u => hide (D.read u ⟨(decs x).toArray⟩ (by omega) (decs_form x))
  have e1 : dec (⟨(decs x).toArray⟩ : ByteArray).data.toList = x := dec_decs x
  rw [e1] at K3
  have ez : 0 ≤ sgn x y := by unfold sgn; rw [if_neg (by omega)]; split <;> omega
  have K5 : ∀ u, Hid _ := fun u => hide (D.readLarge u s hs hs2)
  generalize (⟨(decs x).toArray⟩ : ByteArray) = T at *
  generalize (⟨(decs y).toArray⟩ : ByteArray) = U at *
  generalize (decs x).length = lx at *
  generalize (decs y).length = ly at *
  go_enter Try.func8, Try.ntmps8
  go_wp2_with fail
  refine (bigs_any D _).mono ?_
  rintro e w1 ⟨rfl, b1⟩
  replace hA := hA.below b1
  replace hB := hB.below b1
  replace bw := bw.trans (b1.mono bw.size)
  clear b1
  go_wp2_with fail
  refine (unhide (K1 _ _ hA)).mono ?_
  rintro e w2 ⟨rfl, b2⟩
  replace hA := hA.below b2
  replace hB := hB.below b2
  replace bw := bw.trans (b2.mono bw.size)
  clear b2
  go_wp2_with fail
  refine (unhide (K2 _ _ hB)).mono ?_
  rintro e w3 ⟨rfl, b3⟩
  replace hA := hA.below b3
  replace hB := hB.below b3
  replace bw := bw.trans (b3.mono bw.size)
  clear b3
  go_wp2_with fail
  refine (unhide (K3 _)).mono ?_
  rintro e w4 ⟨v1, rfl, h1, b4⟩
  replace hA := hA.below b4
  replace hB := hB.below b4
  replace bw := bw.trans (b4.mono bw.size)
  clear b4
  go_wp2_with fail
  refine (trimN C _ _ x hA).mono ?_
  rintro e w5 ⟨v2, rfl, h2, b5⟩
  replace hA := hA.below b5
  replace hB := hB.below b5
  replace h1 := h1.below b5
  replace bw := bw.trans (b5.mono bw.size)
  clear b5
  go_wp2_with fail
  refine (equalN _ _ _ _ _ rfl (by omega) h1 h2).mono ?_
  rintro e w6 ⟨rfl, b6⟩
  replace hA := hA.below b6
  replace hB := hB.below b6
  replace h1 := h1.below b6
  replace h2 := h2.below b6
  replace bw := bw.trans (b6.mono bw.size)
  clear b6
  clear h1 h2
  go_wp2_with fail
  refine (cmpN C _ _ _ x y hA hB).mono ?_
  rintro e w7 ⟨rfl, b7⟩
  replace hA := hA.below b7
  replace hB := hB.below b7
  replace bw := bw.trans (b7.mono bw.size)
  clear b7
  generalize sgn x y = z at *
  go_wp2_with fail
  refine (unhide (K5 _)).mono ?_
  rintro e w8 ⟨a3, c3, rfl, b8⟩
  replace hA := hA.below b8
  replace hB := hB.below b8
  replace bw := bw.trans (b8.mono bw.size)
  clear b8
  clear hA hB C D K1 K2 K3 K5
  go_wp2
  go_ret
  exact ⟨rfl, bw⟩

set_option maxHeartbeats 8000000 in
set_option maxRecDepth 100000 in
theorem digits_not_bad (C : Face1) (D : Face2) (w : World) (a b : Option Addr) (ca cb : Nat) (l k : List Nat) (s : ByteArray) (x y : Nat) (hl : l.length ≤ 100) (hk : k.length ≤ 100) (hA : Num w (.slice a l.length ca) x) (hB : Num w (.slice b k.length cb) y) (hx : (wdig x).length ≤ 100) (hy : (wdig y).length ≤ 100) (hxy : y ≤ x) (hs : s.size ≤ 1000) (hf : ¬ Form s.data.toList) :
    Calls Try.prog 8 #[.slice a l.length ca, .slice b k.length cb, .string s] w fun e w' => e = .returned (.bool true) ∧ Below w.heap.size w w' := by
  have bw := Below.refl w.heap.size w
  have hfit : ∀ {w v x}, WBig w v x → (wdig x).length ≤ 2000 → Num w v x := fun h h2 => h.num h2
  have K1 : ∀ u v, Num u v x → Hid _ := fun u v h => hide (textN D u v x h)
  have K2 : ∀ u v, Num u v y → Hid _ := fun u v h => hide (textN D u v y h)
  have zT : (⟨(decs x).toArray⟩ : ByteArray).size = (decs x).length := by simp [ByteArray.size]
  have zU : (⟨(decs y).toArray⟩ : ByteArray).size = (decs y).length := by simp [ByteArray.size]
  have lT := decs_words hx
  have lU := decs_words hy
  have K3 : ∀ u, Hid _ := fun u => hide (D.read u ⟨(decs x).toArray⟩ (by omega) (decs_form x))
  have e1 : dec (⟨(decs x).toArray⟩ : ByteArray).data.toList = x := dec_decs x
  rw [e1] at K3
  have ez : 0 ≤ sgn x y := by unfold sgn; rw [if_neg (by omega)]; split <;> omega
  have K5 : ∀ u, Hid _ := fun u => hide (D.readForm u s hs hf)
  generalize (⟨(decs x).toArray⟩ : ByteArray) = T at *
  generalize (⟨(decs y).toArray⟩ : ByteArray) = U at *
  generalize (decs x).length = lx at *
  generalize (decs y).length = ly at *
  go_enter Try.func8, Try.ntmps8
  go_wp2_with fail
  refine (bigs_any D _).mono ?_
  rintro e w1 ⟨rfl, b1⟩
  replace hA := hA.below b1
  replace hB := hB.below b1
  replace bw := bw.trans (b1.mono bw.size)
  clear b1
  go_wp2_with fail
  refine (unhide (K1 _ _ hA)).mono ?_
  rintro e w2 ⟨rfl, b2⟩
  replace hA := hA.below b2
  replace hB := hB.below b2
  replace bw := bw.trans (b2.mono bw.size)
  clear b2
  go_wp2_with fail
  refine (unhide (K2 _ _ hB)).mono ?_
  rintro e w3 ⟨rfl, b3⟩
  replace hA := hA.below b3
  replace hB := hB.below b3
  replace bw := bw.trans (b3.mono bw.size)
  clear b3
  go_wp2_with fail
  refine (unhide (K3 _)).mono ?_
  rintro e w4 ⟨v1, rfl, h1, b4⟩
  replace hA := hA.below b4
  replace hB := hB.below b4
  replace bw := bw.trans (b4.mono bw.size)
  clear b4
  go_wp2_with fail
  refine (trimN C _ _ x hA).mono ?_
  rintro e w5 ⟨v2, rfl, h2, b5⟩
  replace hA := hA.below b5
  replace hB := hB.below b5
  replace h1 := h1.below b5
  replace bw := bw.trans (b5.mono bw.size)
  clear b5
  go_wp2_with fail
  refine (equalN _ _ _ _ _ rfl (by omega) h1 h2).mono ?_
  rintro e w6 ⟨rfl, b6⟩
  replace hA := hA.below b6
  replace hB := hB.below b6
  replace h1 := h1.below b6
  replace h2 := h2.below b6
  replace bw := bw.trans (b6.mono bw.size)
  clear b6
  clear h1 h2
  go_wp2_with fail
  refine (cmpN C _ _ _ x y hA hB).mono ?_
  rintro e w7 ⟨rfl, b7⟩
  replace hA := hA.below b7
  replace hB := hB.below b7
  replace bw := bw.trans (b7.mono bw.size)
  clear b7
  generalize sgn x y = z at *
  go_wp2_with fail
  refine (unhide (K5 _)).mono ?_
  rintro e w8 ⟨a3, c3, rfl, b8⟩
  replace hA := hA.below b8
  replace hB := hB.below b8
  replace bw := bw.trans (b8.mono bw.size)
  clear b8
  clear hA hB C D K1 K2 K3 K5
  go_wp2
  go_ret
  exact ⟨rfl, bw⟩

set_option maxHeartbeats 8000000 in
set_option maxRecDepth 100000 in
theorem digits_not_good (C : Face1) (D : Face2) (w : World) (a b : Option Addr) (ca cb : Nat) (l k : List Nat) (s : ByteArray) (x y : Nat) (hl : l.length ≤ 100) (hk : k.length ≤ 100) (hA : Num w (.slice a l.length ca) x) (hB : Num w (.slice b k.length cb) y) (hx : (wdig x).length ≤ 100) (hy : (wdig y).length ≤ 100) (hxy : y ≤ x) (hs : s.size ≤ 1000) (hf : Form s.data.toList) :
    Calls Try.prog 8 #[.slice a l.length ca, .slice b k.length cb, .string s] w fun e w' => e = .returned (.bool true) ∧ Below w.heap.size w w' := by
  have bw := Below.refl w.heap.size w
  have hfit : ∀ {w v x}, WBig w v x → (wdig x).length ≤ 2000 → Num w v x := fun h h2 => h.num h2
  have K1 : ∀ u v, Num u v x → Hid _ := fun u v h => hide (textN D u v x h)
  have K2 : ∀ u v, Num u v y → Hid _ := fun u v h => hide (textN D u v y h)
  have zT : (⟨(decs x).toArray⟩ : ByteArray).size = (decs x).length := by simp [ByteArray.size]
  have zU : (⟨(decs y).toArray⟩ : ByteArray).size = (decs y).length := by simp [ByteArray.size]
  have lT := decs_words hx
  have lU := decs_words hy
  have K3 : ∀ u, Hid _ := fun u => hide (D.read u ⟨(decs x).toArray⟩ (by omega) (decs_form x))
  have e1 : dec (⟨(decs x).toArray⟩ : ByteArray).data.toList = x := dec_decs x
  rw [e1] at K3
  have ez : 0 ≤ sgn x y := by unfold sgn; rw [if_neg (by omega)]; split <;> omega
  have K5 : ∀ u, Hid _ := fun u => hide (D.read u s hs hf)
  have ds : decs (dec s.data.toList) = s.data.toList := decs_dec hf
  have dl : (wdig (dec s.data.toList)).length ≤ 2000 := by have h1 := dec_lt hf.2.1; rw [blen_list] at h1; exact wdig_dec_len h1 hs
  have K6 : ∀ u v, WBig u v (dec s.data.toList) → Hid _ := fun u v h => hide (textN D u v (dec s.data.toList) (h.num dl))
  have es : (⟨s.data.toList.toArray⟩ : ByteArray) = s := by simp
  rw [ds, es] at K6
  generalize (⟨(decs x).toArray⟩ : ByteArray) = T at *
  generalize (⟨(decs y).toArray⟩ : ByteArray) = U at *
  generalize (decs x).length = lx at *
  generalize (decs y).length = ly at *
  go_enter Try.func8, Try.ntmps8
  go_wp2_with fail
  refine (bigs_any D _).mono ?_
  rintro e w1 ⟨rfl, b1⟩
  replace hA := hA.below b1
  replace hB := hB.below b1
  replace bw := bw.trans (b1.mono bw.size)
  clear b1
  go_wp2_with fail
  refine (unhide (K1 _ _ hA)).mono ?_
  rintro e w2 ⟨rfl, b2⟩
  replace hA := hA.below b2
  replace hB := hB.below b2
  replace bw := bw.trans (b2.mono bw.size)
  clear b2
  go_wp2_with fail
  refine (unhide (K2 _ _ hB)).mono ?_
  rintro e w3 ⟨rfl, b3⟩
  replace hA := hA.below b3
  replace hB := hB.below b3
  replace bw := bw.trans (b3.mono bw.size)
  clear b3
  go_wp2_with fail
  refine (unhide (K3 _)).mono ?_
  rintro e w4 ⟨v1, rfl, h1, b4⟩
  replace hA := hA.below b4
  replace hB := hB.below b4
  replace bw := bw.trans (b4.mono bw.size)
  clear b4
  go_wp2_with fail
  refine (trimN C _ _ x hA).mono ?_
  rintro e w5 ⟨v2, rfl, h2, b5⟩
  replace hA := hA.below b5
  replace hB := hB.below b5
  replace h1 := h1.below b5
  replace bw := bw.trans (b5.mono bw.size)
  clear b5
  go_wp2_with fail
  refine (equalN _ _ _ _ _ rfl (by omega) h1 h2).mono ?_
  rintro e w6 ⟨rfl, b6⟩
  replace hA := hA.below b6
  replace hB := hB.below b6
  replace h1 := h1.below b6
  replace h2 := h2.below b6
  replace bw := bw.trans (b6.mono bw.size)
  clear b6
  clear h1 h2
  go_wp2_with fail
  refine (cmpN C _ _ _ x y hA hB).mono ?_
  rintro e w7 ⟨rfl, b7⟩
  replace hA := hA.below b7
  replace hB := hB.below b7
  replace bw := bw.trans (b7.mono bw.size)
  clear b7
  generalize sgn x y = z at *
  go_wp2_with fail
  refine (unhide (K5 _)).mono ?_
  rintro e w8 ⟨v3, rfl, h3, b8⟩
  replace hA := hA.below b8
  replace hB := hB.below b8
  replace bw := bw.trans (b8.mono bw.size)
  clear b8
  go_wp2_with fail
  refine (unhide (K6 _ _ h3)).mono ?_
  rintro e w9 ⟨rfl, b9⟩
  replace hA := hA.below b9
  replace hB := hB.below b9
  replace h3 := h3.below b9
  replace bw := bw.trans (b9.mono bw.size)
  clear b9
  clear h3 K6
  clear hA hB C D K1 K2 K3 K5
  go_wp2
  go_ret
  exact ⟨rfl, bw⟩

set_option maxHeartbeats 1000000 in
theorem lawDigits (C : Face1) (D : Face2) (w : World) (a b : Option Addr) (ca cb : Nat) (l k : List Nat) (s : ByteArray) (hl : l.length ≤ 1152921504606846975) (hk : k.length ≤ 1152921504606846975) (hca : l.length ≤ ca) (hcb : k.length ≤ cb) (sl : Words32 l) (sk : Words32 k) (ra : RowU w a l) (rb : RowU w b k) (hs : s.size ≤ 140737488355328) :
    Calls Try.prog 8 #[.slice a l.length ca, .slice b k.length cb, .string s] w fun e w' => e = .returned (.bool true) ∧ Below w.heap.size w w' := by
  have HB := bigs_any D
  by_cases h1 : 100 < l.length
  · clear ra rb sl sk C D
    go_enter Try.func8, Try.ntmps8
    go_wp2_with fail
    refine (HB w).mono ?_
    rintro e w1 ⟨rfl, b1⟩
    go_wp2
    go_ret
    exact ⟨rfl, b1⟩
  · by_cases h2 : 100 < k.length
    · clear ra rb sl sk C D
      go_enter Try.func8, Try.ntmps8
      go_wp2_with fail
      refine (HB w).mono ?_
      rintro e w1 ⟨rfl, b1⟩
      go_wp2
      go_ret
      exact ⟨rfl, b1⟩
    · have nA : Num w (.slice a l.length ca) (wval l) := ⟨l, ⟨a, ca, rfl, hca, ra⟩, sl, by omega, rfl⟩
      have nB : Num w (.slice b k.length cb) (wval k) := ⟨k, ⟨b, cb, rfl, hcb, rb⟩, sk, by omega, rfl⟩
      have e1 := wdig_wval_len sl
      have e2 := wdig_wval_len sk
      by_cases hxy : wval l < wval k
      · by_cases hne : (decs (wval l)).length = (decs (wval k)).length
        · by_cases hz : 1000 < s.size
          · exact digits_same_large C D w a b ca cb l k s _ _ (by omega) (by omega) nA nB (by omega) (by omega) hxy hne hz hs
          · by_cases hf : Form s.data.toList
            · exact digits_same_good C D w a b ca cb l k s _ _ (by omega) (by omega) nA nB (by omega) (by omega) hxy hne (by omega) hf
            · exact digits_same_bad C D w a b ca cb l k s _ _ (by omega) (by omega) nA nB (by omega) (by omega) hxy hne (by omega) hf
        · by_cases hz : 1000 < s.size
          · exact digits_less_large C D w a b ca cb l k s _ _ (by omega) (by omega) nA nB (by omega) (by omega) hxy hne hz hs
          · by_cases hf : Form s.data.toList
            · exact digits_less_good C D w a b ca cb l k s _ _ (by omega) (by omega) nA nB (by omega) (by omega) hxy hne (by omega) hf
            · exact digits_less_bad C D w a b ca cb l k s _ _ (by omega) (by omega) nA nB (by omega) (by omega) hxy hne (by omega) hf
      · by_cases hz : 1000 < s.size
        · exact digits_not_large C D w a b ca cb l k s _ _ (by omega) (by omega) nA nB (by omega) (by omega) (by omega) hz hs
        · by_cases hf : Form s.data.toList
          · exact digits_not_good C D w a b ca cb l k s _ _ (by omega) (by omega) nA nB (by omega) (by omega) (by omega) (by omega) hf
          · exact digits_not_bad C D w a b ca cb l k s _ _ (by omega) (by omega) nA nB (by omega) (by omega) (by omega) (by omega) hf

end Go.Proofs.Ytgfleflfahabeaa.bigs
