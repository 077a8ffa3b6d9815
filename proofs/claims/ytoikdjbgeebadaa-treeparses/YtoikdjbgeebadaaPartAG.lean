/- A value by what is seen; what its walk keeps. -/
import Derived.Test.YtoikdjbgeebadaaPartAF
import Derived.Deep.CutRange
import Derived.Deep.RegionWith
set_option linter.unusedVariables false
namespace Go.Proofs.Ytoikdjbgeebadaa.trees
open Go.RowKit
open toks

theorem pv_bad {lv : Nat} {ts : List Sym} (h1 : seesB ts 123 = false) (h2 : seesB ts 91 = false) (h3 : seesB ts 120 = false) : pv lv ts = .inl (4, ts) := by
  cases ts with
  | nil => exact pv_nil lv
  | cons x r =>
    have n1 := seesB_no h1
    have n2 := seesB_no h2
    have n3 := seesB_no h3
    cases lv with
    | zero => rw [pv, if_neg (by rintro (h | h | h) <;> contradiction)]
    | succ lv => rw [pv, if_neg n3, if_neg n1, if_neg n2]
theorem pv_deep {ts : List Sym} (h : seesB ts 123 = true ∨ seesB ts 91 = true ∨ seesB ts 120 = true) : pv 0 ts = .inl (5, ts) := by
  cases ts with
  | nil => rcases h with h | h | h <;> cases h
  | cons x r =>
    rw [pv, if_pos]
    rcases h with h | h | h
    · exact .inr (.inl (by simpa [seesB] using h))
    · exact .inr (.inr (by simpa [seesB] using h))
    · exact .inl (by simpa [seesB] using h)
theorem pv_table {lv : Nat} {x : Sym} {r : List Sym} (h : x.1 = 123) : pv (lv + 1) (x :: r) = loopP (entP (pv lv)) 125 3 x.2 (r.length + 1) [] r := by
  rw [pv, if_neg (by rw [h]; decide), if_pos h]
theorem pv_list {lv : Nat} {x : Sym} {r : List Sym} (h : x.1 = 91) : pv (lv + 1) (x :: r) = loopP (pv lv) 93 5 x.2 (r.length + 1) [] r := by
  rw [pv, if_neg (by rw [h]; decide), if_neg (by rw [h]; decide), if_pos h]
theorem pv_leaf {lv : Nat} {x : Sym} {r : List Sym} (h : x.1 = 120) : pv (lv + 1) (x :: r) = .inr (nd 1 x.2 (x.2 + 1) [], r) := by
  rw [pv, if_pos h]
theorem sees_else {ts : List Sym} {a b : UInt8} (h : seesB ts a = true) (hab : a ≠ b) : seesB ts b = false := by
  obtain ⟨x, r, rfl, hx⟩ := seesB_yes h
  show (x.1 == b) = false
  rw [hx]
  exact beq_false_of_ne hab
theorem Res.to {B : Nat} {s : ByteArray} {a : Option Addr} {cap : Nat} {l : List Tk} {d f f' : Nat} {w : World} {q : R} {e : Ending} {w' : World} (hf : f ≤ f') (h : Res B s a cap l d f w q e w') : Res B s a cap l d f' w q e w' := by
  obtain ⟨hg, h⟩ := h
  refine ⟨hg, ?_⟩
  cases q with
  | inl er => exact h
  | inr tr =>
    obtain ⟨u0, u1, u2, u3, he, hL, hr⟩ := h
    exact ⟨u0, u1, u2, u3, he, hL.to hf, hr⟩
/-- What the walk of a value keeps. -/
structure VInv (w : World) (B : Nat) (s : ByteArray) (a : Option Addr) (cap : Nat) (l : List Tk) (i d : Nat) (pl er : Int) (wr : World) : Prop where
  rd : Rd wr B s (.slice a l.length cap) i d pl er
  pb : Blk wr w.heap.size #[(.pointer (some ⟨B, 0, none⟩))] 42
  zb : Blk wr (w.heap.size + 1) #[.int .i64 0, .int .i64 0, .int .i64 0, .slice none 0 0] 24
  gr : w.grownBy wr (some B)
  lt : B < w.heap.size
theorem VInv.below {w : World} {B : Nat} {s : ByteArray} {a : Option Addr} {cap : Nat} {l : List Tk} {i d : Nat} {pl er : Int} {wr wa : World} (h : VInv w B s a cap l i d pl er wr) (hb : Below wr.heap.size wr wa) : VInv w B s a cap l i d pl er wa :=
  ⟨h.rd.below hb, h.pb.below hb, h.zb.below hb, grown_trans h.gr (grown_below hb), h.lt⟩
theorem vinv_start {w : World} {B : Nat} {s : ByteArray} {a : Option Addr} {cap : Nat} {l : List Tk} {i d : Nat} {pl er : Int} (hr : Rd w B s (.slice a l.length cap) i d pl er) : VInv w B s a cap l i d pl er ((w.alloc (.cells #[(.pointer (some ⟨B, 0, none⟩))] 42)).alloc (.cells #[.int .i64 0, .int .i64 0, .int .i64 0, .slice none 0 0] 24)) := by
  have HZB := blk_alloc (w.alloc (.cells #[(.pointer (some ⟨B, 0, none⟩))] 42)) #[.int .i64 0, .int .i64 0, .int .i64 0, .slice none 0 0] 24
  have e1 : (w.alloc (.cells #[(.pointer (some ⟨B, 0, none⟩))] 42)).heap.size = w.heap.size + 1 := by simp
  rw [e1] at HZB
  exact ⟨Blk.alloc (Blk.alloc hr _) _, Blk.alloc (blk_alloc w _ _) _, HZB, grown_alloc (grown_alloc (grown_refl w _) _) _, Blk.lt hr⟩
end Go.Proofs.Ytoikdjbgeebadaa.trees
/- The walk of package tree's value: one way. -/
set_option linter.unusedVariables false
namespace Go.Proofs.Ytoikdjbgeebadaa.trees
open Go.RowKit
open toks

set_option maxHeartbeats 4000000 in
set_option maxRecDepth 100000 in
theorem value_za (w : World) (B : Nat) (s : ByteArray) (a : Option Addr) (cap : Nat) (l : List Tk) (i f : Nat) (pl er : Int) (ts : List Sym) 
    (hr : Rd w B s (.slice a l.length cap) i 20 pl er) (ht : TkIn w B a l) (g : Good s l) (hat : At s.data.toList l i ts) (h1 : seesB ts 123 = true) :
    Calls Try.prog 25 #[(.pointer (some ⟨B, 0, none⟩))] w (Res B s a cap l 20 f w (pv 0 ts)) := by
  have HT := hide ht
  have HG := hide g
  have HA := hide hat
  have V0 := hide (vinv_start hr)
  have h2 := sees_else h1 (b := 91) (by decide)
  have RES := hide (pv_deep (.inl h1))
  have K1 : ∀ u, Hid (VInv w B s a cap l i 20 pl er u) → Hid (Calls Try.prog 44 #[(.pointer (some ⟨B, 0, none⟩)), .int .u8 123] u fun e w' => e = .returned (.bool true) ∧ Below u.heap.size u w') := fun u hu => hide (by
    have := seesMark_any u B s a cap l i 20 pl er ts 123 (by decide) (by decide) (unhide hu).rd (ht.grown (unhide hu).gr) g hat
    rw [h1] at this
    exact this)
  have K2 : ∀ u, Hid (VInv w B s a cap l i 20 pl er u) → Hid (Calls Try.prog 44 #[(.pointer (some ⟨B, 0, none⟩)), .int .u8 91] u fun e w' => e = .returned (.bool false) ∧ Below u.heap.size u w') := fun u hu => hide (by
    have := seesMark_any u B s a cap l i 20 pl er ts 91 (by decide) (by decide) (unhide hu).rd (ht.grown (unhide hu).gr) g hat
    rw [h2] at this
    exact this)
  clear hr ht g hat h1 h2
  suffices FIN : ∀ Post : Ending → World → Prop, Hid (∀ e w', Res B s a cap l 20 f w (pv 0 ts) e w' → Post e w') → Calls Try.prog 25 #[(.pointer (some ⟨B, 0, none⟩))] w Post from FIN _ (hide fun _ _ h => h)
  intro Post HPost
  go_enter Try.func25, Try.ntmps25
  go_upto_region 1 with fail
  have p0 := Blk.cell (unhide V0).pb 0 _ rfl
  generalize (w.alloc (.cells #[(.pointer (some ⟨B, 0, none⟩))] 42)).alloc (.cells #[.int .i64 0, .int .i64 0, .int .i64 0, .slice none 0 0] 24) = w0 at *
  go_cut [4, 5] from 6 to 9 (fun s4 s5 wx => s4 = .bool true ∧ s5 = .bool false ∧ Hid (VInv w B s a cap l i 20 pl er wx))
  case first =>
    go_region_with (first
      | (go_at_call_of 44 (Value.int IntKind.u8 123)
         refine (unhide (K1 _ (by first | exact V0 | exact hide ((unhide V0).below (below_drewN (Below.refl _ _) _)) | exact hide ((unhide V0).below ((Below.refl _ _).drew))))).mono ?_
         rintro e w2 ⟨rfl, b2⟩
         have V2 := hide (((unhide V0).below (below_drewN (Below.refl _ _) 1)).below b2)
         have p2 := Blk.cell (unhide V2).pb 0 _ rfl
         clear b2)
      | (go_at_call_of 44 (Value.int IntKind.u8 91)
         refine (unhide (K2 _ V2)).mono ?_
         rintro e w3 ⟨rfl, b3⟩
         have V3 := hide ((unhide V2).below b3)
         clear b3))
    all_goals
      go_wp2_with fail
      go_meet
      exact ⟨rfl, rfl, V3⟩
  case rest =>
  obtain ⟨rfl, rfl, V⟩ := hcut
  clear K1 K2 V0 p0 w0
  have p0 := Blk.cell (unhide V).pb 0 _ rfl
  have KR := hide (refuse_any wc B s a cap l i 20 pl er ts 5 (by decide) (unhide V).rd ((unhide HT).grown (unhide V).gr) (unhide HG) (unhide HA))
  have c3 := Blk.cell (unhide V).rd 3 (.int .i64 20) rfl
  go_wp2_with fail
  refine (unhide KR).mono ?_
  rintro e w2 ⟨rfl, rd2, g2⟩
  dsimp only
  have hlt := (unhide V).lt
  have zb := Blk.grown (unhide V).zb g2 (fun e => by injection e with e; omega)
  obtain ⟨z0, z1, z2, z3⟩ := Blk.cells4 zb
  obtain ⟨y0, y1, y2, y3⟩ := Blk.froz4 zb
  have FE := hide (pass_bad (d := 20) (f := f) hlt (Nat.le_succ _) (unhide V).gr g2 zb rd2)
  clear KR rd2 g2 zb V p0 hlt
  go_wp2
  obtain ⟨FE1, FC⟩ := unhide FE
  refine ret_put (v := .tuple #[(.agg #[.int .i64 0, .int .i64 0, .int .i64 0, .slice none 0 0]), .bool false]) FC (fun wF hF => by obtain ⟨f0, f1, f2, f3⟩ := hF; simp [results, Try.results25, go_sem, f0, f1, f2, f3]) rfl ?_
  refine unhide HPost _ _ ?_
  rw [unhide RES]
  exact FE1
end Go.Proofs.Ytoikdjbgeebadaa.trees
/- The walk of package tree's value: one way. -/
set_option linter.unusedVariables false
namespace Go.Proofs.Ytoikdjbgeebadaa.trees
open Go.RowKit
open toks

set_option maxHeartbeats 4000000 in
set_option maxRecDepth 100000 in
theorem value_zb (w : World) (B : Nat) (s : ByteArray) (a : Option Addr) (cap : Nat) (l : List Tk) (i f : Nat) (pl er : Int) (ts : List Sym) 
    (hr : Rd w B s (.slice a l.length cap) i 20 pl er) (ht : TkIn w B a l) (g : Good s l) (hat : At s.data.toList l i ts) (h2 : seesB ts 91 = true) :
    Calls Try.prog 25 #[(.pointer (some ⟨B, 0, none⟩))] w (Res B s a cap l 20 f w (pv 0 ts)) := by
  have HT := hide ht
  have HG := hide g
  have HA := hide hat
  have V0 := hide (vinv_start hr)
  have h1 := sees_else h2 (b := 123) (by decide)
  have RES := hide (pv_deep (.inr (.inl h2)))
  have K1 : ∀ u, Hid (VInv w B s a cap l i 20 pl er u) → Hid (Calls Try.prog 44 #[(.pointer (some ⟨B, 0, none⟩)), .int .u8 123] u fun e w' => e = .returned (.bool false) ∧ Below u.heap.size u w') := fun u hu => hide (by
    have := seesMark_any u B s a cap l i 20 pl er ts 123 (by decide) (by decide) (unhide hu).rd (ht.grown (unhide hu).gr) g hat
    rw [h1] at this
    exact this)
  have K2 : ∀ u, Hid (VInv w B s a cap l i 20 pl er u) → Hid (Calls Try.prog 44 #[(.pointer (some ⟨B, 0, none⟩)), .int .u8 91] u fun e w' => e = .returned (.bool true) ∧ Below u.heap.size u w') := fun u hu => hide (by
    have := seesMark_any u B s a cap l i 20 pl er ts 91 (by decide) (by decide) (unhide hu).rd (ht.grown (unhide hu).gr) g hat
    rw [h2] at this
    exact this)
  clear hr ht g hat h1 h2
  suffices FIN : ∀ Post : Ending → World → Prop, Hid (∀ e w', Res B s a cap l 20 f w (pv 0 ts) e w' → Post e w') → Calls Try.prog 25 #[(.pointer (some ⟨B, 0, none⟩))] w Post from FIN _ (hide fun _ _ h => h)
  intro Post HPost
  go_enter Try.func25, Try.ntmps25
  go_upto_region 1 with fail
  have p0 := Blk.cell (unhide V0).pb 0 _ rfl
  generalize (w.alloc (.cells #[(.pointer (some ⟨B, 0, none⟩))] 42)).alloc (.cells #[.int .i64 0, .int .i64 0, .int .i64 0, .slice none 0 0] 24) = w0 at *
  go_cut [4, 5] from 6 to 9 (fun s4 s5 wx => s4 = .bool false ∧ s5 = .bool true ∧ Hid (VInv w B s a cap l i 20 pl er wx))
  case first =>
    go_region_with (first
      | (go_at_call_of 44 (Value.int IntKind.u8 123)
         refine (unhide (K1 _ (by first | exact V0 | exact hide ((unhide V0).below (below_drewN (Below.refl _ _) _)) | exact hide ((unhide V0).below ((Below.refl _ _).drew))))).mono ?_
         rintro e w2 ⟨rfl, b2⟩
         have V2 := hide (((unhide V0).below (below_drewN (Below.refl _ _) 1)).below b2)
         have p2 := Blk.cell (unhide V2).pb 0 _ rfl
         clear b2)
      | (go_at_call_of 44 (Value.int IntKind.u8 91)
         refine (unhide (K2 _ V2)).mono ?_
         rintro e w3 ⟨rfl, b3⟩
         have V3 := hide ((unhide V2).below b3)
         clear b3))
    all_goals
      go_wp2_with fail
      go_meet
      exact ⟨rfl, rfl, V3⟩
  case rest =>
  obtain ⟨rfl, rfl, V⟩ := hcut
  clear K1 K2 V0 p0 w0
  have p0 := Blk.cell (unhide V).pb 0 _ rfl
  have KR := hide (refuse_any wc B s a cap l i 20 pl er ts 5 (by decide) (unhide V).rd ((unhide HT).grown (unhide V).gr) (unhide HG) (unhide HA))
  have c3 := Blk.cell (unhide V).rd 3 (.int .i64 20) rfl
  go_wp2_with fail
  refine (unhide KR).mono ?_
  rintro e w2 ⟨rfl, rd2, g2⟩
  dsimp only
  have hlt := (unhide V).lt
  have zb := Blk.grown (unhide V).zb g2 (fun e => by injection e with e; omega)
  obtain ⟨z0, z1, z2, z3⟩ := Blk.cells4 zb
  obtain ⟨y0, y1, y2, y3⟩ := Blk.froz4 zb
  have FE := hide (pass_bad (d := 20) (f := f) hlt (Nat.le_succ _) (unhide V).gr g2 zb rd2)
  clear KR rd2 g2 zb V p0 hlt
  go_wp2
  obtain ⟨FE1, FC⟩ := unhide FE
  refine ret_put (v := .tuple #[(.agg #[.int .i64 0, .int .i64 0, .int .i64 0, .slice none 0 0]), .bool false]) FC (fun wF hF => by obtain ⟨f0, f1, f2, f3⟩ := hF; simp [results, Try.results25, go_sem, f0, f1, f2, f3]) rfl ?_
  refine unhide HPost _ _ ?_
  rw [unhide RES]
  exact FE1
end Go.Proofs.Ytoikdjbgeebadaa.trees
/- The walk of package tree's value: one way. -/
set_option linter.unusedVariables false
namespace Go.Proofs.Ytoikdjbgeebadaa.trees
open Go.RowKit
open toks

set_option maxHeartbeats 4000000 in
set_option maxRecDepth 100000 in
theorem value_zc (w : World) (B : Nat) (s : ByteArray) (a : Option Addr) (cap : Nat) (l : List Tk) (i f : Nat) (pl er : Int) (ts : List Sym) 
    (hr : Rd w B s (.slice a l.length cap) i 20 pl er) (ht : TkIn w B a l) (g : Good s l) (hat : At s.data.toList l i ts) (h3 : seesB ts 120 = true) :
    Calls Try.prog 25 #[(.pointer (some ⟨B, 0, none⟩))] w (Res B s a cap l 20 f w (pv 0 ts)) := by
  have HT := hide ht
  have HG := hide g
  have HA := hide hat
  have V0 := hide (vinv_start hr)
  have h1 := sees_else h3 (b := 123) (by decide)
  have h2 := sees_else h3 (b := 91) (by decide)
  have H3 := hide h3
  have RES := hide (pv_deep (.inr (.inr h3)))
  clear h3
  have K1 : ∀ u, Hid (VInv w B s a cap l i 20 pl er u) → Hid (Calls Try.prog 44 #[(.pointer (some ⟨B, 0, none⟩)), .int .u8 123] u fun e w' => e = .returned (.bool false) ∧ Below u.heap.size u w') := fun u hu => hide (by
    have := seesMark_any u B s a cap l i 20 pl er ts 123 (by decide) (by decide) (unhide hu).rd (ht.grown (unhide hu).gr) g hat
    rw [h1] at this
    exact this)
  have K2 : ∀ u, Hid (VInv w B s a cap l i 20 pl er u) → Hid (Calls Try.prog 44 #[(.pointer (some ⟨B, 0, none⟩)), .int .u8 91] u fun e w' => e = .returned (.bool false) ∧ Below u.heap.size u w') := fun u hu => hide (by
    have := seesMark_any u B s a cap l i 20 pl er ts 91 (by decide) (by decide) (unhide hu).rd (ht.grown (unhide hu).gr) g hat
    rw [h2] at this
    exact this)
  clear hr ht g hat h1 h2
  suffices FIN : ∀ Post : Ending → World → Prop, Hid (∀ e w', Res B s a cap l 20 f w (pv 0 ts) e w' → Post e w') → Calls Try.prog 25 #[(.pointer (some ⟨B, 0, none⟩))] w Post from FIN _ (hide fun _ _ h => h)
  intro Post HPost
  go_enter Try.func25, Try.ntmps25
  go_upto_region 1 with fail
  have p0 := Blk.cell (unhide V0).pb 0 _ rfl
  generalize (w.alloc (.cells #[(.pointer (some ⟨B, 0, none⟩))] 42)).alloc (.cells #[.int .i64 0, .int .i64 0, .int .i64 0, .slice none 0 0] 24) = w0 at *
  go_cut [4, 5] from 6 to 9 (fun s4 s5 wx => s4 = .bool false ∧ s5 = .bool false ∧ Hid (VInv w B s a cap l i 20 pl er wx))
  case first =>
    go_region_with (first
      | (go_at_call_of 44 (Value.int IntKind.u8 123)
         refine (unhide (K1 _ (by first | exact V0 | exact hide ((unhide V0).below (below_drewN (Below.refl _ _) _)) | exact hide ((unhide V0).below ((Below.refl _ _).drew))))).mono ?_
         rintro e w2 ⟨rfl, b2⟩
         have V2 := hide (((unhide V0).below (below_drewN (Below.refl _ _) 1)).below b2)
         have p2 := Blk.cell (unhide V2).pb 0 _ rfl
         clear b2)
      | (go_at_call_of 44 (Value.int IntKind.u8 91)
         refine (unhide (K2 _ V2)).mono ?_
         rintro e w3 ⟨rfl, b3⟩
         have V3 := hide ((unhide V2).below b3)
         clear b3))
    all_goals
      go_wp2_with fail
      go_meet
      exact ⟨rfl, rfl, V3⟩
  case rest =>
  obtain ⟨rfl, rfl, V⟩ := hcut
  clear K1 K2 V0 p0 w0
  have p0 := Blk.cell (unhide V).pb 0 _ rfl
  have KO := hide (seesOne_any wc B s a cap l i 20 pl er ts (unhide V).rd ((unhide HT).grown (unhide V).gr) (unhide HG) (unhide HA))
  rw [unhide H3] at KO
  go_wp2_with fail
  refine (unhide KO).mono ?_
  rintro e wd ⟨rfl, bd⟩
  dsimp only
  have Vd := hide ((unhide V).below bd)
  clear KO bd p0 V
  have V := Vd
  clear Vd
  have p0 := Blk.cell (unhide V).pb 0 _ rfl
  clear wc
  generalize wd = wc at *
  have KR := hide (refuse_any wc B s a cap l i 20 pl er ts 5 (by decide) (unhide V).rd ((unhide HT).grown (unhide V).gr) (unhide HG) (unhide HA))
  have c3 := Blk.cell (unhide V).rd 3 (.int .i64 20) rfl
  go_wp2_with fail
  refine (unhide KR).mono ?_
  rintro e w2 ⟨rfl, rd2, g2⟩
  dsimp only
  have hlt := (unhide V).lt
  have zb := Blk.grown (unhide V).zb g2 (fun e => by injection e with e; omega)
  obtain ⟨z0, z1, z2, z3⟩ := Blk.cells4 zb
  obtain ⟨y0, y1, y2, y3⟩ := Blk.froz4 zb
  have FE := hide (pass_bad (d := 20) (f := f) hlt (Nat.le_succ _) (unhide V).gr g2 zb rd2)
  clear KR rd2 g2 zb V p0 hlt
  go_wp2
  obtain ⟨FE1, FC⟩ := unhide FE
  refine ret_put (v := .tuple #[(.agg #[.int .i64 0, .int .i64 0, .int .i64 0, .slice none 0 0]), .bool false]) FC (fun wF hF => by obtain ⟨f0, f1, f2, f3⟩ := hF; simp [results, Try.results25, go_sem, f0, f1, f2, f3]) rfl ?_
  refine unhide HPost _ _ ?_
  rw [unhide RES]
  exact FE1
end Go.Proofs.Ytoikdjbgeebadaa.trees
/- The walk of package tree's value: one way. -/
set_option linter.unusedVariables false
namespace Go.Proofs.Ytoikdjbgeebadaa.trees
open Go.RowKit
open toks

set_option maxHeartbeats 4000000 in
set_option maxRecDepth 100000 in
theorem value_d (w : World) (B : Nat) (s : ByteArray) (a : Option Addr) (cap : Nat) (l : List Tk) (i d lv f : Nat) (pl er : Int) (ts : List Sym) 
    (hr : Rd w B s (.slice a l.length cap) i d pl er) (ht : TkIn w B a l) (g : Good s l) (hat : At s.data.toList l i ts) (h1 : seesB ts 123 = false) (h2 : seesB ts 91 = false) (h3 : seesB ts 120 = false) :
    Calls Try.prog 25 #[(.pointer (some ⟨B, 0, none⟩))] w (Res B s a cap l d f w (pv lv ts)) := by
  have HT := hide ht
  have HG := hide g
  have HA := hide hat
  have V0 := hide (vinv_start hr)
  have RES := hide (pv_bad (lv := lv) h1 h2 h3)
  have H3 := hide h3
  clear h3
  have K1 : ∀ u, Hid (VInv w B s a cap l i d pl er u) → Hid (Calls Try.prog 44 #[(.pointer (some ⟨B, 0, none⟩)), .int .u8 123] u fun e w' => e = .returned (.bool false) ∧ Below u.heap.size u w') := fun u hu => hide (by
    have := seesMark_any u B s a cap l i d pl er ts 123 (by decide) (by decide) (unhide hu).rd (ht.grown (unhide hu).gr) g hat
    rw [h1] at this
    exact this)
  have K2 : ∀ u, Hid (VInv w B s a cap l i d pl er u) → Hid (Calls Try.prog 44 #[(.pointer (some ⟨B, 0, none⟩)), .int .u8 91] u fun e w' => e = .returned (.bool false) ∧ Below u.heap.size u w') := fun u hu => hide (by
    have := seesMark_any u B s a cap l i d pl er ts 91 (by decide) (by decide) (unhide hu).rd (ht.grown (unhide hu).gr) g hat
    rw [h2] at this
    exact this)
  clear hr ht g hat h1 h2
  suffices FIN : ∀ Post : Ending → World → Prop, Hid (∀ e w', Res B s a cap l d f w (pv lv ts) e w' → Post e w') → Calls Try.prog 25 #[(.pointer (some ⟨B, 0, none⟩))] w Post from FIN _ (hide fun _ _ h => h)
  intro Post HPost
  go_enter Try.func25, Try.ntmps25
  go_upto_region 1 with fail
  have p0 := Blk.cell (unhide V0).pb 0 _ rfl
  generalize (w.alloc (.cells #[(.pointer (some ⟨B, 0, none⟩))] 42)).alloc (.cells #[.int .i64 0, .int .i64 0, .int .i64 0, .slice none 0 0] 24) = w0 at *
  go_cut [4, 5] from 6 to 9 (fun s4 s5 wx => s4 = .bool false ∧ s5 = .bool false ∧ Hid (VInv w B s a cap l i d pl er wx))
  case first =>
    go_region_with (first
      | (go_at_call_of 44 (Value.int IntKind.u8 123)
         refine (unhide (K1 _ (by first | exact V0 | exact hide ((unhide V0).below (below_drewN (Below.refl _ _) _)) | exact hide ((unhide V0).below ((Below.refl _ _).drew))))).mono ?_
         rintro e w2 ⟨rfl, b2⟩
         have V2 := hide (((unhide V0).below (below_drewN (Below.refl _ _) 1)).below b2)
         have p2 := Blk.cell (unhide V2).pb 0 _ rfl
         clear b2)
      | (go_at_call_of 44 (Value.int IntKind.u8 91)
         refine (unhide (K2 _ V2)).mono ?_
         rintro e w3 ⟨rfl, b3⟩
         have V3 := hide ((unhide V2).below b3)
         clear b3))
    all_goals
      go_wp2_with fail
      go_meet
      exact ⟨rfl, rfl, V3⟩
  case rest =>
  obtain ⟨rfl, rfl, V⟩ := hcut
  clear K1 K2 V0 p0 w0
  have p0 := Blk.cell (unhide V).pb 0 _ rfl
  have KO := hide (seesOne_any wc B s a cap l i d pl er ts (unhide V).rd ((unhide HT).grown (unhide V).gr) (unhide HG) (unhide HA))
  rw [unhide H3] at KO
  go_wp2_with fail
  refine (unhide KO).mono ?_
  rintro e wd ⟨rfl, bd⟩
  dsimp only
  have Vd := hide ((unhide V).below bd)
  clear KO bd p0 V
  have V := Vd
  clear Vd
  have p0 := Blk.cell (unhide V).pb 0 _ rfl
  clear wc
  generalize wd = wc at *
  have KR := hide (refuse_any wc B s a cap l i d pl er ts 4 (by decide) (unhide V).rd ((unhide HT).grown (unhide V).gr) (unhide HG) (unhide HA))
  go_wp2_with fail
  refine (unhide KR).mono ?_
  rintro e w2 ⟨rfl, rd2, g2⟩
  dsimp only
  have hlt := (unhide V).lt
  have zb := Blk.grown (unhide V).zb g2 (fun e => by injection e with e; omega)
  obtain ⟨z0, z1, z2, z3⟩ := Blk.cells4 zb
  obtain ⟨y0, y1, y2, y3⟩ := Blk.froz4 zb
  have FE := hide (pass_bad (d := d) (f := f) hlt (Nat.le_succ _) (unhide V).gr g2 zb rd2)
  clear KR rd2 g2 zb V p0 hlt
  go_wp2
  obtain ⟨FE1, FC⟩ := unhide FE
  refine ret_put (v := .tuple #[(.agg #[.int .i64 0, .int .i64 0, .int .i64 0, .slice none 0 0]), .bool false]) FC (fun wF hF => by obtain ⟨f0, f1, f2, f3⟩ := hF; simp [results, Try.results25, go_sem, f0, f1, f2, f3]) rfl ?_
  refine unhide HPost _ _ ?_
  rw [unhide RES]
  exact FE1
end Go.Proofs.Ytoikdjbgeebadaa.trees
/- The walk of package tree's value: one way. -/
set_option linter.unusedVariables false
namespace Go.Proofs.Ytoikdjbgeebadaa.trees
open Go.RowKit
open toks

set_option maxHeartbeats 4000000 in
set_option maxRecDepth 100000 in
theorem value_sc (w : World) (B : Nat) (s : ByteArray) (a : Option Addr) (cap : Nat) (l : List Tk) (i d lv : Nat) (pl er : Int) (ts : List Sym) (hd : d < 20)
    (hr : Rd w B s (.slice a l.length cap) i d pl er) (ht : TkIn w B a l) (g : Good s l) (hat : At s.data.toList l i ts) (h3 : seesB ts 120 = true) :
    Calls Try.prog 25 #[(.pointer (some ⟨B, 0, none⟩))] w (Res B s a cap l d (2 * lv + 2) w (pv (lv + 1) ts)) := by
  have HT := hide ht
  have HG := hide g
  have HA := hide hat
  have V0 := hide (vinv_start hr)
  have h1 := sees_else h3 (b := 123) (by decide)
  have h2 := sees_else h3 (b := 91) (by decide)
  have H3 := hide h3
  clear h3
  have K1 : ∀ u, Hid (VInv w B s a cap l i d pl er u) → Hid (Calls Try.prog 44 #[(.pointer (some ⟨B, 0, none⟩)), .int .u8 123] u fun e w' => e = .returned (.bool false) ∧ Below u.heap.size u w') := fun u hu => hide (by
    have := seesMark_any u B s a cap l i d pl er ts 123 (by decide) (by decide) (unhide hu).rd (ht.grown (unhide hu).gr) g hat
    rw [h1] at this
    exact this)
  have K2 : ∀ u, Hid (VInv w B s a cap l i d pl er u) → Hid (Calls Try.prog 44 #[(.pointer (some ⟨B, 0, none⟩)), .int .u8 91] u fun e w' => e = .returned (.bool false) ∧ Below u.heap.size u w') := fun u hu => hide (by
    have := seesMark_any u B s a cap l i d pl er ts 91 (by decide) (by decide) (unhide hu).rd (ht.grown (unhide hu).gr) g hat
    rw [h2] at this
    exact this)
  clear hr ht g hat h1 h2
  suffices FIN : ∀ Post : Ending → World → Prop, Hid (∀ e w', Res B s a cap l d (2 * lv + 2) w (pv (lv + 1) ts) e w' → Post e w') → Calls Try.prog 25 #[(.pointer (some ⟨B, 0, none⟩))] w Post from FIN _ (hide fun _ _ h => h)
  intro Post HPost
  go_enter Try.func25, Try.ntmps25
  go_upto_region 1 with fail
  have p0 := Blk.cell (unhide V0).pb 0 _ rfl
  generalize (w.alloc (.cells #[(.pointer (some ⟨B, 0, none⟩))] 42)).alloc (.cells #[.int .i64 0, .int .i64 0, .int .i64 0, .slice none 0 0] 24) = w0 at *
  go_cut [4, 5] from 6 to 9 (fun s4 s5 wx => s4 = .bool false ∧ s5 = .bool false ∧ Hid (VInv w B s a cap l i d pl er wx))
  case first =>
    go_region_with (first
      | (go_at_call_of 44 (Value.int IntKind.u8 123)
         refine (unhide (K1 _ (by first | exact V0 | exact hide ((unhide V0).below (below_drewN (Below.refl _ _) _)) | exact hide ((unhide V0).below ((Below.refl _ _).drew))))).mono ?_
         rintro e w2 ⟨rfl, b2⟩
         have V2 := hide (((unhide V0).below (below_drewN (Below.refl _ _) 1)).below b2)
         have p2 := Blk.cell (unhide V2).pb 0 _ rfl
         clear b2)
      | (go_at_call_of 44 (Value.int IntKind.u8 91)
         refine (unhide (K2 _ V2)).mono ?_
         rintro e w3 ⟨rfl, b3⟩
         have V3 := hide ((unhide V2).below b3)
         clear b3))
    all_goals
      go_wp2_with fail
      go_meet
      exact ⟨rfl, rfl, V3⟩
  case rest =>
  obtain ⟨rfl, rfl, V⟩ := hcut
  clear K1 K2 V0 p0 w0
  have p0 := Blk.cell (unhide V).pb 0 _ rfl
  have KO := hide (seesOne_any wc B s a cap l i d pl er ts (unhide V).rd ((unhide HT).grown (unhide V).gr) (unhide HG) (unhide HA))
  rw [unhide H3] at KO
  go_wp2_with fail
  refine (unhide KO).mono ?_
  rintro e wd ⟨rfl, bd⟩
  dsimp only
  have Vd := hide ((unhide V).below bd)
  clear KO bd p0 V
  have V := Vd
  clear Vd
  have p0 := Blk.cell (unhide V).pb 0 _ rfl
  clear wc
  generalize wd = wc at *
  obtain ⟨x, r, rfl, hx⟩ := seesB_yes (unhide H3)
  have RES := hide (pv_leaf (lv := lv) (r := r) hx)
  obtain ⟨hi, hx2, hn⟩ := at_two (unhide HA)
  have KL := hide (one_any wc B s a cap l i d pl er 1 (by decide) (unhide V).rd ((unhide HT).grown (unhide V).gr) (unhide HG) hi)
  have HX2 := hide hx2
  have HN := hide hn
  have c3 := Blk.cell (unhide V).rd 3 (.int .i64 (d : Int)) rfl
  have j3 : ((d : Int) == 20) = false := beq_false_of_ne (by omega)
  clear hx hx2 hn hi
  go_wp2_with fail
  refine (unhide KL).mono ?_
  rintro e w2 ⟨i2, rfl, n2, rd2, g2⟩
  dsimp only
  have hlt := (unhide V).lt
  have zb := Blk.grown (unhide V).zb g2 (fun e => by injection e with e; omega)
  obtain ⟨z0, z1, z2, z3⟩ := Blk.cells4 zb
  obtain ⟨y0, y1, y2, y3⟩ := Blk.froz4 zb
  have FE := hide (pass_good (d := d) (f := 2 * lv + 2) hlt (Nat.le_succ _) (Blk.lt (unhide V).zb) (unhide V).gr g2 zb (lies_leaf _ (2 * lv + 1) w2 1 i (i + 1)) rd2 (unhide HN _ n2))
  rw [show ((i + 1 : Nat) : Int) = (i : Int) + 1 by omega] at FE
  clear KL rd2 g2 zb V p0 hlt n2 c3
  go_wp2
  obtain ⟨FE1, FC⟩ := unhide FE
  refine ret_put (v := .tuple #[.agg #[.int .i64 1, .int .i64 (i : Int), .int .i64 ((i : Int) + 1), .slice none 0 0], .bool true]) FC (fun wF hF => by obtain ⟨f0, f1, f2, f3⟩ := hF; simp [results, Try.results25, go_sem, f0, f1, f2, f3]) rfl ?_
  refine unhide HPost _ _ ?_
  rw [unhide RES, unhide HX2]
  exact FE1
end Go.Proofs.Ytoikdjbgeebadaa.trees
