/- The walk of package tree's value: one way. -/
import Derived.Test.YtoikdjbgeebadaaTreeValP
import Derived.Test.YtoikdjbgeebadaaTreeBet2W
import Derived.Test.YtoikdjbgeebadaaTreeClo2W
set_option linter.unusedVariables false
namespace Go.Proofs.Ytoikdjbgeebadaa.trees
open Go.RowKit
open toks

set_option maxHeartbeats 4000000 in
set_option maxRecDepth 100000 in
theorem value_sb (w : World) (B : Nat) (s : ByteArray) (a : Option Addr) (cap : Nat) (l : List Tk) (i d lv : Nat) (pl er : Int) (ts : List Sym) (hd : d < 20) (VAL : ∀ (u : World) (j : Nat) (pl er : Int) (ts : List Sym), Rd u B s (.slice a l.length cap) j (d + 1) pl er → TkIn u B a l → At s.data.toList l j ts → Calls Try.prog 25 #[(.pointer (some ⟨B, 0, none⟩))] u (Res B s a cap l (d + 1) (2 * lv) u (pv lv ts)))
    (hr : Rd w B s (.slice a l.length cap) i d pl er) (ht : TkIn w B a l) (g : Good s l) (hat : At s.data.toList l i ts) (h2 : seesB ts 91 = true) :
    Calls Try.prog 25 #[(.pointer (some ⟨B, 0, none⟩))] w (Res B s a cap l d (2 * lv + 2) w (pv (lv + 1) ts)) := by
  have HT := hide ht
  have HG := hide g
  have HA := hide hat
  have V0 := hide (vinv_start hr)
  have h1 := sees_else h2 (b := 123) (by decide)
  have H3 := hide h2
  have HVL := hide VAL
  clear VAL
  have K1 : ∀ u, Hid (VInv w B s a cap l i d pl er u) → Hid (Calls Try.prog 44 #[(.pointer (some ⟨B, 0, none⟩)), .int .u8 123] u fun e w' => e = .returned (.bool false) ∧ Below u.heap.size u w') := fun u hu => hide (by
    have := seesMark_any u B s a cap l i d pl er ts 123 (by decide) (by decide) (unhide hu).rd (ht.grown (unhide hu).gr) g hat
    rw [h1] at this
    exact this)
  have K2 : ∀ u, Hid (VInv w B s a cap l i d pl er u) → Hid (Calls Try.prog 44 #[(.pointer (some ⟨B, 0, none⟩)), .int .u8 91] u fun e w' => e = .returned (.bool true) ∧ Below u.heap.size u w') := fun u hu => hide (by
    have := seesMark_any u B s a cap l i d pl er ts 91 (by decide) (by decide) (unhide hu).rd (ht.grown (unhide hu).gr) g hat
    rw [h2] at this
    exact this)
  clear hr ht g hat h1 h2
  suffices FIN : ∀ Post : Ending → World → Prop, Hid (∀ e w', Res B s a cap l d (2 * lv + 2) w (pv (lv + 1) ts) e w' → Post e w') → Calls Try.prog 25 #[(.pointer (some ⟨B, 0, none⟩))] w Post from FIN _ (hide fun _ _ h => h)
  intro Post HPost
  go_enter Try.func25, Try.ntmps25
  go_upto_region 1 with fail
  have p0 := Blk.cell (unhide V0).pb 0 _ rfl
  generalize (w.alloc (.cells #[(.pointer (some ⟨B, 0, none⟩))] 42)).alloc (.cells #[.int .i64 0, .int .i64 0, .int .i64 0, .slice none 0 0] 24) = w0 at *
  go_cut [4, 5] from 6 to 9 (fun s4 s5 wx => s4 = .bool false ∧ s5 = .bool true ∧ Hid (VInv w B s a cap l i d pl er wx))
  case first =>
    go_region_with (first
      | (go_at_call_of 44 (Value.int IntKind.u8 123)
         refine (unhide (K1 _ (by first | exact V0 | exact hide ((unhide V0).below (below_drewN (Below.refl _ _) _)) | exact hide ((unhide V0).below ((Below.refl _ _).drew))))).mono ?_
         rintro e w2 ⟨rfl, b2⟩
         have V2 := hide (((unhide V0).below (below_drewN (Below.refl _ _) 1)).below b2)
         have p2 := Blk.cell (unhide V2).pb 0 _ rfl
         clear b2)
      | (go_at_call_of 44 (Value.int IntKind.u8 91)
         refine (unhide (K2 _ V2)).mono ?_
         rintro e w3 ⟨rfl, b3⟩
         have V3 := hide ((unhide V2).below b3)
         clear b3))
    all_goals
      go_wp2_with fail
      go_meet
      exact ⟨rfl, rfl, V3⟩
  case rest =>
  obtain ⟨rfl, rfl, V⟩ := hcut
  clear K1 K2 V0 p0 w0
  have p0 := Blk.cell (unhide V).pb 0 _ rfl
  obtain ⟨x, r, rfl, hx⟩ := seesB_yes (unhide H3)
  have RES := hide (pv_list (lv := lv) (r := r) hx)
  have hlt := (unhide V).lt
  have KL := hide (between_2 wc B w.heap.size s a cap l i d pl er x r (pv lv) 5 (2 * lv + 1) 93 (by decide) (by decide) (by decide) (by decide) (by omega) (unhide V).rd ((unhide HT).grown (unhide V).gr) (unhide HG) (unhide HA) p0 (by omega) (pv_nil lv) (pv_loc lv)
    (fun u j pl er ts h1 h2 h3 h4 => kid_2 u B w.heap.size s a cap l j (d + 1) pl er ts (pv lv) (2 * lv + 1) h1 h2 h3 h4 (fun u j pl er ts h1 h2 h3 => (unhide HVL u j pl er ts h1 h2 h3).mono (fun e w' h => h.to (Nat.le_succ _)))))
  have c3 := Blk.cell (unhide V).rd 3 (.int .i64 (d : Int)) rfl
  have j3 : ((d : Int) == 20) = false := beq_false_of_ne (by omega)
  clear hx hlt HVL
  generalize loopP (pv lv) 93 5 x.2 (r.length + 1) [] r = qq at *
  go_wp2_with fail
  refine (unhide KL).mono ?_
  cases qq with
  | inl er1 =>
    obtain ⟨c, te⟩ := er1
    rintro e w2 ⟨g2, rfl, ib, db, rd2⟩
    dsimp only
    have hlt := (unhide V).lt
    have zb := Blk.grown (unhide V).zb g2 (fun e => by injection e with e; omega)
    obtain ⟨z0, z1, z2, z3⟩ := Blk.cells4 zb
    obtain ⟨y0, y1, y2, y3⟩ := Blk.froz4 zb
    have FE := hide (pass_bad (d := d) (f := 2 * lv + 2) hlt (Nat.le_succ _) (unhide V).gr g2 zb rd2)
    clear KL rd2 g2 zb V p0 hlt c3
    go_wp2
    obtain ⟨FE1, FC⟩ := unhide FE
    refine ret_put (v := .tuple #[(.agg #[.int .i64 0, .int .i64 0, .int .i64 0, .slice none 0 0]), .bool false]) FC (fun wF hF => by obtain ⟨f0, f1, f2, f3⟩ := hF; simp [results, Try.results25, go_sem, f0, f1, f2, f3]) rfl ?_
    refine unhide HPost _ _ ?_
    rw [unhide RES]
    exact FE1
  | inr tr =>
    obtain ⟨v, r2⟩ := tr
    rintro e w2 ⟨g2, u0, u1, u2, u3, rfl, hL, ib, plb, erb, rd2, a2⟩
    dsimp only
    obtain ⟨k0, a0, e0, pk, nk, ck, rfl, rfl, rfl, rfl⟩ := hL.form
    have hlt := (unhide V).lt
    have zb := Blk.grown (unhide V).zb g2 (fun e => by injection e with e; omega)
    obtain ⟨z0, z1, z2, z3⟩ := Blk.cells4 zb
    obtain ⟨y0, y1, y2, y3⟩ := Blk.froz4 zb
    have FE := hide (pass_good (d := d) (f := 2 * lv + 2) hlt (Nat.le_succ _) (Blk.lt (unhide V).zb) (unhide V).gr g2 zb hL rd2 a2)
    clear KL rd2 g2 zb V p0 hlt c3 hL a2
    go_wp2
    obtain ⟨FE1, FC⟩ := unhide FE
    refine ret_put (v := .tuple #[.agg #[.int .i64 (k0 : Int), .int .i64 (a0 : Int), .int .i64 (e0 : Int), .slice pk nk ck], .bool true]) FC (fun wF hF => by obtain ⟨f0, f1, f2, f3⟩ := hF; simp [results, Try.results25, go_sem, f0, f1, f2, f3]) rfl ?_
    refine unhide HPost _ _ ?_
    rw [unhide RES]
    exact FE1
end Go.Proofs.Ytoikdjbgeebadaa.trees
