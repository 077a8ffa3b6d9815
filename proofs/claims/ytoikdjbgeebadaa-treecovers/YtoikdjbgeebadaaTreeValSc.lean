/- The walk of package tree's value: one way. -/
import Derived.Test.YtoikdjbgeebadaaTreeValP
set_option linter.unusedVariables false
namespace Go.Proofs.Ytoikdjbgeebadaa.trees
open Go.RowKit
open toks

set_option maxHeartbeats 4000000 in
set_option maxRecDepth 100000 in
theorem value_sc (w : World) (B : Nat) (s : ByteArray) (a : Option Addr) (cap : Nat) (l : List Tk) (i d lv : Nat) (pl er : Int) (ts : List Sym) (hd : d < 20)
    (hr : Rd w B s (.slice a l.length cap) i d pl er) (ht : TkIn w B a l) (g : Good s l) (hat : At s.data.toList l i ts) (h3 : seesB ts 120 = true) :
    Calls Try.prog 25 #[(.pointer (some ⟨B, 0, none⟩))] w (Res B s a cap l d (2 * lv + 2) w (pv (lv + 1) ts)) := by
  have HT := hide ht
  have HG := hide g
  have HA := hide hat
  have V0 := hide (vinv_start hr)
  have h1 := sees_else h3 (b := 123) (by decide)
  have h2 := sees_else h3 (b := 91) (by decide)
  have H3 := hide h3
  clear h3
  have K1 : ∀ u, Hid (VInv w B s a cap l i d pl er u) → Hid (Calls Try.prog 44 #[(.pointer (some ⟨B, 0, none⟩)), .int .u8 123] u fun e w' => e = .returned (.bool false) ∧ Below u.heap.size u w') := fun u hu => hide (by
    have := seesMark_any u B s a cap l i d pl er ts 123 (by decide) (by decide) (unhide hu).rd (ht.grown (unhide hu).gr) g hat
    rw [h1] at this
    exact this)
  have K2 : ∀ u, Hid (VInv w B s a cap l i d pl er u) → Hid (Calls Try.prog 44 #[(.pointer (some ⟨B, 0, none⟩)), .int .u8 91] u fun e w' => e = .returned (.bool false) ∧ Below u.heap.size u w') := fun u hu => hide (by
    have := seesMark_any u B s a cap l i d pl er ts 91 (by decide) (by decide) (unhide hu).rd (ht.grown (unhide hu).gr) g hat
    rw [h2] at this
    exact this)
  clear hr ht g hat h1 h2
  suffices FIN : ∀ Post : Ending → World → Prop, Hid (∀ e w', Res B s a cap l d (2 * lv + 2) w (pv (lv + 1) ts) e w' → Post e w') → Calls Try.prog 25 #[(.pointer (some ⟨B, 0, none⟩))] w Post from FIN _ (hide fun _ _ h => h)
  intro Post HPost
  go_enter Try.func25, Try.ntmps25
  go_upto_region 1 with fail
  have p0 := Blk.cell (unhide V0).pb 0 _ rfl
  generalize (w.alloc (.cells #[(.pointer (some ⟨B, 0, none⟩))] 42)).alloc (.cells #[.int .i64 0, .int .i64 0, .int .i64 0, .slice none 0 0] 24) = w0 at *
  go_cut [4, 5] from 6 to 9 (fun s4 s5 wx => s4 = .bool false ∧ s5 = .bool false ∧ Hid (VInv w B s a cap l i d pl er wx))
  case first =>
    go_region_with (first
      | (go_at_call_of 44 (Value.int IntKind.u8 123)
         refine (unhide (K1 _ (by first | exact V0 | exact hide ((unhide V0).below (below_drewN (Below.refl _ _) _)) | exact hide ((unhide V0).below ((Below.refl _ _).drew))))).mono ?_
         rintro e w2 ⟨rfl, b2⟩
         have V2 := hide (((unhide V0).below (below_drewN (Below.refl _ _) 1)).below b2)
         have p2 := Blk.cell (unhide V2).pb 0 _ rfl
         clear b2)
      | (go_at_call_of 44 (Value.int IntKind.u8 91)
         refine (unhide (K2 _ V2)).mono ?_
         rintro e w3 ⟨rfl, b3⟩
         have V3 := hide ((unhide V2).below b3)
         clear b3))
    all_goals
      go_wp2_with fail
      go_meet
      exact ⟨rfl, rfl, V3⟩
  case rest =>
  obtain ⟨rfl, rfl, V⟩ := hcut
  clear K1 K2 V0 p0 w0
  have p0 := Blk.cell (unhide V).pb 0 _ rfl
  have KO := hide (seesOne_any wc B s a cap l i d pl er ts (unhide V).rd ((unhide HT).grown (unhide V).gr) (unhide HG) (unhide HA))
  rw [unhide H3] at KO
  go_wp2_with fail
  refine (unhide KO).mono ?_
  rintro e wd ⟨rfl, bd⟩
  dsimp only
  have Vd := hide ((unhide V).below bd)
  clear KO bd p0 V
  have V := Vd
  clear Vd
  have p0 := Blk.cell (unhide V).pb 0 _ rfl
  clear wc
  generalize wd = wc at *
  obtain ⟨x, r, rfl, hx⟩ := seesB_yes (unhide H3)
  have RES := hide (pv_leaf (lv := lv) (r := r) hx)
  obtain ⟨hi, hx2, hn⟩ := at_two (unhide HA)
  have KL := hide (one_any wc B s a cap l i d pl er 1 (by decide) (unhide V).rd ((unhide HT).grown (unhide V).gr) (unhide HG) hi)
  have HX2 := hide hx2
  have HN := hide hn
  have c3 := Blk.cell (unhide V).rd 3 (.int .i64 (d : Int)) rfl
  have j3 : ((d : Int) == 20) = false := beq_false_of_ne (by omega)
  clear hx hx2 hn hi
  go_wp2_with fail
  refine (unhide KL).mono ?_
  rintro e w2 ⟨i2, rfl, n2, rd2, g2⟩
  dsimp only
  have hlt := (unhide V).lt
  have zb := Blk.grown (unhide V).zb g2 (fun e => by injection e with e; omega)
  obtain ⟨z0, z1, z2, z3⟩ := Blk.cells4 zb
  obtain ⟨y0, y1, y2, y3⟩ := Blk.froz4 zb
  have FE := hide (pass_good (d := d) (f := 2 * lv + 2) hlt (Nat.le_succ _) (Blk.lt (unhide V).zb) (unhide V).gr g2 zb (lies_leaf _ (2 * lv + 1) w2 1 i (i + 1)) rd2 (unhide HN _ n2))
  rw [show ((i + 1 : Nat) : Int) = (i : Int) + 1 by omega] at FE
  clear KL rd2 g2 zb V p0 hlt n2 c3
  go_wp2
  obtain ⟨FE1, FC⟩ := unhide FE
  refine ret_put (v := .tuple #[.agg #[.int .i64 1, .int .i64 (i : Int), .int .i64 ((i : Int) + 1), .slice none 0 0], .bool true]) FC (fun wF hF => by obtain ⟨f0, f1, f2, f3⟩ := hF; simp [results, Try.results25, go_sem, f0, f1, f2, f3]) rfl ?_
  refine unhide HPost _ _ ?_
  rw [unhide RES, unhide HX2]
  exact FE1
end Go.Proofs.Ytoikdjbgeebadaa.trees
