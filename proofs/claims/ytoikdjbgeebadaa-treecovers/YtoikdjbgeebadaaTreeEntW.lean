/- The walk of package tree's entry. -/
import Derived.Test.YtoikdjbgeebadaaTreeEntP
set_option linter.unusedVariables false
namespace Go.Proofs.Ytoikdjbgeebadaa.trees
open Go.RowKit
open toks

set_option maxHeartbeats 4000000 in
set_option maxRecDepth 100000 in
theorem entry_any (w : World) (B : Nat) (s : ByteArray) (a : Option Addr) (cap : Nat) (l : List Tk) (i d : Nat) (pl er : Int) (ts : List Sym) (q : List Sym → R) (f : Nat)
    (hr : Rd w B s (.slice a l.length cap) i d pl er) (ht : TkIn w B a l) (g : Good s l) (hat : At s.data.toList l i ts)
    (VAL : ∀ (u : World) (j : Nat) (pl er : Int) (ts : List Sym), Rd u B s (.slice a l.length cap) j d pl er → TkIn u B a l → At s.data.toList l j ts → Calls Try.prog 25 #[(.pointer (some ⟨B, 0, none⟩))] u (Res B s a cap l d f u (q ts))) :
    Calls Try.prog 48 #[(.pointer (some ⟨B, 0, none⟩))] w (Res B s a cap l d (f + 1) w (entP q ts)) := by
  have hB := Blk.lt hr
  have bz : Below w.heap.size w ((World.alloc w (.cells #[.int .i64 0, .int .i64 0, .int .i64 0, .slice none 0 0] 24))) := (Below.refl _ w).alloc (Nat.le_refl _) _
  have K1 : Hid _ := hide (seesOne_any ((World.alloc w (.cells #[.int .i64 0, .int .i64 0, .int .i64 0, .slice none 0 0] 24))) B s a cap l i d pl er ts (hr.below bz) (ht.below bz) g hat)
  have HT := hide ht
  have HG := hide g
  have HV := hide VAL
  have HB := hide hB
  have HR := hide (hr.below bz)
  have HA := hide hat
  have HZ := hide (blk_alloc w #[.int .i64 0, .int .i64 0, .int .i64 0, .slice none 0 0] 24)
  have HGZ := hide (grown_alloc (grown_refl w (some B)) (.cells #[.int .i64 0, .int .i64 0, .int .i64 0, .slice none 0 0] 24))
  have hl := g.len
  have hz0 : ((World.alloc w (.cells #[.int .i64 0, .int .i64 0, .int .i64 0, .slice none 0 0] 24))).heap.size = w.heap.size + 1 := by simp
  clear hr ht g hat VAL hB bz
  suffices FIN : ∀ Post : Ending → World → Prop, Hid (∀ e w', Res B s a cap l d (f + 1) w (entP q ts) e w' → Post e w') → Calls Try.prog 48 #[(.pointer (some ⟨B, 0, none⟩))] w Post from FIN _ (hide fun _ _ h => h)
  intro Post HPost
  go_enter Try.func48, Try.ntmps48
  go_wp2_with fail
  generalize (World.alloc w (.cells #[.int .i64 0, .int .i64 0, .int .i64 0, .slice none 0 0] 24)) = w0 at *
  cases h1 : seesB ts 120 with
  | false =>
    have RES : Hid (entP q ts = .inl (4, ts)) := hide (ent_none h1)
    rw [h1] at K1
    refine (unhide K1).mono ?_
    rintro e w1 ⟨rfl, b1⟩
    dsimp only
    have KR := hide (refuse_any w1 B s a cap l i d pl er ts 4 (by decide) ((unhide HR).below b1) ((unhide HT).grown (grown_trans (unhide HGZ) (grown_below b1))) (unhide HG) (unhide HA))
    have HB1 := hide b1
    clear K1 b1 h1
    go_wp2_with fail
    refine (unhide KR).mono ?_
    rintro e w2 ⟨rfl, rd2, g2⟩
    dsimp only
    have g2' := grown_trans (grown_below (unhide HB1)) g2
    have zb := Blk.grown (unhide HZ) g2' (fun e => by injection e with e; have := unhide HB; omega)
    obtain ⟨z0, z1, z2, z3⟩ := Blk.cells4 zb
    obtain ⟨y0, y1, y2, y3⟩ := Blk.froz4 zb
    have FE := hide (pass_bad (d := d) (f := f + 1) (unhide HB) (Nat.le_refl _) (unhide HGZ) g2' zb rd2)
    clear KR rd2 g2 g2' zb
    go_wp2
    obtain ⟨FE1, f0, f1, f2, f3⟩ := unhide FE
    refine bodyPost_ret (v := .tuple #[(.agg #[.int .i64 0, .int .i64 0, .int .i64 0, .slice none 0 0]), .bool false]) (by simp [results, Try.results48, go_sem, f0, f1, f2, f3]) rfl ?_
    refine unhide HPost _ _ ?_
    rw [unhide RES]
    exact FE1
  | true =>
    obtain ⟨x, r, rfl, hx⟩ := seesB_yes h1
    rw [h1] at K1
    refine (unhide K1).mono ?_
    rintro e w1 ⟨rfl, b1⟩
    dsimp only
    obtain ⟨hi, hx2, hre⟩ := at_two (unhide HA)
    have KO := hide (one_any w1 B s a cap l i d pl er 2 (by decide) ((unhide HR).below b1) ((unhide HT).grown (grown_trans (unhide HGZ) (grown_below b1))) (unhide HG) hi)
    have HB1 := hide b1
    have HX := hide hx
    have HX2 := hide hx2
    have HRE := hide hre
    clear K1 b1 h1 hx hx2 hre HA HR
    go_wp2_with fail
    refine (unhide KO).mono ?_
    rintro e w2 ⟨i2, rfl, n2, rd2, g2⟩
    dsimp only
    have g2' := grown_trans (unhide HGZ) (grown_trans (grown_below (unhide HB1)) g2)
    have hz2 : w.heap.size < w2.heap.size := by have := (grown_trans (grown_below (r := some B) (unhide HB1)) g2).size; omega
    have zb := Blk.grown (unhide HZ) (grown_trans (grown_below (unhide HB1)) g2) (fun e => by injection e with e; have := unhide HB; omega)
    have I3 : EInv w B w2.heap.size i (w2.alloc (.cells #[.int .i64 2, .int .i64 (i : Int), .int .i64 ((i : Int) + 1), .slice none 0 0] 24)) := ⟨Blk.alloc zb _, blk_alloc _ _ _, grown_alloc g2' _, unhide HB, hz2⟩
    have rd3 : Rd (w2.alloc (.cells #[.int .i64 2, .int .i64 (i : Int), .int .i64 ((i : Int) + 1), .slice none 0 0] 24)) B s (.slice a l.length cap) i2 d pl er := Blk.alloc rd2 _
    have a3 := unhide HRE _ n2
    have K3 := hide (seesMark_any _ B s a cap l i2 d pl er r 58 (by decide) (by decide) rd3 ((unhide HT).grown I3.gr) (unhide HG) a3)
    have HI3 := hide I3
    have HRD3 := hide rd3
    have HA3 := hide a3
    clear KO n2 rd2 g2 g2' hz2 zb I3 rd3 a3 HRE HGZ HZ HB1
    go_wp2_with fail
    generalize w2.alloc (.cells #[.int .i64 2, .int .i64 (i : Int), .int .i64 ((i : Int) + 1), .slice none 0 0] 24) = w3 at *
    generalize w2.heap.size = K at *
    cases h58 : seesB r 58 with
    | true =>
      obtain ⟨m, r1, rfl, hm⟩ := seesB_yes h58
      have HM : Hid (m.1 = 58 ∨ m.1 = 61) := hide (.inl hm)
      rw [h58] at K3
      clear h58 hm
      refine (unhide K3).mono ?_
      rintro e wq ⟨rfl, b4⟩
      dsimp only
      have Iq := hide ((unhide HI3).on (grown_below b4))
      have Rq := hide ((unhide HRD3).below b4)
      clear K3 b4 HI3 HRD3
      obtain ⟨hi4, hx4, hn4⟩ := at_two (unhide HA3)
      have KT := hide (take_any wq B s a cap l i2 d pl er (unhide Rq) ((unhide HT).grown (unhide Iq).gr) (unhide HG) hi4)
      have HN4 := hide hn4
      clear hx4 hn4 hi4 Rq HA3
      go_wp2_with fail
      refine (unhide KT).mono ?_
      rintro e w6 ⟨i6, rfl, n6, rd6, g6⟩
      dsimp only
      have I6 := hide ((unhide Iq).on g6)
      have KV := hide (unhide HV w6 i6 pl er r1 rd6 ((unhide HT).grown (unhide I6).gr) (unhide HN4 _ n6))
      clear KT n6 rd6 g6 Iq HN4 HV
      cases hq : q r1 with
      | inl er1 =>
        obtain ⟨c, te⟩ := er1
        have RES : Hid (entP q (x :: m :: r1) = .inl (c, te)) := hide (ent_val_bad (unhide HX) (unhide HM) hq)
        rw [hq] at KV
        clear hq
        go_wp2_with fail
        refine (unhide KV).mono ?_
        rintro e w7 ⟨g7, rfl, ib, db, rb⟩
        dsimp only
        have I7 := (unhide I6).on (grown_alloc g7 (.cells #[.int .i64 0, .int .i64 0, .int .i64 0, .slice none 0 0] 24))
        have rb7 : Rd ((World.alloc w7 (.cells #[.int .i64 0, .int .i64 0, .int .i64 0, .slice none 0 0] 24))) B s (.slice a l.length cap) ib db _ _ := Blk.alloc rb _
        obtain ⟨z0, z1, z2, z3⟩ := Blk.cells4 I7.zb
        obtain ⟨y0, y1, y2, y3⟩ := Blk.froz4 I7.zb
        have FE := hide (pass_bad (d := d) (f := f + 1) (unhide HB) (Nat.le_refl _) (unhide I6).gr (grown_alloc g7 _) I7.zb rb7)
        clear KV g7 rb I7 rb7 I6
        go_wp2
        obtain ⟨FE1, f0, f1, f2, f3⟩ := unhide FE
        refine bodyPost_ret (v := .tuple #[(.agg #[.int .i64 0, .int .i64 0, .int .i64 0, .slice none 0 0]), .bool false]) (by simp [results, Try.results48, go_sem, f0, f1, f2, f3]) rfl ?_
        refine unhide HPost _ _ ?_
        rw [unhide RES]
        exact FE1
      | inr tr =>
        obtain ⟨v, r2⟩ := tr
        have RES : Hid (entP q (x :: m :: r1) = .inr (nd 4 x.2 (endT v) [nd 2 x.2 (x.2 + 1) [], v], r2)) := hide (ent_val_good (unhide HX) (unhide HM) hq)
        rw [hq] at KV
        clear hq
        go_wp2_with fail
        refine (unhide KV).mono ?_
        rintro e w7 ⟨g7, u0, u1, u2, u3, rfl, hL, ib, plb, erb, rb, ab⟩
        dsimp only
        obtain ⟨k0, a0, e0, pk, nk, ck, rfl, rfl, rfl, rfl, he0, f', rfl⟩ := hL.form'
        have I7 := (unhide I6).on (grown_alloc g7 (.cells #[.int .i64 (k0 : Int), .int .i64 (a0 : Int), .int .i64 (e0 : Int), .slice pk nk ck] 24))
        obtain ⟨j0, j1, j2, j3⟩ := Blk.cells4 (blk_alloc w7 #[.int .i64 (k0 : Int), .int .i64 (a0 : Int), .int .i64 (e0 : Int), .slice pk nk ck] 24)
        obtain ⟨l0, l1, l2, l3⟩ := Blk.cells4 I7.kb
        have I9 := I7.on (grown_below ((Below.refl _ (w7.alloc (.cells #[.int .i64 (k0 : Int), .int .i64 (a0 : Int), .int .i64 (e0 : Int), .slice pk nk ck] 24))).alloc (Nat.le_refl _) (.cells #[.int .i64 2, .int .i64 (i : Int), .int .i64 ((i : Int) + 1), .slice none 0 0, .int .i64 (k0 : Int), .int .i64 (a0 : Int), .int .i64 (e0 : Int), .slice pk nk ck] 24)))
        obtain ⟨z0, z1, z2, z3⟩ := Blk.cells4 I9.zb
        obtain ⟨y0, y1, y2, y3⟩ := Blk.froz4 I9.zb
        have bS := blk_alloc (w7.alloc (.cells #[.int .i64 (k0 : Int), .int .i64 (a0 : Int), .int .i64 (e0 : Int), .slice pk nk ck] 24)) #[.int .i64 2, .int .i64 (i : Int), .int .i64 ((i : Int) + 1), .slice none 0 0, .int .i64 (k0 : Int), .int .i64 (a0 : Int), .int .i64 (e0 : Int), .slice pk nk ck] 24
        have eS : (w7.alloc (.cells #[.int .i64 (k0 : Int), .int .i64 (a0 : Int), .int .i64 (e0 : Int), .slice pk nk ck] 24)).heap.size = w7.heap.size + 1 := by simp
        rw [eS] at bS
        have hL9 := (hL.below ((Below.refl _ w7).alloc (Nat.le_refl _) (.cells #[.int .i64 (k0 : Int), .int .i64 (a0 : Int), .int .i64 (e0 : Int), .slice pk nk ck] 24))).below ((Below.refl _ _).alloc (Nat.le_refl _) (.cells #[.int .i64 2, .int .i64 (i : Int), .int .i64 ((i : Int) + 1), .slice none 0 0, .int .i64 (k0 : Int), .int .i64 (a0 : Int), .int .i64 (e0 : Int), .slice pk nk ck] 24))
        have LP := lies_pair (k := 4) (a := i) (e := e0) bS (by have := g7.size; omega) hL9
        have FE := hide (pass_good (d := d) (unhide HB) (Nat.le_refl _) (Blk.lt (unhide I6).zb) (unhide I6).gr (grown_alloc (grown_alloc g7 _) _) I9.zb LP (Blk.alloc (Blk.alloc rb _) _) ab)
        have HE0 := hide he0
        clear KV g7 rb ab hL I7 he0 I9 bS eS hL9 LP I6
        go_wp2
        obtain ⟨FE1, FC⟩ := unhide FE
        refine ret_put (v := .tuple #[.agg #[.int .i64 4, .int .i64 (i : Int), .int .i64 (e0 : Int), .slice (some ⟨w7.heap.size + 1, 0, none⟩) 2 2], .bool true]) FC (fun wF hF => by obtain ⟨f0, f1, f2, f3⟩ := hF; simp [results, Try.results48, go_sem, f0, f1, f2, f3]) rfl ?_
        refine unhide HPost _ _ ?_
        rw [unhide RES, unhide HX2, unhide HE0]
        exact FE1
    | false =>
      rw [h58] at K3
      refine (unhide K3).mono ?_
      rintro e w4 ⟨rfl, b4⟩
      dsimp only
      have I4 := hide ((unhide HI3).on (grown_below b4))
      have R4 := hide ((unhide HRD3).below b4)
      have H58 := hide h58
      have K4 := hide (seesMark_any _ B s a cap l i2 d pl er r 61 (by decide) (by decide) (unhide R4) ((unhide HT).grown (unhide I4).gr) (unhide HG) (unhide HA3))
      clear K3 b4 HI3 HRD3 h58
      cases h61 : seesB r 61 with
      | true =>
        obtain ⟨m, r1, rfl, hm⟩ := seesB_yes h61
        have HM : Hid (m.1 = 58 ∨ m.1 = 61) := hide (.inr hm)
        rw [h61] at K4
        clear h61 hm
        go_wp2_with fail
        refine (unhide K4).mono ?_
        rintro e wq ⟨rfl, b5⟩
        dsimp only
        have Iq := hide ((unhide I4).on (grown_below b5))
        have Rq := hide ((unhide R4).below b5)
        clear K4 b5 I4 R4
        obtain ⟨hi4, hx4, hn4⟩ := at_two (unhide HA3)
        have KT := hide (take_any wq B s a cap l i2 d pl er (unhide Rq) ((unhide HT).grown (unhide Iq).gr) (unhide HG) hi4)
        have HN4 := hide hn4
        clear hx4 hn4 hi4 Rq HA3
        go_wp2_with fail
        refine (unhide KT).mono ?_
        rintro e w6 ⟨i6, rfl, n6, rd6, g6⟩
        dsimp only
        have I6 := hide ((unhide Iq).on g6)
        have KV := hide (unhide HV w6 i6 pl er r1 rd6 ((unhide HT).grown (unhide I6).gr) (unhide HN4 _ n6))
        clear KT n6 rd6 g6 Iq HN4 HV
        cases hq : q r1 with
        | inl er1 =>
          obtain ⟨c, te⟩ := er1
          have RES : Hid (entP q (x :: m :: r1) = .inl (c, te)) := hide (ent_val_bad (unhide HX) (unhide HM) hq)
          rw [hq] at KV
          clear hq
          go_wp2_with fail
          refine (unhide KV).mono ?_
          rintro e w7 ⟨g7, rfl, ib, db, rb⟩
          dsimp only
          have I7 := (unhide I6).on (grown_alloc g7 (.cells #[.int .i64 0, .int .i64 0, .int .i64 0, .slice none 0 0] 24))
          have rb7 : Rd ((World.alloc w7 (.cells #[.int .i64 0, .int .i64 0, .int .i64 0, .slice none 0 0] 24))) B s (.slice a l.length cap) ib db _ _ := Blk.alloc rb _
          obtain ⟨z0, z1, z2, z3⟩ := Blk.cells4 I7.zb
          obtain ⟨y0, y1, y2, y3⟩ := Blk.froz4 I7.zb
          have FE := hide (pass_bad (d := d) (f := f + 1) (unhide HB) (Nat.le_refl _) (unhide I6).gr (grown_alloc g7 _) I7.zb rb7)
          clear KV g7 rb I7 rb7 I6
          go_wp2
          obtain ⟨FE1, f0, f1, f2, f3⟩ := unhide FE
          refine bodyPost_ret (v := .tuple #[(.agg #[.int .i64 0, .int .i64 0, .int .i64 0, .slice none 0 0]), .bool false]) (by simp [results, Try.results48, go_sem, f0, f1, f2, f3]) rfl ?_
          refine unhide HPost _ _ ?_
          rw [unhide RES]
          exact FE1
        | inr tr =>
          obtain ⟨v, r2⟩ := tr
          have RES : Hid (entP q (x :: m :: r1) = .inr (nd 4 x.2 (endT v) [nd 2 x.2 (x.2 + 1) [], v], r2)) := hide (ent_val_good (unhide HX) (unhide HM) hq)
          rw [hq] at KV
          clear hq
          go_wp2_with fail
          refine (unhide KV).mono ?_
          rintro e w7 ⟨g7, u0, u1, u2, u3, rfl, hL, ib, plb, erb, rb, ab⟩
          dsimp only
          obtain ⟨k0, a0, e0, pk, nk, ck, rfl, rfl, rfl, rfl, he0, f', rfl⟩ := hL.form'
          have I7 := (unhide I6).on (grown_alloc g7 (.cells #[.int .i64 (k0 : Int), .int .i64 (a0 : Int), .int .i64 (e0 : Int), .slice pk nk ck] 24))
          obtain ⟨j0, j1, j2, j3⟩ := Blk.cells4 (blk_alloc w7 #[.int .i64 (k0 : Int), .int .i64 (a0 : Int), .int .i64 (e0 : Int), .slice pk nk ck] 24)
          obtain ⟨l0, l1, l2, l3⟩ := Blk.cells4 I7.kb
          have I9 := I7.on (grown_below ((Below.refl _ (w7.alloc (.cells #[.int .i64 (k0 : Int), .int .i64 (a0 : Int), .int .i64 (e0 : Int), .slice pk nk ck] 24))).alloc (Nat.le_refl _) (.cells #[.int .i64 2, .int .i64 (i : Int), .int .i64 ((i : Int) + 1), .slice none 0 0, .int .i64 (k0 : Int), .int .i64 (a0 : Int), .int .i64 (e0 : Int), .slice pk nk ck] 24)))
          obtain ⟨z0, z1, z2, z3⟩ := Blk.cells4 I9.zb
          obtain ⟨y0, y1, y2, y3⟩ := Blk.froz4 I9.zb
          have bS := blk_alloc (w7.alloc (.cells #[.int .i64 (k0 : Int), .int .i64 (a0 : Int), .int .i64 (e0 : Int), .slice pk nk ck] 24)) #[.int .i64 2, .int .i64 (i : Int), .int .i64 ((i : Int) + 1), .slice none 0 0, .int .i64 (k0 : Int), .int .i64 (a0 : Int), .int .i64 (e0 : Int), .slice pk nk ck] 24
          have eS : (w7.alloc (.cells #[.int .i64 (k0 : Int), .int .i64 (a0 : Int), .int .i64 (e0 : Int), .slice pk nk ck] 24)).heap.size = w7.heap.size + 1 := by simp
          rw [eS] at bS
          have hL9 := (hL.below ((Below.refl _ w7).alloc (Nat.le_refl _) (.cells #[.int .i64 (k0 : Int), .int .i64 (a0 : Int), .int .i64 (e0 : Int), .slice pk nk ck] 24))).below ((Below.refl _ _).alloc (Nat.le_refl _) (.cells #[.int .i64 2, .int .i64 (i : Int), .int .i64 ((i : Int) + 1), .slice none 0 0, .int .i64 (k0 : Int), .int .i64 (a0 : Int), .int .i64 (e0 : Int), .slice pk nk ck] 24))
          have LP := lies_pair (k := 4) (a := i) (e := e0) bS (by have := g7.size; omega) hL9
          have FE := hide (pass_good (d := d) (unhide HB) (Nat.le_refl _) (Blk.lt (unhide I6).zb) (unhide I6).gr (grown_alloc (grown_alloc g7 _) _) I9.zb LP (Blk.alloc (Blk.alloc rb _) _) ab)
          have HE0 := hide he0
          clear KV g7 rb ab hL I7 he0 I9 bS eS hL9 LP I6
          go_wp2
          obtain ⟨FE1, FC⟩ := unhide FE
          refine ret_put (v := .tuple #[.agg #[.int .i64 4, .int .i64 (i : Int), .int .i64 (e0 : Int), .slice (some ⟨w7.heap.size + 1, 0, none⟩) 2 2], .bool true]) FC (fun wF hF => by obtain ⟨f0, f1, f2, f3⟩ := hF; simp [results, Try.results48, go_sem, f0, f1, f2, f3]) rfl ?_
          refine unhide HPost _ _ ?_
          rw [unhide RES, unhide HX2, unhide HE0]
          exact FE1
      | false =>
        have RES : Hid (entP q (x :: r) = .inl (4, r)) := hide (ent_key (unhide HX) (unhide H58) h61)
        rw [h61] at K4
        clear h61
        go_wp2_with fail
        refine (unhide K4).mono ?_
        rintro e w5 ⟨rfl, b5⟩
        dsimp only
        have I5 := hide ((unhide I4).on (grown_below b5))
        have R5 := (unhide R4).below b5
        have KR := hide (refuse_any w5 B s a cap l i2 d pl er r 4 (by decide) R5 ((unhide HT).grown (unhide I5).gr) (unhide HG) (unhide HA3))
        clear K4 b5 I4 R4 R5
        go_wp2_with fail
        refine (unhide KR).mono ?_
        rintro e w6 ⟨rfl, rd6, g6⟩
        dsimp only
        have I6 := (unhide I5).on g6
        obtain ⟨z0, z1, z2, z3⟩ := Blk.cells4 I6.zb
        obtain ⟨y0, y1, y2, y3⟩ := Blk.froz4 I6.zb
        have FE := hide (pass_bad (d := d) (f := f + 1) (unhide HB) (Nat.le_refl _) (unhide I5).gr g6 I6.zb rd6)
        clear KR rd6 g6 I6 I5
        go_wp2
        obtain ⟨FE1, f0, f1, f2, f3⟩ := unhide FE
        refine bodyPost_ret (v := .tuple #[(.agg #[.int .i64 0, .int .i64 0, .int .i64 0, .slice none 0 0]), .bool false]) (by simp [results, Try.results48, go_sem, f0, f1, f2, f3]) rfl ?_
        refine unhide HPost _ _ ?_
        rw [unhide RES]
        exact FE1
end Go.Proofs.Ytoikdjbgeebadaa.trees
