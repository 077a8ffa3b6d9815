/- The walk of package tree's between: what stands between two marks. -/
import Derived.Test.YtoikdjbgeebadaaTreeBetP
set_option linter.unusedVariables false
namespace Go.Proofs.Ytoikdjbgeebadaa.trees
open Go.RowKit
open toks

set_option maxHeartbeats 4000000 in
set_option maxRecDepth 100000 in
theorem between_1 (w : World) (B P : Nat) (s : ByteArray) (a : Option Addr) (cap : Nat) (l : List Tk) (i d : Nat) (pl er : Int) (x : Sym) (r : List Sym) (q : List Sym → R) (kind f : Nat) (ec : UInt8) (m1 : ec ≠ 63) (m2 : ec ≠ 120) (m3 : ec ≠ 44) (hkind : kind ≤ 6) (hd : d ≤ 20)
    (hr : Rd w B s (.slice a l.length cap) i d pl er) (ht : TkIn w B a l) (g : Good s l) (hat : At s.data.toList l i (x :: r)) (hP : w.cell? ⟨P, 0, none⟩ = some ((.pointer (some ⟨B, 0, none⟩)))) (hPB : P ≠ B) (hq0 : q [] = .inl (4, [])) (hql : Loc q)
    (KID : ∀ (u : World) (j : Nat) (pl er : Int) (ts : List Sym), Rd u B s (.slice a l.length cap) j (d + 1) pl er → TkIn u B a l → At s.data.toList l j ts → u.cell? ⟨P, 0, none⟩ = some ((.pointer (some ⟨B, 0, none⟩))) → Calls Try.prog 47 #[(.pointer (some ⟨P, 0, none⟩))] u (Res B s a cap l (d + 1) f u (q ts))) :
    Calls Try.prog 46 #[(.pointer (some ⟨B, 0, none⟩)), .int .i64 (kind : Int), .int .u8 (ec.toNat : Int), .func (.func 47) #[] #[(.pointer (some ⟨P, 0, none⟩))]] w (Res B s a cap l d (f + 1) w (loopP q ec kind x.2 (r.length + 1) [] r)) := by
  obtain ⟨hi, hx, hs, h3, hre⟩ := at_cons hat
  have hB := Blk.lt hr
  have hlen := hat.len
  have K1 : Hid _ := hide (take_any ((World.alloc w (.cells #[.int .i64 0, .int .i64 0, .int .i64 0, .slice none 0 0] 24))) B s a cap l i d pl er (Blk.alloc hr _) (ht.below ((Below.refl _ w).alloc (Nat.le_refl _) _)) g hi)
  have HP := hide hP
  have HT := hide ht
  have HG := hide g
  have HK := hide KID
  have HL := hide hql
  have HB := hide hB
  have HRE := hide hre
  have hl := g.len
  rw [hx]
  clear hr ht g hat hP KID hql hB hs h3 hre hx
  suffices FIN : ∀ Post : Ending → World → Prop, Hid (∀ e w', Res B s a cap l d (f + 1) w (loopP q ec kind i (r.length + 1) [] r) e w' → Post e w') → Calls Try.prog 46 #[(.pointer (some ⟨B, 0, none⟩)), .int .i64 (kind : Int), .int .u8 (ec.toNat : Int), .func (.func 47) #[] #[(.pointer (some ⟨P, 0, none⟩))]] w Post from FIN _ (hide fun _ _ h => h)
  intro Post HPost
  go_enter Try.func46, Try.ntmps46
  go_wp2_with fail
  refine (unhide K1).mono ?_
  rintro e w1 ⟨j, rfl, h1, h2, h3⟩
  dsimp only
  have hB := unhide HB
  have hs1 : w.heap.size + 1 ≤ w1.heap.size := by have := h3.size; simpa using this
  have hzb : Blk w1 w.heap.size #[.int .i64 0, .int .i64 0, .int .i64 0, .slice none 0 0] 24 := Blk.grown (blk_alloc w _ _) h3 (fun e => by injection e with e; omega)
  have hg1 : w.grownBy w1 (some B) := grown_trans (grown_alloc (grown_refl w _) _) h3
  have nb := blk_alloc w1 #[.int .i64 (kind : Int), .int .i64 (i : Int), .int .i64 0, .slice none 0 0] 24
  have rb : Rd (w1.alloc (.cells #[.int .i64 (kind : Int), .int .i64 (i : Int), .int .i64 0, .slice none 0 0] 24)) B s (.slice a l.length cap) j d pl er := Blk.alloc h2 _
  have rc := Blk.cell rb 3 (.int .i64 (d : Int)) rfl
  have rf := Blk.froz rb 3
  have NB := hide (Blk.set_other nb ⟨B, 3, none⟩ (.int .i64 ((d : Int) + 1)) (show w1.heap.size ≠ B by omega))
  have RB := hide (rb.lev ((d : Int) + 1) (d + 1) (by omega))
  have ZB := hide (Blk.set_other (Blk.alloc hzb (.cells #[.int .i64 (kind : Int), .int .i64 (i : Int), .int .i64 0, .slice none 0 0] 24)) ⟨B, 3, none⟩ (.int .i64 ((d : Int) + 1)) (show w.heap.size ≠ B by omega))
  have G1 := hide (grown_trans (grown_alloc hg1 (.cells #[.int .i64 (kind : Int), .int .i64 (i : Int), .int .i64 0, .slice none 0 0] 24)) (grown_set _ B 3 (.int .i64 ((d : Int) + 1))))
  have N1 := hide h1
  clear K1 h1 h2 h3 hB hzb hg1 nb rb
  go_wp2_with fail
  clear rc rf
  generalize hW : ((w1.alloc (.cells #[.int .i64 (kind : Int), .int .i64 (i : Int), .int .i64 0, .slice none 0 0] 24)).setCell ⟨B, 3, none⟩ (.int .i64 ((d : Int) + 1))) = w2 at *
  have hlt : B < w.heap.size ∧ w.heap.size < w1.heap.size := ⟨unhide HB, by omega⟩
  have I0 : Hid (BInv w B w1.heap.size s a cap l d f kind i [] [] (.slice none 0 0) j pl er r w2) := hide ⟨unhide RB, by rw [unhide HRE]; exact (unhide N1).at, unhide NB, unhide ZB, World.ownsRow_nil _ _ _ _, kidsIn_nil _ _ _, unhide G1, hlt⟩
  have hrl : r.length + 1 ≤ l.length := hlen
  clear hW NB RB ZB G1 N1 HRE HB hs1 hlen hlt hi
  generalize w1.heap.size = N at *
  clear w1
  go_loopw [11] (fun _ wr => ∃ (acc : List T) (vss : List (List Value)) (v : Value) (iC : Nat) (pl er : Int) (ts : List Sym) (F : Nat), ts.length < F ∧ acc.length + ts.length ≤ l.length ∧ Hid (loopP q ec kind i F acc ts = loopP q ec kind i (r.length + 1) [] r) ∧ Hid (BInv w B N s a cap l d f kind i acc vss v iC pl er ts wr)) (fun _ wr => left s.data.toList l B wr)
  case atStart => exact ⟨[], [], _, j, pl, er, r, r.length + 1, by omega, by simp; omega, hide rfl, I0⟩
  case round =>
    obtain ⟨acc, vss, v, iC, pl1, er1, ts, F, hF, hA, HE, HI⟩ := hrel
    obtain ⟨pv0, nv0, cv0, rfl⟩ := own_slice (unhide HI).own
    have HLW : Hid (left s.data.toList l B wr = ts.length) := hide (left_eq (unhide HI).rd (unhide HI).at')
    have KS : Hid _ := hide (seesMark_any wr B s a cap l iC (d + 1) pl1 er1 ts ec m1 m2 (unhide HI).rd ((unhide HT).grown (unhide HI).gr) (unhide HG) (unhide HI).at')
    cases hse : seesB ts ec with
    | true =>
      obtain ⟨x1, r1, rfl, hx1⟩ := seesB_yes hse
      have RES : Hid (loopP q ec kind i (r.length + 1) [] r = .inr (nd kind i (x1.2 + 1) acc, r1)) := hide (by rw [← unhide HE]; exact loop_end hx1 hF)
      rw [hse] at KS
      clear HE hse hx1 hF HK HL
      go_wp2_with fail
      refine (unhide KS).mono ?_
      rintro e wa ⟨rfl, hba⟩
      dsimp only
      have I1 := (unhide HI).below hba
      have c3 := Blk.cell I1.rd 3 (.int .i64 ((d : Int) + 1)) (by simp)
      have z3 := Blk.froz I1.rd 3
      have hgs := grown_set wa B 3 (.int .i64 (d : Int))
      obtain ⟨hi1, hx1, hre1⟩ := at_two I1.at'
      have K2 := hide (take_any _ B s a cap l iC d pl1 er1 (I1.rd.lev (d : Int) d rfl) (((unhide HT).grown I1.gr).grown hgs) (unhide HG) hi1)
      have HI1 := hide I1
      have HR1 := hide hre1
      have HX1 := hide hx1
      have HGS := hide hgs
      clear KS hba I1 HI hx1 hre1 hgs
      go_wp2_with fail
      refine (unhide K2).mono ?_
      rintro e w4 ⟨i4, rfl, n4, rd4, g4⟩
      dsimp only
      have g5 := grown_trans (unhide HGS) g4
      obtain ⟨k1, k2, k3⟩ := (unhide HI1).nb2 g5 (.int .i64 ((iC : Int) + 1))
      have p2 := Blk.cell k1 2 _ rfl
      have y2 := Blk.froz k1 2
      obtain ⟨q0, q1, q2, q3⟩ := Blk.cells4 k2
      obtain ⟨z0, z1, z2, z3⟩ := Blk.cells4 k3
      obtain ⟨y0, y1, y2', y3⟩ := Blk.froz4 k3
      have a4 : At s.data.toList l i4 r1 := unhide HR1 _ n4
      have FIN := hide ((unhide HI1).fin g5 rd4 a4 (x1.2 + 1) ((iC : Int) + 1) (by rw [unhide HX1]; omega))
      have FB := hide (put4_blk k3 (.int .i64 (kind : Int)) (.int .i64 (i : Int)) (.int .i64 ((iC : Int) + 1)) (.slice pv0 nv0 cv0))
      clear K2 n4 rd4 g4 g5 k1 k2 k3 a4 HI1 HR1 HX1 HGS c3
      go_wp2
      have FN := unhide FIN
      obtain ⟨f0, f1, f2, f3⟩ := Blk.cells4 (unhide FB)
      refine bodyPost_ret (v := .tuple #[.agg #[.int .i64 (kind : Int), .int .i64 (i : Int), .int .i64 ((iC : Int) + 1), .slice pv0 nv0 cv0], .bool true]) (by simp [results, Try.results46, go_sem, f0, f1, f2, f3]) rfl ?_
      refine unhide HPost _ _ ?_
      rw [unhide RES]
      exact FN
    | false =>
      rw [hse] at KS
      go_wp2_with fail
      refine (unhide KS).mono ?_
      rintro e wa ⟨rfl, hba⟩
      dsimp only
      have I1 := (unhide HI).below hba
      have KK := hide (unhide HK wa iC pl1 er1 ts I1.rd ((unhide HT).grown I1.gr) I1.at' (I1.gr.cell (unhide HP) (fun e => by injection e with e; exact hPB e)))
      have HI1 := hide I1
      have HSE := hide hse
      clear KS hba I1 HI HK hse
      cases hq : q ts with
      | inl er =>
        obtain ⟨c, te⟩ := er
        have RES : Hid (loopP q ec kind i (r.length + 1) [] r = .inl (c, te)) := hide (by rw [← unhide HE]; exact loop_kid_bad (unhide HSE) hq0 hq hF)
        rw [hq] at KK
        clear hq HE HSE hF HL hq0
        go_wp2_with fail
        refine (unhide KK).mono ?_
        rintro e wb ⟨hg, rfl, ib, db, rb⟩
        dsimp only
        have zb2 := Blk.alloc (Blk.grown (unhide HI1).zb hg (fun e => by injection e with e; have := (unhide HI1).lt; omega)) (.cells #[.int .i64 0, .int .i64 0, .int .i64 0, .slice none 0 0] 24)
        have rb2 : Rd ((World.alloc wb (.cells #[.int .i64 0, .int .i64 0, .int .i64 0, .slice none 0 0] 24))) B s (.slice a l.length cap) ib db _ _ := Blk.alloc rb _
        have G2 := hide (grown_alloc (grown_trans (unhide HI1).gr hg) (.cells #[.int .i64 0, .int .i64 0, .int .i64 0, .slice none 0 0] 24))
        obtain ⟨z0, z1, z2, z3⟩ := Blk.cells4 zb2
        obtain ⟨y0, y1, y2, y3⟩ := Blk.froz4 zb2
        have FE := hide (fail_end (d := d) (f := f + 1) (unhide HI1).lt.1 (grown_alloc (grown_trans (unhide HI1).gr hg) _) zb2 rb2)
        clear KK hg rb zb2 rb2 HI1 G2
        go_wp2
        obtain ⟨FE1, f0, f1, f2, f3⟩ := unhide FE
        refine bodyPost_ret (v := .tuple #[(.agg #[.int .i64 0, .int .i64 0, .int .i64 0, .slice none 0 0]), .bool false]) (by simp [results, Try.results46, go_sem, f0, f1, f2, f3]) rfl ?_
        refine unhide HPost _ _ ?_
        rw [unhide RES]
        exact FE1
      | inr tr =>
        obtain ⟨t, rest⟩ := tr
        have hless := loc_less (unhide HL) hq
        have EM : Hid (left s.data.toList l B wr = ts.length) := HLW
        have HQ := hide hq
        rw [hq] at KK
        clear hq HL
        go_wp2_with fail
        refine (unhide KK).mono ?_
        rintro e wb ⟨hg, u0, u1, u2, u3, rfl, hL, ib, plb, erb, rb, ab⟩
        dsimp only
        obtain ⟨k0, a0, e0, pk, nk, ck, rfl, rfl, rfl, rfl⟩ := hL.form
        have I2 := (unhide HI1).on hg rb ab
        have bc : Below wb.heap.size wb (wb.alloc (.cells #[.int .i64 (k0 : Int), .int .i64 (a0 : Int), .int .i64 (e0 : Int), .slice pk nk ck] 24)) := (Below.refl _ wb).alloc (Nat.le_refl _) _
        have I3 := I2.below bc
        have n3 := Blk.cell I3.nb 3 (.slice pv0 nv0 cv0) rfl
        obtain ⟨j0, j1, j2, j3⟩ := Blk.cells4 (blk_alloc wb #[.int .i64 (k0 : Int), .int .i64 (a0 : Int), .int .i64 (e0 : Int), .slice pk nk ck] 24)
        have hL2 := hide (hL.weaken (ok' := fun b => N + 1 ≤ b ∧ some b ≠ (Value.slice pv0 nv0 cv0).ownBlock) (fun b hb => ⟨by have := (unhide HI1).sz; omega, fun e => by have := ((unhide HI1).own.lt b e.symm).2; omega⟩))
        have HI2 := hide I2
        have HI3 := hide I3
        have hNs := I3.sz
        have hown3 := I3.own
        clear KK hg rb ab hL I2 I3 bc HI1
        obtain ⟨i0, hinf, hz0, hz1, hz2⟩ := info_parts infoNode
        go_wp2_with (at_builtin; refine wpList_append_lies _ rfl _ _ 22 rfl (N + 1) 24 i0 (.agg #[.int .i64 0, .int .i64 0, .int .i64 0, .slice none 0 0]) 4 48 Try.underlying22 hinf hz0 hz1 hz2 rfl (by decide) _ _ _ rfl (hown3.alloc _) ⟨wb.heap.size + 1, 0, none⟩ 1 1 [.int .i64 (k0 : Int), .int .i64 (a0 : Int), .int .i64 (e0 : Int), .slice pk nk ck] rfl rfl ?c1 ?c2 ?c3 ?c4 ?c5 ?c6 (wb.heap.size + 2) ?c7 ?_)
        case c1 =>
          have := cell_four_new (wb.alloc (.cells #[.int .i64 (k0 : Int), .int .i64 (a0 : Int), .int .i64 (e0 : Int), .slice pk nk ck] 24)) (.int .i64 (k0 : Int)) (.int .i64 (a0 : Int)) (.int .i64 (e0 : Int)) (.slice pk nk ck) 24
          simpa using this
        case c2 => intro u hu; simp at hu; rcases hu with rfl | rfl | rfl | rfl <;> rfl
        case c3 => decide
        case c4 => unfold maxLen; omega
        case c5 => omega
        case c6 => simp at hNs ⊢; omega
        case c7 => simp
        intro g cap' wx hown2 hg2 hat hlt2
        have I4 := (unhide HI3).below ((Below.refl (wb.alloc (.cells #[.int .i64 (k0 : Int), .int .i64 (a0 : Int), .int .i64 (e0 : Int), .slice pk nk ck] 24)).heap.size _).alloc (Nat.le_refl _) (.cells #[.int .i64 (k0 : Int), .int .i64 (a0 : Int), .int .i64 (e0 : Int), .slice pk nk ck] 24))
        have hL4 := (((unhide hL2).below ((Below.refl _ wb).alloc (Nat.le_refl _) (.cells #[.int .i64 (k0 : Int), .int .i64 (a0 : Int), .int .i64 (e0 : Int), .slice pk nk ck] 24))).below ((Below.refl _ _).alloc (Nat.le_refl _) (.cells #[.int .i64 (k0 : Int), .int .i64 (a0 : Int), .int .i64 (e0 : Int), .slice pk nk ck] 24)))
        have nx := Blk.grown I4.nb hg2 (own_not4 I4.own (Nat.lt_succ_self N))
        have nx3 := Blk.cell nx 3 (.slice pv0 nv0 cv0) rfl
        have nf3 := Blk.froz nx 3
        have I5 := hide (I4.more hL4 hown2 hg2 (by
          rcases hat with e | e
          · exact .inl (by rw [e]; rfl)
          · refine .inr (fun g' hg' => ?_)
            have e2 : some g = some g' := hg'
            injection e2 with e2
            simp
            omega))
        clear I4 hL4 nx hown2 hg2 hat hlt2 HI2 HI3 hL2 n3 j0 j1 j2 j3 hNs hown3 hinf hz0 hz1 hz2 i0
        have hA2 : (acc ++ [t]).length + rest.length ≤ l.length := by simp; omega
        go_wp2_with fail
        clear nx3 nf3
        generalize wx.setCell ⟨N, 3, none⟩ (.slice (some ⟨g, 0, none⟩) (acc.length + 1) cap') = w5 at *
        have KS2 := hide (seesMark_any w5 B s a cap l ib (d + 1) plb erb rest 44 (by decide) (by decide) (unhide I5).rd ((unhide HT).grown (unhide I5).gr) (unhide HG) (unhide I5).at')
        cases h44 : seesB rest 44 with
        | true =>
          obtain ⟨y, r2, rfl, hy⟩ := seesB_yes h44
          have HE2 : Hid (loopP q ec kind i (F - 1) (acc ++ [t]) r2 = loopP q ec kind i (r.length + 1) [] r) := hide (by rw [← unhide HE]; exact (loop_comma (unhide HSE) hq0 (unhide HQ) hy hF).symm)
          rw [h44] at KS2
          clear h44 hy HE HSE HQ
          refine (unhide KS2).mono ?_
          rintro e w6 ⟨rfl, hb6⟩
          dsimp only
          have I6 := (unhide I5).below hb6
          obtain ⟨hi6, hx6, hre6⟩ := at_two I6.at'
          have K6 := hide (take_any w6 B s a cap l ib (d + 1) plb erb I6.rd ((unhide HT).grown I6.gr) (unhide HG) hi6)
          have HI6 := hide I6
          have HR6 := hide hre6
          clear KS2 hb6 I6 I5 hre6 hi6 hx6
          go_wp2_with fail
          refine (unhide K6).mono ?_
          rintro e w7 ⟨i7, rfl, n7, rd7, g7⟩
          dsimp only
          have a7 : At s.data.toList l i7 r2 := unhide HR6 _ n7
          have HI7 := hide ((unhide HI6).on g7 rd7 a7)
          have hlen2 : (y :: r2).length = r2.length + 1 := rfl
          have EM7 := hide (left_eq rd7 a7)
          clear K6 n7 rd7 g7 a7 HI6 HR6
          go_wp2
          go_roundw
          case rel => exact ⟨acc ++ [t], vss ++ [_], _, i7, plb, erb, r2, F - 1, by omega, by omega, HE2, HI7⟩
          case measure => rw [unhide EM, unhide EM7]; omega
        | false =>
          rw [h44] at KS2
          refine (unhide KS2).mono ?_
          rintro e w6 ⟨rfl, hb6⟩
          dsimp only
          have I6 := (unhide I5).below hb6
          have K6 := hide (seesMark_any w6 B s a cap l ib (d + 1) plb erb rest ec m1 m2 I6.rd ((unhide HT).grown I6.gr) (unhide HG) I6.at')
          have HI6 := hide I6
          have H44 := hide h44
          clear KS2 hb6 I6 I5 h44
          cases hec : seesB rest ec with
          | true =>
            obtain ⟨y, r2, rfl, hy⟩ := seesB_yes hec
            have HE2 : Hid (loopP q ec kind i ((y :: r2).length + 1) (acc ++ [t]) (y :: r2) = loopP q ec kind i (r.length + 1) [] r) := hide (by rw [← unhide HE, loop_shut (unhide HSE) hq0 (unhide HQ) (seesB_no (unhide H44)) hy hF]; exact loop_end hy (Nat.lt_succ_self _))
            rw [hec] at K6
            clear hec hy HE HSE HQ H44
            go_wp2_with fail
            refine (unhide K6).mono ?_
            rintro e w7 ⟨rfl, hb7⟩
            dsimp only
            have HI7 := hide ((unhide HI6).below hb7)
            have EM7 := hide (left_eq (unhide HI7).rd (unhide HI7).at')
            clear K6 hb7 HI6
            go_wp2
            go_roundw
            case rel => exact ⟨acc ++ [t], vss ++ [_], _, ib, plb, erb, y :: r2, (y :: r2).length + 1, by omega, hA2, HE2, HI7⟩
            case measure => rw [unhide EM, unhide EM7]; omega
          | false =>
            have RES : Hid (loopP q ec kind i (r.length + 1) [] r = .inl (4, rest)) := hide (by rw [← unhide HE]; exact loop_else (unhide HSE) hq0 (unhide HQ) (unhide H44) hec hF)
            rw [hec] at K6
            clear hec HE HSE HQ H44
            go_wp2_with fail
            refine (unhide K6).mono ?_
            rintro e w7 ⟨rfl, hb7⟩
            dsimp only
            have I7 := (unhide HI6).below hb7
            have K7 := hide (refuse_any w7 B s a cap l ib (d + 1) plb erb rest 4 (by decide) I7.rd ((unhide HT).grown I7.gr) (unhide HG) I7.at')
            have HI7 := hide I7
            clear K6 hb7 I7 HI6
            go_wp2_with fail
            refine (unhide K7).mono ?_
            rintro e w8 ⟨rfl, rd8, g8⟩
            dsimp only
            have zb8 := Blk.grown (unhide HI7).zb g8 (fun e => by injection e with e; have := (unhide HI7).lt; omega)
            obtain ⟨z0, z1, z2, z3⟩ := Blk.cells4 zb8
            obtain ⟨y0, y1, y2, y3⟩ := Blk.froz4 zb8
            have FE := hide (fail_end (d := d) (f := f + 1) (unhide HI7).lt.1 (grown_trans (unhide HI7).gr g8) zb8 rd8)
            clear K7 rd8 g8 zb8 HI7
            go_wp2
            obtain ⟨FE1, f0, f1, f2, f3⟩ := unhide FE
            refine bodyPost_ret (v := .tuple #[(.agg #[.int .i64 0, .int .i64 0, .int .i64 0, .slice none 0 0]), .bool false]) (by simp [results, Try.results46, go_sem, f0, f1, f2, f3]) rfl ?_
            refine unhide HPost _ _ ?_
            rw [unhide RES]
            exact FE1
end Go.Proofs.Ytoikdjbgeebadaa.trees
