/- The walk of the document's Parsed. -/
import Derived.Test.YtoikdjbgeebadaaPartAJ
import Derived.Test.YtoikdjbgeebadaaPartAL
set_option linter.unusedVariables false
namespace Go.Proofs.Ytoikdjbgeebadaa.trees
open Go.RowKit
open toks

theorem rvalue_all (B : Nat) (s : ByteArray) (a sa : Option Addr) (cap sc : Nat) (l : List Tk) (S : List Sym) (g : Signs s l S) : ∀ (lv d : Nat), d + lv = 20 → ∀ (u : World) (j : Nat) (pl : Int), Ps u B s (.slice a l.length cap) (.slice sa S.length sc) j 0 pl → TkIn u B a l → SdIn u B sa S → j ≤ S.length → Calls Try.prog 19 #[(.pointer (some ⟨B, 0, none⟩)), .int .i64 (d : Int)] u (RRes B s a sa cap sc l S (2 * lv) u (pv lv (S.drop j)))
  | 0, d, hd, u, j, pl, h1, h2, h3, h4 => by
    obtain rfl : d = 20 := by omega
    cases c1 : seesB (S.drop j) 123 with
    | true => exact rvalue_za u B s a sa cap sc l S j _ pl h1 h2 h3 g h4 c1
    | false =>
      cases c2 : seesB (S.drop j) 91 with
      | true => exact rvalue_zb u B s a sa cap sc l S j _ pl h1 h2 h3 g h4 c2
      | false =>
        cases c3 : seesB (S.drop j) 120 with
        | true => exact rvalue_zc u B s a sa cap sc l S j _ pl h1 h2 h3 g h4 c3
        | false => exact rvalue_d u B s a sa cap sc l S j 0 _ pl _ h1 h2 h3 g h4 c1 c2 c3
  | lv + 1, d, hd, u, j, pl, h1, h2, h3, h4 => by
    have ih := rvalue_all B s a sa cap sc l S g lv (d + 1) (by omega)
    have e : ((d + 1 : Nat) : Int) = (d : Int) + 1 := by omega
    rw [e] at ih
    cases c1 : seesB (S.drop j) 123 with
    | true => exact rvalue_a u B s a sa cap sc l S j d lv pl (by omega) ih h1 h2 h3 g h4 c1
    | false =>
      cases c2 : seesB (S.drop j) 91 with
      | true => exact rvalue_b u B s a sa cap sc l S j d lv pl (by omega) ih h1 h2 h3 g h4 c2
      | false =>
        cases c3 : seesB (S.drop j) 120 with
        | true => exact rvalue_x u B s a sa cap sc l S j d lv pl (by omega) h1 h2 h3 g h4 c3
        | false => exact rvalue_d u B s a sa cap sc l S j (lv + 1) _ pl _ h1 h2 h3 g h4 c1 c2 c3
def numC (D : List Sym) : List Value := D.map (fun x => .int .i64 (x.2 : Int))
theorem infoInt : (Try.prog.info? 3).map (fun i => (i.zero, i.size, i.bytes)) = some (some (.int .i64 0), 1, 8) := by kernel_rfl
theorem sdIn_own {w : World} {B : Nat} {p : Option Addr} {n c : Nat} {D : List Sym} (h : w.ownsRow (B + 1) 3 1 (.slice p n c) D.length (numC D)) : n = D.length ∧ SdIn w B p D := by
  have h' := h
  rcases h.2 with ⟨e, h0⟩ | ⟨g, cap, cur, e, hb, hg, hcap, _⟩
  · injection e with e1 e2 e3
    have : D = [] := List.eq_nil_of_length_eq_zero h0
    subst this
    exact ⟨e2, fun h => absurd rfl h⟩
  · injection e with e1 e2 e3
    subst e1 e2 e3
    refine ⟨rfl, fun _ => ⟨g, 0, rfl, by omega, fun j hj => ?_⟩⟩
    rw [show 0 + j = j * 1 by omega]
    have := h'.cellAt (j * 1) (by omega)
    rw [this]
    unfold numC
    rw [List.getElem?_map, List.getElem?_eq_getElem (by omega)]
    simp
theorem take_more {l : List Tk} {j : Nat} (h : j < l.length) : l.take (j + 1) = l.take j ++ [l[j]] := by rw [List.take_add_one, List.getElem?_eq_getElem h]; rfl
theorem sol_more {L : List UInt8} {l : List Tk} {j : Nat} (h : j < l.length) : solF L 0 (l.take (j + 1)) = solF L 0 (l.take j) ++ solF L j [l[j]] := by
  rw [take_more h, sol_app, List.length_take, show 0 + min j l.length = j by omega]
theorem cell_one_new (w : World) (x : Value) (t : TypeId) : ∀ j r, [x][j]? = some r → (w.alloc (.cells #[x] t)).cell? ((⟨w.heap.size, 0, none⟩ : Addr).add j) = some r :=
  fun j r hu => World.news_of_block (blk_alloc w #[x] t) j r hu
set_option maxHeartbeats 1000000 in
set_option maxRecDepth 100000 in
theorem parsed_large (w : World) (s : ByteArray) (hs : 20000 < s.size) :
    Calls Try.prog 9 #[.string s] w fun e w' => e = .returned (.tuple #[(.agg #[.int .i64 0, .int .i64 0, .int .i64 0, .slice none 0 0]), .int .i64 0, .int .i64 2]) ∧ Below w.heap.size w w' := by
  have K1 := hide (tokens_large s ((World.alloc w (.cells #[.int .i64 0, .int .i64 0, .int .i64 0, .slice none 0 0] 24))) hs)
  have zb := blk_alloc w #[.int .i64 0, .int .i64 0, .int .i64 0, .slice none 0 0] 24
  have bz : Below w.heap.size w ((World.alloc w (.cells #[.int .i64 0, .int .i64 0, .int .i64 0, .slice none 0 0] 24))) := (Below.refl _ w).alloc (Nat.le_refl _) _
  obtain ⟨z0, z1, z2, z3⟩ := Blk.cells4 zb
  obtain ⟨y0, y1, y2, y3⟩ := Blk.froz4 zb
  have FC := hide (Blk.cells4 (put4_blk zb (.int .i64 0) (.int .i64 0) (.int .i64 0) (.slice none 0 0)))
  have FB := hide (below_put4 bz (Nat.le_refl _) (.int .i64 0) (.int .i64 0) (.int .i64 0) (.slice none 0 0))
  clear hs zb bz
  go_enter Try.func9, Try.ntmps9
  go_wp2_with fail
  generalize (World.alloc w (.cells #[.int .i64 0, .int .i64 0, .int .i64 0, .slice none 0 0] 24)) = w0 at *
  refine (unhide K1).mono ?_
  rintro e w1 ⟨rfl, hw⟩
  rw [hw]
  dsimp only
  clear hw K1
  go_wp2
  refine ret_put (v := .tuple #[(.agg #[.int .i64 0, .int .i64 0, .int .i64 0, .slice none 0 0]), .int .i64 0, .int .i64 2]) (unhide FC) (fun wF hF => by obtain ⟨f0, f1, f2, f3⟩ := hF; simp [results, Try.results9, go_sem, f0, f1, f2, f3]) rfl ?_
  exact ⟨rfl, unhide FB⟩
/-- What holds at the head of the loop over the tokens. -/
structure TInv (w : World) (B : Nat) (s : ByteArray) (a : Option Addr) (cap : Nat) (l : List Tk) (D : List Sym) (v : Value) (wr : World) : Prop where
  ps : Ps wr B s (.slice a l.length cap) v 0 0 0
  own : wr.ownsRow (B + 1) 3 1 v D.length (numC D)
  zb : Blk wr w.heap.size #[.int .i64 0, .int .i64 0, .int .i64 0, .slice none 0 0] 24
  row : TkIn wr B a l
  bel : Below w.heap.size w wr
  lt : w.heap.size < B
theorem own_slice1 {w : World} {base e n : Nat} {v : Value} {xs : List Value} (h : w.ownsRow base e 1 v n xs) : ∃ p m c, v = .slice p m c := by
  rcases h.2 with ⟨rfl, _⟩ | ⟨g, cap, cur, rfl, _⟩
  · exact ⟨_, _, _, rfl⟩
  · exact ⟨_, _, _, rfl⟩
theorem own_ge1 {w : World} {base e n : Nat} {v : Value} {xs : List Value} (h : w.ownsRow base e 1 v n xs) : ∀ g, v.ownBlock = some g → base ≤ g := fun g hg => (h.lt g hg).1
theorem TInv.below {w : World} {B : Nat} {s : ByteArray} {a : Option Addr} {cap : Nat} {l : List Tk} {D : List Sym} {v : Value} {wr wa : World} (h : TInv w B s a cap l D v wr) (hb : Below wr.heap.size wr wa) : TInv w B s a cap l D v wa := by
  refine ⟨h.ps.below hb, ?_, h.zb.below hb, h.row.below hb, h.bel.trans (hb.mono h.bel.size), h.lt⟩
  refine h.own.kept (grown_below (r := some B) hb) ?_
  cases hv : v.ownBlock with
  | none => exact .inl rfl
  | some g => exact .inr (fun e => by injection e with e; have := own_ge1 h.own g hv; omega)
set_option maxHeartbeats 4000000 in
set_option maxRecDepth 100000 in
theorem parsed_any (w : World) (s : ByteArray) (hs : s.size ≤ 20000) :
    Calls Try.prog 9 #[.string s] w (PR s (toksL s.data.toList) (docR (toksL s.data.toList).length (sols s.data.toList)) w) := by
  have bz : Below w.heap.size w ((World.alloc w (.cells #[.int .i64 0, .int .i64 0, .int .i64 0, .slice none 0 0] 24))) := (Below.refl _ w).alloc (Nat.le_refl _) _
  have K1 := hide (tokens_any s ((World.alloc w (.cells #[.int .i64 0, .int .i64 0, .int .i64 0, .slice none 0 0] 24))) hs)
  have zb := hide (blk_alloc w #[.int .i64 0, .int .i64 0, .int .i64 0, .slice none 0 0] 24)
  have BZ := hide bz
  have hz0 : ((World.alloc w (.cells #[.int .i64 0, .int .i64 0, .int .i64 0, .slice none 0 0] 24))).heap.size = w.heap.size + 1 := by simp
  have sg := hide (signs s hs)
  have hl := (good s hs).len
  have SE : Hid (sols s.data.toList = solF s.data.toList 0 (toksL s.data.toList)) := hide rfl
  clear bz
  generalize sols s.data.toList = S at *
  generalize toksL s.data.toList = l at *
  suffices FIN : ∀ Post : Ending → World → Prop, Hid (∀ e w', PR s l (docR l.length S) w e w' → Post e w') → Calls Try.prog 9 #[.string s] w Post from FIN _ (hide fun _ _ h => h)
  intro Post HPost
  go_enter Try.func9, Try.ntmps9
  go_wp2_with fail
  generalize (World.alloc w (.cells #[.int .i64 0, .int .i64 0, .int .i64 0, .slice none 0 0] 24)) = w0 at *
  refine (unhide K1).mono ?_
  rintro e w1 ⟨v, rfl, ⟨a, cap, rfl, hcap, row⟩, b1⟩
  dsimp only
  have I0 : Hid (TInv w w1.heap.size s a cap l [] (.slice none 0 0) (w1.alloc (.cells #[.string s, .slice a l.length cap, .slice none 0 0, .int .i64 0, .int .i64 0, .int .i64 0] 50))) := hide ⟨blk_alloc w1 _ _, World.ownsRow_nil _ _ _ _, Blk.alloc (Blk.below (unhide zb) b1) _, tkIn_of row _, ((unhide BZ).trans (b1.mono (unhide BZ).size)).alloc (Nat.le_trans (unhide BZ).size b1.size) _, by have := b1.size; omega⟩
  clear K1 row b1 zb BZ hz0
  go_wp2_with fail
  generalize w1.alloc (.cells #[.string s, .slice a l.length cap, .slice none 0 0, .int .i64 0, .int .i64 0, .int .i64 0] 50) = w2 at *
  generalize w1.heap.size = B at *
  clear w1 w0
  obtain ⟨i0, hinf, hz0, hz1, hz2⟩ := info_parts infoInt
  go_loopw [26] (fun i wr => ∃ (j : Nat) (v : Value), j ≤ l.length ∧ i = .int .i64 j ∧ Hid (TInv w B s a cap l (solF s.data.toList 0 (l.take j)) v wr)) (fun i _ => l.length - (intOf i).toNat)
  case atStart => exact ⟨0, _, Nat.zero_le _, rfl, I0⟩
  case round =>
    obtain ⟨j, v, hj, rfl, HI⟩ := hrel
    obtain ⟨pv0, nv0, cv0, rfl⟩ := own_slice1 (unhide HI).own
    by_cases hlt : j < l.length
    · have hne : l ≠ [] := fun e => by rw [e] at hlt; simp at hlt
      obtain ⟨b, o, rfl, hb, q⟩ := (unhide HI).row hne
      obtain ⟨x1, x2, x3⟩ := q j hlt
      have i1 : (j : Int) < (l.length : Int) := by omega
      have hk7 := (unhide sg).g.kind j hlt
      have ED := sol_more (L := s.data.toList) hlt
      have hDl := sol_len s.data.toList (l.take j) 0
      rw [List.length_take] at hDl
      clear q
      by_cases h3 : 3 < l[j].kind
      · rw [sol_yes h3] at ED
        have j3 : (l[j].kind : Int) > 3 := by omega
        have HED := hide ED
        have bt : Below wr.heap.size wr (wr.alloc (.cells #[.int .i64 (l[j].kind : Int), .int .i64 (l[j].fro : Int), .int .i64 (l[j].til : Int)] 34)) := (Below.refl _ wr).alloc (Nat.le_refl _) _
        have I1 := (unhide HI).below bt
        clear ED h3
        generalize solF s.data.toList 0 (l.take j) = D at *
        generalize symOf s.data.toList l[j] = sy at *
        generalize l[j].kind = zk at *
        generalize l[j].fro = zf at *
        generalize l[j].til = zt at *
        have c2 := Blk.cell I1.ps 2 _ rfl
        have hown1 := I1.own
        have hsz := Blk.lt I1.ps
        have I2 := I1.below ((Below.refl _ _).alloc (Nat.le_refl _) (.cells #[.int .i64 (j : Int)] 3))
        have hown2 := I2.own
        have HI2 := hide I2
        have e0 : (wr.alloc (.cells #[.int .i64 (zk : Int), .int .i64 (zf : Int), .int .i64 (zt : Int)] 34)).heap.size = wr.heap.size + 1 := by simp
        rw [e0] at hsz
        have d0 : decide ((zk : Int) > 3) = true := decide_eq_true j3
        clear I1 bt HI I2 e0
        go_wp2_with (at_builtin; refine wpList_append_lies _ rfl _ _ 39 rfl (B + 1) 3 i0 (.int .i64 0) 1 8 Try.underlying39 hinf hz0 hz1 hz2 rfl (by decide) _ _ _ rfl hown2 ⟨wr.heap.size + 1, 0, none⟩ 1 1 [.int .i64 (j : Int)] rfl rfl ?c1 ?c2 ?c3 ?c4 ?c5 ?c6 (wr.heap.size + 2) ?c7 ?_)
        case c1 =>
          have := cell_one_new (wr.alloc (.cells #[.int .i64 (zk : Int), .int .i64 (zf : Int), .int .i64 (zt : Int)] 34)) (.int .i64 (j : Int)) 3
          simpa using this
        case c2 => intro u hu; simp at hu; rw [hu]; rfl
        case c3 => decide
        case c4 => unfold maxLen; omega
        case c5 => omega
        case c6 => simp; omega
        case c7 => simp
        intro g cap' wx hownx hgx hat hltx
        have I2 := unhide HI2
        have hlB := I2.lt
        have nB : some B ≠ (Value.slice pv0 nv0 cv0).ownBlock := fun e => by have := own_ge1 hown2 B e.symm; omega
        have psx := Blk.grown I2.ps hgx nB
        have cx := Blk.cell psx 2 (.slice pv0 nv0 cv0) rfl
        have fx := Blk.froz psx 2
        have hbw : Below w.heap.size w wx := I2.bel.grown hgx I2.bel.size (fun x hx => by have := own_ge1 hown2 x hx; omega)
        have I3 : Hid (TInv w B s (some ⟨b, o, none⟩) cap l (D ++ [(sy, j)]) (.slice (some ⟨g, 0, none⟩) (D.length + 1) cap') (wx.setCell ⟨B, 2, none⟩ (.slice (some ⟨g, 0, none⟩) (D.length + 1) cap'))) := hide (by
          refine ⟨Blk.set psx 2 _, ?_, Blk.set_other (Blk.grown I2.zb hgx (fun e => by have := own_ge1 hown2 _ e.symm; omega)) _ _ (show w.heap.size ≠ B by omega), ?_, hbw.setCell (p := ⟨B, 2, none⟩) (Nat.le_of_lt hlB) _, hlB⟩
          · have e1 : (D ++ [(sy, j)]).length = D.length + 1 := by simp
            have e2 : numC (D ++ [(sy, j)]) = numC D ++ [.int .i64 (j : Int)] := by simp [numC]
            rw [e1, e2]
            exact hownx.kept (grown_set _ B 2 _) (.inr (fun e => by have e2 : some g = some B := e; injection e2 with e2; have := own_ge1 hownx g rfl; omega))
          · have t1 : TkIn wx B (some ⟨b, o, none⟩) l := by
              intro h0
              obtain ⟨b', o', e', hb', hc'⟩ := I2.row h0
              refine ⟨b', o', e', hb', fun m hm => ?_⟩
              obtain ⟨k1, k2, k3⟩ := hc' m hm
              have hn : ∀ z : Nat, some (⟨b', z, none⟩ : Addr).block ≠ (Value.slice pv0 nv0 cv0).ownBlock := fun z e => by have := own_ge1 hown2 b' e.symm; omega
              exact ⟨hgx.cell k1 (hn _), hgx.cell k2 (hn _), hgx.cell k3 (hn _)⟩
            exact t1.grown (grown_set _ B 2 _))
        clear I2 hlB nB psx hbw hownx hgx hat hltx hown2 hown1 HI2 c2 x1 x2 x3
        go_wp2
        go_roundw
        case rel => exact ⟨j + 1, _, hlt, by go_num, by rw [unhide HED]; exact I3⟩
        case measure => simp only [intOf]; omega
      · rw [sol_no h3] at ED
        have j3 : ¬ (l[j].kind : Int) > 3 := by omega
        have d0 : decide ((l[j].kind : Int) > 3) = false := decide_eq_false j3
        have HED : Hid (solF s.data.toList 0 (l.take (j + 1)) = solF s.data.toList 0 (l.take j)) := hide (by rw [ED]; exact List.append_nil _)
        have I1 := hide ((unhide HI).below ((Below.refl _ wr).alloc (Nat.le_refl _) (.cells #[.int .i64 (l[j].kind : Int), .int .i64 (l[j].fro : Int), .int .i64 (l[j].til : Int)] 34)))
        clear ED h3 HI
        generalize l[j].kind = zk at *
        generalize l[j].fro = zf at *
        generalize l[j].til = zt at *
        go_wp2
        go_roundw
        case rel => exact ⟨j + 1, _, hlt, by go_num, by rw [unhide HED]; exact I1⟩
        case measure => simp only [intOf]; omega
    · have hje : j = l.length := by omega
      have I1 := unhide HI
      rw [hje, List.take_length, ← unhide SE] at I1
      have hown := I1.own
      obtain ⟨hn, sd⟩ := sdIn_own hown
      subst hn
      have KV := hide (rvalue_all B s a pv0 cap cv0 l S (unhide sg) 20 0 rfl wr 0 0 I1.ps I1.row sd (Nat.zero_le _))
      have HI1 := hide I1
      have SD := hide sd
      have i1 : ¬ (j : Int) < (l.length : Int) := by omega
      clear I1 hown sd HI SE hinf hz0 hz1 hz2 i0
      go_wp2_with fail
      have hBw := (unhide HI1).lt
      have hBs := Blk.lt (unhide HI1).ps
      have hSl := (unhide sg).len
      rw [List.drop_zero] at KV
      cases hq : pv 20 S with
      | inl er1 =>
        obtain ⟨c, te⟩ := er1
        have RES := hide (docR_bad (n := l.length) hq)
        have hc : c ≠ 0 := by
          obtain ⟨_, _, _, hcc⟩ := (pv_loc 20).bad _ _ _ hq
          omega
        have jc1 : ((c : Int) == 0) = false := beq_false_of_ne (by omega)
        have jc2 : ((c : Int) != 0) = true := by unfold bne; rw [jc1]; rfl
        rw [hq] at KV
        clear hq
        refine (unhide KV).mono ?_
        rintro e wb ⟨hgb, rfl, ib, hib, rb⟩
        dsimp only
        have B3 := ((unhide HI1).bel.grown hgb (unhide HI1).bel.size (fun k hk => by injection hk with hk; omega)).alloc (Nat.le_trans (unhide HI1).bel.size hgb.size) (.cells #[.int .i64 0, .int .i64 0, .int .i64 0, .slice none 0 0] 24)
        have zb3 := Blk.alloc (Blk.grown (unhide HI1).zb hgb (fun e => by injection e with e; omega)) (.cells #[.int .i64 0, .int .i64 0, .int .i64 0, .slice none 0 0] 24)
        have rb3 : Ps ((World.alloc wb (.cells #[.int .i64 0, .int .i64 0, .int .i64 0, .slice none 0 0] 24))) B s (.slice a l.length cap) (.slice pv0 S.length cv0) ib _ _ := Blk.alloc rb _
        have HB3 := hide B3
        have HZ3 := hide zb3
        have HP3 := hide rb3
        clear KV hgb rb B3 zb3 rb3 HI1 SD
        go_wp2_with fail
        generalize (World.alloc wb (.cells #[.int .i64 0, .int .i64 0, .int .i64 0, .slice none 0 0] 24)) = w4 at *
        have KEY : ∀ wy : World, Hid (Below w.heap.size w wy) → Hid (Blk wy w.heap.size #[.int .i64 0, .int .i64 0, .int .i64 0, .slice none 0 0] 24) → Hid (Ps wy B s (.slice a l.length cap) (.slice pv0 S.length cv0) ib (c : Int) (placeOf s l te : Int)) → Hid (PR s l (docR l.length S) w (.returned (.tuple #[(.agg #[.int .i64 0, .int .i64 0, .int .i64 0, .slice none 0 0]), .int .i64 (placeOf s l te : Int), .int .i64 (c : Int)])) (put4 wy w.heap.size (.int .i64 0) (.int .i64 0) (.int .i64 0) (.slice none 0 0)).drew) := fun wy h1 h2 h3 => hide (by
          rw [unhide RES]
          exact ⟨(below_put4 (unhide h1) (Nat.le_refl _) _ _ _ _).drew, rfl⟩)
        by_cases hil : ib < S.length
        · have i5 : (ib : Int) < (S.length : Int) := by omega
          have u2 := Blk.cell (unhide HP3) 2 _ rfl
          have u3 := Blk.cell (unhide HP3) 3 _ rfl
          go_quiet (fail)
          have h1 := hide (below_drewN (unhide HB3) nq)
          have h2 := hide ((unhide HZ3).below (below_drewN (Below.refl _ _) nq))
          have h3 := hide ((unhide HP3).below (below_drewN (Below.refl _ _) nq))
          have KF := hide (fault_none (w4.drewN nq) B s _ _ ib 4 (c : Int) _ (by omega) (unhide h3))
          clear u2 u3 HB3 HZ3 HP3
          have FIN := KEY _ h1 h2 h3
          generalize w4.drewN nq = wy at *
          go_wp2_with fail
          refine (unhide KF).mono ?_
          rintro e w8 ⟨rfl, hw8⟩
          rw [hw8]
          dsimp only
          clear KF hw8
          have c4 := Blk.cell (unhide h3) 4 _ rfl
          have c5 := Blk.cell (unhide h3) 5 _ rfl
          obtain ⟨z0, z1, z2, z3⟩ := Blk.cells4 (unhide h2)
          obtain ⟨y0, y1, y2, y3⟩ := Blk.froz4 (unhide h2)
          have FC := hide (cells4_drew (Blk.cells4 (put4_blk (unhide h2) (.int .i64 0) (.int .i64 0) (.int .i64 0) (.slice none 0 0))))
          go_wp2_with fail
          go_region
          clear z0 z1 z2 z3 y0 y1 y2 y3 c4 c5 KEY
          go_wp2
          refine ret_cells (v := .tuple #[(.agg #[.int .i64 0, .int .i64 0, .int .i64 0, .slice none 0 0]), .int .i64 (placeOf s l te : Int), .int .i64 (c : Int)]) (unhide FC) (fun wF hF => by obtain ⟨f0, f1, f2, f3⟩ := hF; simp [results, Try.results9, go_sem, f0, f1, f2, f3]) rfl ?_
          exact unhide HPost _ _ (unhide FIN)
        · obtain rfl : ib = S.length := by omega
          have u2 := Blk.cell (unhide HP3) 2 _ rfl
          have u3 := Blk.cell (unhide HP3) 3 _ rfl
          go_quiet (fail)
          have h1 := hide (below_drewN (unhide HB3) nq)
          have h2 := hide ((unhide HZ3).below (below_drewN (Below.refl _ _) nq))
          have h3 := hide ((unhide HP3).below (below_drewN (Below.refl _ _) nq))
          clear u2 u3 HB3 HZ3 HP3
          have FIN := KEY _ h1 h2 h3
          generalize w4.drewN nq = wy at *
          have c4 := Blk.cell (unhide h3) 4 _ rfl
          have c5 := Blk.cell (unhide h3) 5 _ rfl
          obtain ⟨z0, z1, z2, z3⟩ := Blk.cells4 (unhide h2)
          obtain ⟨y0, y1, y2, y3⟩ := Blk.froz4 (unhide h2)
          have FC := hide (cells4_drew (Blk.cells4 (put4_blk (unhide h2) (.int .i64 0) (.int .i64 0) (.int .i64 0) (.slice none 0 0))))
          go_wp2_with fail
          go_region
          clear z0 z1 z2 z3 y0 y1 y2 y3 c4 c5 KEY
          go_wp2
          refine ret_cells (v := .tuple #[(.agg #[.int .i64 0, .int .i64 0, .int .i64 0, .slice none 0 0]), .int .i64 (placeOf s l te : Int), .int .i64 (c : Int)]) (unhide FC) (fun wF hF => by obtain ⟨f0, f1, f2, f3⟩ := hF; simp [results, Try.results9, go_sem, f0, f1, f2, f3]) rfl ?_
          exact unhide HPost _ _ (unhide FIN)
      | inr tr =>
        obtain ⟨t, rest⟩ := tr
        have HQ := hide hq
        rw [hq] at KV
        clear hq
        refine (unhide KV).mono ?_
        rintro e wb ⟨hgb, u0, u1, u2, u3, rfl, hL, ib, plb, hib, hr2, rb⟩
        dsimp only
        subst hr2
        obtain ⟨k0, a0, e0, pk, nk, ck, rfl, rfl, rfl, rfl⟩ := hL.form
        have bv : Below wb.heap.size wb (wb.alloc (.cells #[.int .i64 (k0 : Int), .int .i64 (a0 : Int), .int .i64 (e0 : Int), .slice pk nk ck] 24)) := (Below.refl _ wb).alloc (Nat.le_refl _) _
        have B3 := ((unhide HI1).bel.grown hgb (unhide HI1).bel.size (fun k hk => by injection hk with hk; omega)).alloc (Nat.le_trans (unhide HI1).bel.size hgb.size) (.cells #[.int .i64 (k0 : Int), .int .i64 (a0 : Int), .int .i64 (e0 : Int), .slice pk nk ck] 24)
        have zb3 := (Blk.grown (unhide HI1).zb hgb (fun e => by injection e with e; omega)).below bv
        have rb3 := rb.below bv
        have tk3 := ((unhide HI1).row.grown hgb).below bv
        have sd3 := ((unhide SD).grown hgb).below bv
        have L3 := hL.below bv
        have V3 := blk_alloc wb #[.int .i64 (k0 : Int), .int .i64 (a0 : Int), .int .i64 (e0 : Int), .slice pk nk ck] 24
        have hsw := hgb.size
        have HB3 := hide B3
        have HZ3 := hide zb3
        have HP3 := hide rb3
        have HT3 := hide tk3
        have HD3 := hide sd3
        have HL3 := hide L3
        have HV3 := hide V3
        clear KV hgb rb B3 zb3 rb3 tk3 sd3 L3 V3 bv hL HI1 SD
        go_wp2_with fail
        generalize wb.alloc (.cells #[.int .i64 (k0 : Int), .int .i64 (a0 : Int), .int .i64 (e0 : Int), .slice pk nk ck] 24) = w4 at *
        generalize wb.heap.size = NV at *
        by_cases hil : ib < S.length
        · have i5 : (ib : Int) < (S.length : Int) := by omega
          have RES : Hid (docR l.length S = .inl (4, S.drop ib)) := hide (by
            have hq := unhide HQ
            rw [List.drop_eq_getElem_cons hil] at hq ⊢
            exact docR_more hq)
          have u2 := Blk.cell (unhide HP3) 2 _ rfl
          have u3 := Blk.cell (unhide HP3) 3 _ rfl
          have KF : ∀ n, Hid _ := fun n => hide (fault_some (w4.drewN n) B s a pv0 cap cv0 l S ib 4 plb ((unhide HP3).below (below_drewN (Below.refl _ _) n)) ((unhide HT3).below (below_drewN (Below.refl _ _) n)) ((unhide HD3).below (below_drewN (Below.refl _ _) n)) (unhide sg) (by omega) (by decide))
          clear HL3 HV3 HQ
          go_quiet (fail)
          go_wp2_with fail
          refine (unhide (KF nq)).mono ?_
          rintro e wy ⟨rfl, rd8, g8⟩
          dsimp only
          have h1 := hide ((below_drewN (unhide HB3) nq).grown g8 (unhide HB3).size (fun k hk => by injection hk with hk; omega))
          have h2 := hide (Blk.grown ((unhide HZ3).below (below_drewN (Below.refl _ _) nq)) g8 (fun e => by injection e with e; omega))
          have h3 := hide rd8
          clear KF rd8 g8 u2 u3 HB3 HZ3 HP3 HT3 HD3
          have c4 := Blk.cell (unhide h3) 4 (.int .i64 4) rfl
          have c5 := Blk.cell (unhide h3) 5 _ rfl
          obtain ⟨z0, z1, z2, z3⟩ := Blk.cells4 (unhide h2)
          obtain ⟨y0, y1, y2, y3⟩ := Blk.froz4 (unhide h2)
          have FC := hide (cells4_drew (Blk.cells4 (put4_blk (unhide h2) (.int .i64 0) (.int .i64 0) (.int .i64 0) (.slice none 0 0))))
          have FIN : Hid (PR s l (docR l.length S) w (.returned (.tuple #[(.agg #[.int .i64 0, .int .i64 0, .int .i64 0, .slice none 0 0]), .int .i64 (placeOf s l (S.drop ib) : Int), .int .i64 4])) (put4 wy w.heap.size (.int .i64 0) (.int .i64 0) (.int .i64 0) (.slice none 0 0)).drew) := hide (by
            rw [unhide RES]
            exact ⟨(below_put4 (unhide h1) (Nat.le_refl _) _ _ _ _).drew, rfl⟩)
          generalize placeOf s l (S.drop ib) = zp at *
          go_wp2_with fail
          go_region
          clear z0 z1 z2 z3 y0 y1 y2 y3 c4 c5
          go_wp2
          refine ret_cells (v := .tuple #[(.agg #[.int .i64 0, .int .i64 0, .int .i64 0, .slice none 0 0]), .int .i64 (zp : Int), .int .i64 4]) (unhide FC) (fun wF hF => by obtain ⟨f0, f1, f2, f3⟩ := hF; simp [results, Try.results9, go_sem, f0, f1, f2, f3]) rfl ?_
          exact unhide HPost _ _ (unhide FIN)
        · have i5 : ¬ (ib : Int) < (S.length : Int) := by omega
          have d5 : decide ((ib : Int) < (S.length : Int)) = false := decide_eq_false i5
          have d6 : decide (ib < S.length) = false := decide_eq_false (by omega)
          have RES : Hid (docR l.length S = .inr (nd 6 0 l.length [t], [])) := hide (by
            have hq := unhide HQ
            rw [List.drop_of_length_le (by omega)] at hq
            exact docR_good hq)
          have u2 := Blk.cell (unhide HP3) 2 _ rfl
          have u3 := Blk.cell (unhide HP3) 3 _ rfl
          go_quiet (fail)
          have h1 := hide (below_drewN (unhide HB3) nq)
          have h2 := hide ((unhide HZ3).below (below_drewN (Below.refl _ _) nq))
          have h3 := hide ((unhide HP3).below (below_drewN (Below.refl _ _) nq))
          have h4 := hide ((unhide HL3).below (below_drewN (Below.refl _ _) nq))
          have h5 := hide ((unhide HV3).below (below_drewN (Below.refl _ _) nq))
          clear u2 u3 HB3 HZ3 HP3 HT3 HD3 HL3 HV3 HQ
          have hw4 : w4.heap.size = (w4.drewN nq).heap.size := rfl
          generalize w4.drewN nq = wy at *
          clear hw4
          have c4 := Blk.cell (unhide h3) 4 (.int .i64 0) rfl
          obtain ⟨j0, j1, j2, j3⟩ := Blk.cells4 (unhide h5)
          have ba : Below wy.heap.size wy (wy.alloc (.cells #[.int .i64 (k0 : Int), .int .i64 (a0 : Int), .int .i64 (e0 : Int), .slice pk nk ck] 24)) := (Below.refl _ wy).alloc (Nat.le_refl _) _
          have zb9 := (unhide h2).below ba
          obtain ⟨z0, z1, z2, z3⟩ := Blk.cells4 zb9
          obtain ⟨y0, y1, y2, y3⟩ := Blk.froz4 zb9
          have bS := blk_alloc wy #[.int .i64 (k0 : Int), .int .i64 (a0 : Int), .int .i64 (e0 : Int), .slice pk nk ck] 24
          have hzw := Blk.lt (unhide h2)
          have LO := lies_one (ok := fun b => w.heap.size + 1 ≤ b) (k := 6) (a := 0) (e := l.length) bS (by omega) (((unhide h4).below ba).weaken (fun b hb => by omega))
          have FC := hide (Blk.cells4 (put4_blk zb9 (.int .i64 6) (.int .i64 0) (.int .i64 (l.length : Int)) (.slice (some ⟨wy.heap.size, 0, none⟩) 1 1)))
          have FIN : Hid (PR s l (docR l.length S) w (.returned (.tuple #[.agg #[.int .i64 6, .int .i64 0, .int .i64 (l.length : Int), .slice (some ⟨wy.heap.size, 0, none⟩) 1 1], .int .i64 0, .int .i64 0])) (put4 (wy.alloc (.cells #[.int .i64 (k0 : Int), .int .i64 (a0 : Int), .int .i64 (e0 : Int), .slice pk nk ck] 24)) w.heap.size (.int .i64 6) (.int .i64 0) (.int .i64 (l.length : Int)) (.slice (some ⟨wy.heap.size, 0, none⟩) 1 1))) := hide (by
            rw [unhide RES]
            exact ⟨below_put4 ((unhide h1).alloc (unhide h1).size _) (Nat.le_refl _) _ _ _ _, _, _, _, _, rfl, (put4_lies LO (fun b hb => by omega) _ _ _ _).weaken (fun b hb => by omega)⟩)
          clear zb9 bS LO ba h1 h2 h3 h4 h5 hzw
          go_wp2
          refine ret_put (v := .tuple #[.agg #[.int .i64 6, .int .i64 0, .int .i64 (l.length : Int), .slice (some ⟨wy.heap.size, 0, none⟩) 1 1], .int .i64 0, .int .i64 0]) (unhide FC) (fun wF hF => by obtain ⟨f0, f1, f2, f3⟩ := hF; simp [results, Try.results9, go_sem, f0, f1, f2, f3]) rfl ?_
          exact unhide HPost _ _ (unhide FIN)
end Go.Proofs.Ytoikdjbgeebadaa.trees
