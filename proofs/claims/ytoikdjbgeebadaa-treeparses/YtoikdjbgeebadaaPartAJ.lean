/- The walks of package tree: a value at whatever level; a document; Parse. -/
import Derived.Test.YtoikdjbgeebadaaPartAG
import Derived.Test.YtoikdjbgeebadaaPartAH
import Derived.Test.YtoikdjbgeebadaaPartAI
set_option linter.unusedVariables false
namespace Go.Proofs.Ytoikdjbgeebadaa.trees
open Go.RowKit
open toks

theorem value_all (B : Nat) (s : ByteArray) (a : Option Addr) (cap : Nat) (l : List Tk) (g : Good s l) : ∀ (lv d : Nat), d + lv = 20 → ∀ (u : World) (j : Nat) (pl er : Int) (ts : List Sym), Rd u B s (.slice a l.length cap) j d pl er → TkIn u B a l → At s.data.toList l j ts → Calls Try.prog 25 #[(.pointer (some ⟨B, 0, none⟩))] u (Res B s a cap l d (2 * lv) u (pv lv ts))
  | 0, d, hd, u, j, pl, er, ts, h1, h2, h3 => by
    obtain rfl : d = 20 := by omega
    cases c1 : seesB ts 123 with
    | true => exact value_za u B s a cap l j _ pl er ts h1 h2 g h3 c1
    | false =>
      cases c2 : seesB ts 91 with
      | true => exact value_zb u B s a cap l j _ pl er ts h1 h2 g h3 c2
      | false =>
        cases c3 : seesB ts 120 with
        | true => exact value_zc u B s a cap l j _ pl er ts h1 h2 g h3 c3
        | false => exact value_d u B s a cap l j 20 0 _ pl er ts h1 h2 g h3 c1 c2 c3
  | lv + 1, d, hd, u, j, pl, er, ts, h1, h2, h3 => by
    have ih := value_all B s a cap l g lv (d + 1) (by omega)
    cases c1 : seesB ts 123 with
    | true => exact value_sa u B s a cap l j d lv pl er ts (by omega) ih h1 h2 g h3 c1
    | false =>
      cases c2 : seesB ts 91 with
      | true => exact value_sb u B s a cap l j d lv pl er ts (by omega) ih h1 h2 g h3 c2
      | false =>
        cases c3 : seesB ts 120 with
        | true => exact value_sc u B s a cap l j d lv pl er ts (by omega) h1 h2 g h3 c3
        | false => exact value_d u B s a cap l j d (lv + 1) _ pl er ts h1 h2 g h3 c1 c2 c3
end Go.Proofs.Ytoikdjbgeebadaa.trees
/- The walks of package tree: a reader is made; a document. -/
set_option linter.unusedVariables false
namespace Go.Proofs.Ytoikdjbgeebadaa.trees
open Go.RowKit
open toks

theorem tkIn_of {w : World} {a : Option Addr} {l : List Tk} (h : RowT w a l) (o : Obj) : TkIn (w.alloc o) w.heap.size a l := by
  intro h0
  have h' := h.below ((Below.refl _ w).alloc (Nat.le_refl _) o) h0
  obtain ⟨b, o', e, hb, hc⟩ := h h0
  obtain ⟨b2, o2, e2, _, hc2⟩ := h'
  rw [e] at e2
  injection e2 with e2
  injection e2 with e3 e4
  subst e3 e4
  exact ⟨b, o', e, hb, hc2⟩
set_option maxHeartbeats 1000000 in
set_option maxRecDepth 100000 in
theorem newReader_any (w : World) (s : ByteArray) (a : Option Addr) (cap : Nat) (l : List Tk) (hrow : RowT w a l) (g : Good s l) :
    Calls Try.prog 17 #[.string s, .slice a l.length cap] w fun e w' => ∃ j, e = .returned (.pointer (some ⟨w.heap.size, 0, none⟩)) ∧ Nxt l 0 j ∧ Rd w' w.heap.size s (.slice a l.length cap) j 0 0 0 ∧ TkIn w' w.heap.size a l ∧ Below w.heap.size w w' := by
  have rd0 : Rd (w.alloc (.cells #[.string s, .slice a l.length cap, .int .i64 0, .int .i64 0, .int .i64 0, .int .i64 0] 47)) w.heap.size s (.slice a l.length cap) 0 0 0 0 := blk_alloc w _ _
  have tk0 := tkIn_of hrow (.cells #[.string s, .slice a l.length cap, .int .i64 0, .int .i64 0, .int .i64 0, .int .i64 0] 47)
  have K := hide (goOn_any _ w.heap.size s a cap l 0 0 0 0 0 rd0 tk0 g (Nat.zero_le _))
  have TK := hide tk0
  have b0 := hide ((Below.refl _ w).alloc (Nat.le_refl _) (.cells #[.string s, .slice a l.length cap, .int .i64 0, .int .i64 0, .int .i64 0, .int .i64 0] 47))
  clear rd0 tk0 hrow g
  go_enter Try.func17, Try.ntmps17
  go_wp2_with fail
  refine (unhide K).mono ?_
  rintro e w2 ⟨j, rfl, h1, h2, h3⟩
  dsimp only
  have R : Hid (Nxt l 0 j ∧ Rd w2 w.heap.size s (.slice a l.length cap) j 0 0 0 ∧ TkIn w2 w.heap.size a l ∧ Below w.heap.size w w2) := hide ⟨h1, h2, (unhide TK).grown h3, (unhide b0).grown h3 (by simp) (fun k hk => by injection hk with hk; omega)⟩
  clear K h1 h2 h3 TK b0
  go_wp2
  go_ret
  exact ⟨j, rfl, unhide R⟩
/-- What a document is read as. -/
def docR (n : Nat) (ts : List Sym) : R :=
  match pd ts with
  | .inl e => .inl e
  | .inr (t, _) => .inr (nd 6 0 n [t], [])
theorem docR_bad {n : Nat} {ts : List Sym} {e : Nat × List Sym} (h : pv 20 ts = .inl e) : docR n ts = .inl e := by
  unfold docR pd
  rw [h]
theorem docR_more {n : Nat} {ts r : List Sym} {t : T} {y : Sym} (h : pv 20 ts = .inr (t, y :: r)) : docR n ts = .inl (4, y :: r) := by
  unfold docR pd
  rw [h]
theorem docR_good {n : Nat} {ts : List Sym} {t : T} (h : pv 20 ts = .inr (t, [])) : docR n ts = .inr (nd 6 0 n [t], []) := by
  unfold docR pd
  rw [h]
theorem lies_one {ok : Nat → Prop} {f : Nat} {w : World} {S : Nat} {k a e : Nat} {u0 u1 u2 u3 : Value} {v : T} {t : TypeId} (hS : Blk w S #[u0, u1, u2, u3] t) (hok : ok S) (hv : Lies ok f w [u0, u1, u2, u3] v) :
    Lies ok (f + 1) w [.int .i64 (k : Int), .int .i64 (a : Int), .int .i64 (e : Int), .slice (some ⟨S, 0, none⟩) 1 1] (nd k a e [v]) := by
  refine ⟨k, a, e, [v], some ⟨S, 0, none⟩, 1, rfl, rfl, Nat.le_refl _, fun _ => ⟨S, 0, rfl, hok, Blk.lt hS, fun j hj => ?_⟩⟩
  match j, hj with
  | 0, _ =>
    refine ⟨[u0, u1, u2, u3], rfl, fun m hm => ?_, hv⟩
    match m, hm with
    | 0, _ => exact Blk.cell hS 0 _ rfl
    | 1, _ => exact Blk.cell hS 1 _ rfl
    | 2, _ => exact Blk.cell hS 2 _ rfl
    | 3, _ => exact Blk.cell hS 3 _ rfl
set_option maxHeartbeats 2000000 in
set_option maxRecDepth 100000 in
theorem document_any (w : World) (B : Nat) (s : ByteArray) (a : Option Addr) (cap : Nat) (l : List Tk) (i : Nat) (pl er : Int) (ts : List Sym)
    (hr : Rd w B s (.slice a l.length cap) i 0 pl er) (ht : TkIn w B a l) (g : Good s l) (hat : At s.data.toList l i ts) :
    Calls Try.prog 18 #[(.pointer (some ⟨B, 0, none⟩))] w (Res B s a cap l 0 41 w (docR l.length ts)) := by
  have hB := Blk.lt hr
  have bz : Below w.heap.size w ((World.alloc w (.cells #[.int .i64 0, .int .i64 0, .int .i64 0, .slice none 0 0] 24))) := (Below.refl _ w).alloc (Nat.le_refl _) _
  have KV := hide (value_all B s a cap l g 20 0 rfl ((World.alloc w (.cells #[.int .i64 0, .int .i64 0, .int .i64 0, .slice none 0 0] 24))) i pl er ts (hr.below bz) (ht.below bz) hat)
  have HT := hide ht
  have HG := hide g
  have HZ := hide (blk_alloc w #[.int .i64 0, .int .i64 0, .int .i64 0, .slice none 0 0] 24)
  have HGZ := hide (grown_alloc (grown_refl w (some B)) (.cells #[.int .i64 0, .int .i64 0, .int .i64 0, .slice none 0 0] 24))
  have hz0 : ((World.alloc w (.cells #[.int .i64 0, .int .i64 0, .int .i64 0, .slice none 0 0] 24))).heap.size = w.heap.size + 1 := by simp
  have HB := hide hB
  have hl := g.len
  clear hr ht hat hB bz g
  suffices FIN : ∀ Post : Ending → World → Prop, Hid (∀ e w', Res B s a cap l 0 41 w (docR l.length ts) e w' → Post e w') → Calls Try.prog 18 #[(.pointer (some ⟨B, 0, none⟩))] w Post from FIN _ (hide fun _ _ h => h)
  intro Post HPost
  go_enter Try.func18, Try.ntmps18
  go_wp2_with fail
  generalize (World.alloc w (.cells #[.int .i64 0, .int .i64 0, .int .i64 0, .slice none 0 0] 24)) = w0 at *
  cases hq : pv 20 ts with
  | inl er1 =>
    obtain ⟨c, te⟩ := er1
    have RES := hide (docR_bad (n := l.length) hq)
    rw [hq] at KV
    clear hq
    refine (unhide KV).mono ?_
    rintro e w7 ⟨g7, rfl, ib, db, rb⟩
    dsimp only
    have g8 := grown_alloc g7 (.cells #[.int .i64 0, .int .i64 0, .int .i64 0, .slice none 0 0] 24)
    have zb := Blk.grown (unhide HZ) g8 (fun e => by injection e with e; have := unhide HB; omega)
    obtain ⟨z0, z1, z2, z3⟩ := Blk.cells4 zb
    obtain ⟨y0, y1, y2, y3⟩ := Blk.froz4 zb
    have FE := hide (pass_bad (d := 0) (f := 41) (unhide HB) (Nat.le_refl _) (unhide HGZ) g8 zb (Blk.alloc rb _))
    clear KV g7 g8 rb zb
    go_wp2
    obtain ⟨FE1, FC⟩ := unhide FE
    refine ret_put (v := .tuple #[(.agg #[.int .i64 0, .int .i64 0, .int .i64 0, .slice none 0 0]), .bool false]) FC (fun wF hF => by obtain ⟨f0, f1, f2, f3⟩ := hF; simp [results, Try.results18, go_sem, f0, f1, f2, f3]) rfl ?_
    refine unhide HPost _ _ ?_
    rw [unhide RES]
    exact FE1
  | inr tr =>
    obtain ⟨t, rest⟩ := tr
    have HQ := hide hq
    rw [hq] at KV
    clear hq
    refine (unhide KV).mono ?_
    rintro e w7 ⟨g7, u0, u1, u2, u3, rfl, hL, ib, plb, erb, rb, ab⟩
    dsimp only
    obtain ⟨k0, a0, e0, pk, nk, ck, rfl, rfl, rfl, rfl⟩ := hL.form
    have b8 : Below w7.heap.size w7 (w7.alloc (.cells #[.int .i64 (k0 : Int), .int .i64 (a0 : Int), .int .i64 (e0 : Int), .slice pk nk ck] 24)) := (Below.refl _ w7).alloc (Nat.le_refl _) _
    have rb8 := rb.below b8
    have c1 := Blk.cell rb8 1 _ rfl
    have c2 := Blk.cell rb8 2 _ rfl
    have g8 := grown_trans g7 (grown_below b8)
    have zb := Blk.grown (unhide HZ) g8 (fun e => by injection e with e; have := unhide HB; omega)
    have vb := blk_alloc w7 #[.int .i64 (k0 : Int), .int .i64 (a0 : Int), .int .i64 (e0 : Int), .slice pk nk ck] 24
    have hL8 := hL.below b8
    have RB8 := hide rb8
    have G8 := hide g8
    have ZB8 := hide zb
    have VB8 := hide vb
    have HL8 := hide hL8
    have hs8 : w0.heap.size ≤ w7.heap.size := g7.size
    cases rest with
    | cons y r =>
      have RES := hide (docR_more (n := l.length) (unhide HQ))
      obtain ⟨hi, _, _⟩ := at_two ab
      have i1 : (ib : Int) < (l.length : Int) := by omega
      have KR := fun n : Nat => hide (refuse_any ((w7.alloc (.cells #[.int .i64 (k0 : Int), .int .i64 (a0 : Int), .int .i64 (e0 : Int), .slice pk nk ck] 24)).drewN n) B s a cap l ib 0 plb erb (y :: r) 4 (by decide) (rb8.below (below_drewN (Below.refl _ _) n)) (((unhide HT).grown (grown_trans (unhide HGZ) g8)).below (below_drewN (Below.refl _ _) n)) (unhide HG) ab)
      clear KV g7 rb ab hL rb8 g8 zb vb hL8 b8 HQ HL8 VB8
      go_wp2_with fail
      generalize hw8 : w7.alloc (.cells #[.int .i64 (k0 : Int), .int .i64 (a0 : Int), .int .i64 (e0 : Int), .slice pk nk ck] 24) = w8 at *
      clear hw8
      go_quiet (fail)
      go_wp2_with fail
      refine (unhide (KR nq)).mono ?_
      rintro e w9 ⟨rfl, rd9, g9⟩
      dsimp only
      have g9' : w0.grownBy w9 (some B) := grown_trans (grown_trans (unhide G8) (grown_drewN (grown_refl w8 _) nq)) g9
      have zb := Blk.grown (unhide HZ) g9' (fun e => by injection e with e; have := unhide HB; omega)
      obtain ⟨z0, z1, z2, z3⟩ := Blk.cells4 zb
      obtain ⟨y0, y1, y2, y3⟩ := Blk.froz4 zb
      have FE := hide (pass_bad (d := 0) (f := 41) (unhide HB) (Nat.le_refl _) (unhide HGZ) g9' zb rd9)
      clear KR rd9 g9 g9' zb
      go_wp2
      obtain ⟨FE1, FC⟩ := unhide FE
      refine ret_put (v := .tuple #[(.agg #[.int .i64 0, .int .i64 0, .int .i64 0, .slice none 0 0]), .bool false]) FC (fun wF hF => by obtain ⟨f0, f1, f2, f3⟩ := hF; simp [results, Try.results18, go_sem, f0, f1, f2, f3]) rfl ?_
      refine unhide HPost _ _ ?_
      rw [unhide RES]
      exact FE1
    | nil =>
      have RES := hide (docR_good (n := l.length) (unhide HQ))
      have hib := at_nil ab
      have i1 : ¬ (ib : Int) < (l.length : Int) := by omega
      have d1 : decide ((ib : Int) < (l.length : Int)) = false := decide_eq_false i1
      have AB := hide ab
      clear KV g7 rb ab hL rb8 g8 zb vb hL8 b8 HQ hib
      go_wp2_with fail
      generalize hw8 : w7.alloc (.cells #[.int .i64 (k0 : Int), .int .i64 (a0 : Int), .int .i64 (e0 : Int), .slice pk nk ck] 24) = w8 at *
      clear hw8
      go_quiet (fail)
      obtain ⟨j0, j1, j2, j3⟩ := Blk.cells4 (unhide VB8)
      have ba : ∀ n : Nat, Below w8.heap.size w8 ((w8.drewN n).alloc (.cells #[.int .i64 (k0 : Int), .int .i64 (a0 : Int), .int .i64 (e0 : Int), .slice pk nk ck] 24)) := fun n => (below_drewN (Below.refl _ _) n).alloc (Nat.le_refl _) _
      have zn := fun n => Blk.below (unhide ZB8) (ba n)
      have z0 := fun n => Blk.cell (zn n) 0 _ rfl
      have z1 := fun n => Blk.cell (zn n) 1 _ rfl
      have z2 := fun n => Blk.cell (zn n) 2 _ rfl
      have z3 := fun n => Blk.cell (zn n) 3 _ rfl
      have y0 := fun n => Blk.froz (zn n) 0
      have y1 := fun n => Blk.froz (zn n) 1
      have y2 := fun n => Blk.froz (zn n) 2
      have y3 := fun n => Blk.froz (zn n) 3
      have d1' := fun n => Blk.cell ((unhide RB8).below (ba n)) 1 (.slice a l.length cap) rfl
      have bS := blk_alloc (w8.drewN (nq + 1)) #[.int .i64 (k0 : Int), .int .i64 (a0 : Int), .int .i64 (e0 : Int), .slice pk nk ck] 24
      have LO := lies_one (k := 6) (a := 0) (e := l.length) bS (show w0.heap.size ≤ w8.heap.size from (unhide G8).size) ((unhide HL8).below (ba (nq + 1)))
      have FE := hide (pass_good (d := 0) (f := 41) (unhide HB) (Nat.le_refl _) (by omega) (unhide HGZ) (grown_trans (unhide G8) (grown_below (ba (nq + 1)))) (zn (nq + 1)) LO ((unhide RB8).below (ba (nq + 1))) (unhide AB))
      clear zn ba bS LO
      go_wp2_with fail
      go_region
      clear z0 z1 z2 z3 y0 y1 y2 y3 d1' j0 j1 j2 j3 c1 c2
      go_wp2
      obtain ⟨FE1, FC⟩ := unhide FE
      refine ret_put (v := .tuple #[.agg #[.int .i64 6, .int .i64 0, .int .i64 (l.length : Int), .slice (some ⟨w8.heap.size, 0, none⟩) 1 1], .bool true]) FC (fun wF hF => by obtain ⟨f0, f1, f2, f3⟩ := hF; simp [results, Try.results18, go_sem, f0, f1, f2, f3]) rfl ?_
      refine unhide HPost _ _ ?_
      rw [unhide RES]
      exact FE1
end Go.Proofs.Ytoikdjbgeebadaa.trees
/- The walk of package tree's Parse. -/
set_option linter.unusedVariables false
namespace Go.Proofs.Ytoikdjbgeebadaa.trees
open Go.RowKit
open toks

/-- What a text is parsed to. -/
def PR (s : ByteArray) (l : List Tk) (q : R) (w : World) (e : Ending) (w' : World) : Prop :=
  Below w.heap.size w w' ∧
  match q with
  | .inl (c, ts) => e = .returned (.tuple #[(.agg #[.int .i64 0, .int .i64 0, .int .i64 0, .slice none 0 0]), .int .i64 (placeOf s l ts : Int), .int .i64 (c : Int)])
  | .inr (t, _) => ∃ u0 u1 u2 u3, e = .returned (.tuple #[.agg #[u0, u1, u2, u3], .int .i64 0, .int .i64 0]) ∧ Lies (fun b => w.heap.size ≤ b) 41 w' [u0, u1, u2, u3] t
theorem below_put4 {n : Nat} {w w' : World} {R0 : Nat} (h : Below n w w') (hn : n ≤ R0) (u0 u1 u2 u3 : Value) : Below n w (put4 w' R0 u0 u1 u2 u3) :=
  (((h.setCell (p := ⟨R0, 0, none⟩) hn u0).setCell (p := ⟨R0, 1, none⟩) hn u1).setCell (p := ⟨R0, 2, none⟩) hn u2).setCell (p := ⟨R0, 3, none⟩) hn u3
theorem sols_at (s : ByteArray) {j : Nat} (h : Nxt (toksL s.data.toList) 0 j) : At s.data.toList (toksL s.data.toList) j (sols s.data.toList) := by
  have := h.at (L := s.data.toList)
  rw [List.drop_zero] at this
  exact this
theorem cells4_drew {w : World} {b : Nat} {u0 u1 u2 u3 : Value} (h : Cells4 w b u0 u1 u2 u3) : Cells4 w.drew b u0 u1 u2 u3 := ⟨h.c0, h.c1, h.c2, h.c3⟩
theorem ret_cells {P : Program} {fn : Func} {Post : Ending → World → Prop} {a : Act} {w : World} {R0 : Nat} {u0 u1 u2 u3 v : Value} (hc : Cells4 w R0 u0 u1 u2 u3) (hr : ∀ wF, Cells4 wF R0 u0 u1 u2 u3 → (results fn a.tmps).run P wF = .ok v wF) (hd : a.defers = []) (hP : Post (.returned v) w) : bodyPost P fn Post .ret a w :=
  bodyPost_ret (hr _ hc) hd hP
set_option maxHeartbeats 1000000 in
set_option maxRecDepth 100000 in
theorem parse_large (w : World) (s : ByteArray) (hs : 20000 < s.size) :
    Calls Try.prog 8 #[.string s] w fun e w' => e = .returned (.tuple #[(.agg #[.int .i64 0, .int .i64 0, .int .i64 0, .slice none 0 0]), .int .i64 0, .int .i64 2]) ∧ Below w.heap.size w w' := by
  have K1 := hide (cut_large s ((World.alloc w (.cells #[.int .i64 0, .int .i64 0, .int .i64 0, .slice none 0 0] 24))) hs)
  have zb := blk_alloc w #[.int .i64 0, .int .i64 0, .int .i64 0, .slice none 0 0] 24
  have bz : Below w.heap.size w ((World.alloc w (.cells #[.int .i64 0, .int .i64 0, .int .i64 0, .slice none 0 0] 24))) := (Below.refl _ w).alloc (Nat.le_refl _) _
  obtain ⟨z0, z1, z2, z3⟩ := Blk.cells4 zb
  obtain ⟨y0, y1, y2, y3⟩ := Blk.froz4 zb
  have FC := hide (Blk.cells4 (put4_blk zb (.int .i64 0) (.int .i64 0) (.int .i64 0) (.slice none 0 0)))
  have FB := hide (below_put4 bz (Nat.le_refl _) (.int .i64 0) (.int .i64 0) (.int .i64 0) (.slice none 0 0))
  clear hs zb bz
  go_enter Try.func8, Try.ntmps8
  go_wp2_with fail
  generalize (World.alloc w (.cells #[.int .i64 0, .int .i64 0, .int .i64 0, .slice none 0 0] 24)) = w0 at *
  refine (unhide K1).mono ?_
  rintro e w1 ⟨rfl, hw⟩
  rw [hw]
  dsimp only
  clear hw K1
  go_wp2
  refine ret_put (v := .tuple #[(.agg #[.int .i64 0, .int .i64 0, .int .i64 0, .slice none 0 0]), .int .i64 0, .int .i64 2]) (unhide FC) (fun wF hF => by obtain ⟨f0, f1, f2, f3⟩ := hF; simp [results, Try.results8, go_sem, f0, f1, f2, f3]) rfl ?_
  exact ⟨rfl, unhide FB⟩
set_option maxHeartbeats 2000000 in
set_option maxRecDepth 100000 in
theorem parse_any (w : World) (s : ByteArray) (hs : s.size ≤ 20000) (hM : MaxOk w) :
    Calls Try.prog 8 #[.string s] w (PR s (toksL s.data.toList) (docR (toksL s.data.toList).length (sols s.data.toList)) w) := by
  have bz : Below w.heap.size w ((World.alloc w (.cells #[.int .i64 0, .int .i64 0, .int .i64 0, .slice none 0 0] 24))) := (Below.refl _ w).alloc (Nat.le_refl _) _
  have K1 := hide (cut_any s ((World.alloc w (.cells #[.int .i64 0, .int .i64 0, .int .i64 0, .slice none 0 0] 24))) hs (hM.below (Nat.le_refl _) bz))
  have zb := hide (blk_alloc w #[.int .i64 0, .int .i64 0, .int .i64 0, .slice none 0 0] 24)
  have BZ := hide bz
  have hz0 : ((World.alloc w (.cells #[.int .i64 0, .int .i64 0, .int .i64 0, .slice none 0 0] 24))).heap.size = w.heap.size + 1 := by simp
  have g := hide (good s hs)
  have AT := hide (fun j => sols_at s (j := j))
  clear hM bz
  generalize sols s.data.toList = ts at *
  generalize toksL s.data.toList = l at *
  suffices FIN : ∀ Post : Ending → World → Prop, Hid (∀ e w', PR s l (docR l.length ts) w e w' → Post e w') → Calls Try.prog 8 #[.string s] w Post from FIN _ (hide fun _ _ h => h)
  intro Post HPost
  go_enter Try.func8, Try.ntmps8
  go_wp2_with fail
  generalize (World.alloc w (.cells #[.int .i64 0, .int .i64 0, .int .i64 0, .slice none 0 0] 24)) = w0 at *
  refine (unhide K1).mono ?_
  rintro e w1 ⟨v, rfl, ⟨a, cap, rfl, hcap, row⟩, b1⟩
  dsimp only
  have K2 := hide (newReader_any w1 s a cap l row (unhide g))
  have B1 := hide ((unhide BZ).trans (b1.mono (unhide BZ).size))
  have zb1 := hide (Blk.below (unhide zb) b1)
  have hs1 : w0.heap.size ≤ w1.heap.size := b1.size
  clear K1 row b1 zb BZ
  go_wp2_with fail
  refine (unhide K2).mono ?_
  rintro e w2 ⟨j, rfl, nx, rd, tk, b2⟩
  dsimp only
  have K3 := hide (document_any w2 w1.heap.size s a cap l j 0 0 ts rd tk (unhide g) (unhide AT j nx))
  have B2 := hide ((unhide B1).trans (b2.mono (unhide B1).size))
  have zb2 := hide (Blk.below (unhide zb1) b2)
  have hs2 : w1.heap.size ≤ w2.heap.size := b2.size
  clear K2 rd tk nx b2 B1 zb1 AT
  go_wp2_with fail
  refine (unhide K3).mono ?_
  generalize docR l.length ts = qq at *
  cases qq with
  | inl er1 =>
    obtain ⟨c, te⟩ := er1
    rintro e w3 ⟨g3, rfl, ib, db, rb⟩
    dsimp only
    have B3 := ((unhide B2).grown g3 (unhide B2).size (fun k hk => by injection hk with hk; omega)).alloc (Nat.le_trans (unhide B2).size g3.size) (.cells #[.int .i64 0, .int .i64 0, .int .i64 0, .slice none 0 0] 24)
    have zb3 := Blk.alloc (Blk.grown (unhide zb2) g3 (fun e => by injection e with e; omega)) (.cells #[.int .i64 0, .int .i64 0, .int .i64 0, .slice none 0 0] 24)
    have rb3 : Rd ((World.alloc w3 (.cells #[.int .i64 0, .int .i64 0, .int .i64 0, .slice none 0 0] 24))) w1.heap.size s (.slice a l.length cap) ib db _ _ := Blk.alloc rb _
    have c4 := Blk.cell rb3 4 _ rfl
    have c5 := Blk.cell rb3 5 _ rfl
    have HB3 := hide B3
    have HZ3 := hide zb3
    clear K3 g3 rb B3 zb3 rb3 B2 zb2
    go_wp2_with fail
    generalize (World.alloc w3 (.cells #[.int .i64 0, .int .i64 0, .int .i64 0, .slice none 0 0] 24)) = w4 at *
    obtain ⟨z0, z1, z2, z3⟩ := Blk.cells4 (unhide HZ3)
    obtain ⟨y0, y1, y2, y3⟩ := Blk.froz4 (unhide HZ3)
    have FC := hide (Blk.cells4 (put4_blk (unhide HZ3) (.int .i64 0) (.int .i64 0) (.int .i64 0) (.slice none 0 0)))
    have FB := hide (below_put4 (unhide HB3) (Nat.le_refl _) (.int .i64 0) (.int .i64 0) (.int .i64 0) (.slice none 0 0))
    go_region
    clear z0 z1 z2 z3 y0 y1 y2 y3 c4 c5
    go_wp2
    refine ret_cells (v := .tuple #[(.agg #[.int .i64 0, .int .i64 0, .int .i64 0, .slice none 0 0]), .int .i64 (placeOf s l te : Int), .int .i64 (c : Int)]) (cells4_drew (unhide FC)) (fun wF hF => by obtain ⟨f0, f1, f2, f3⟩ := hF; simp [results, Try.results8, go_sem, f0, f1, f2, f3]) rfl ?_
    exact unhide HPost _ _ ⟨(unhide FB).drew, rfl⟩
  | inr tr =>
    obtain ⟨t, rest⟩ := tr
    rintro e w3 ⟨g3, u0, u1, u2, u3, rfl, hL, ib, plb, erb, rb, ab⟩
    dsimp only
    obtain ⟨k0, a0, e0, pk, nk, ck, rfl, rfl, rfl, rfl⟩ := hL.form
    have b8 : Below w3.heap.size w3 (w3.alloc (.cells #[.int .i64 (k0 : Int), .int .i64 (a0 : Int), .int .i64 (e0 : Int), .slice pk nk ck] 24)) := (Below.refl _ w3).alloc (Nat.le_refl _) _
    have B3 := ((unhide B2).grown g3 (unhide B2).size (fun k hk => by injection hk with hk; omega)).alloc (Nat.le_trans (unhide B2).size g3.size) (.cells #[.int .i64 (k0 : Int), .int .i64 (a0 : Int), .int .i64 (e0 : Int), .slice pk nk ck] 24)
    have zb3 := Blk.alloc (Blk.grown (unhide zb2) g3 (fun e => by injection e with e; omega)) (.cells #[.int .i64 (k0 : Int), .int .i64 (a0 : Int), .int .i64 (e0 : Int), .slice pk nk ck] 24)
    obtain ⟨j0, j1, j2, j3⟩ := Blk.cells4 (blk_alloc w3 #[.int .i64 (k0 : Int), .int .i64 (a0 : Int), .int .i64 (e0 : Int), .slice pk nk ck] 24)
    obtain ⟨z0, z1, z2, z3⟩ := Blk.cells4 zb3
    obtain ⟨y0, y1, y2, y3⟩ := Blk.froz4 zb3
    have FC := hide (Blk.cells4 (put4_blk zb3 (.int .i64 (k0 : Int)) (.int .i64 (a0 : Int)) (.int .i64 (e0 : Int)) (.slice pk nk ck)))
    have FB := hide (below_put4 B3 (Nat.le_refl _) (.int .i64 (k0 : Int)) (.int .i64 (a0 : Int)) (.int .i64 (e0 : Int)) (.slice pk nk ck))
    have FL := hide ((put4_lies (R0 := w.heap.size) (hL.below b8) (fun b hb => by omega) (.int .i64 (k0 : Int)) (.int .i64 (a0 : Int)) (.int .i64 (e0 : Int)) (.slice pk nk ck)).weaken (ok' := fun b => w.heap.size ≤ b) (fun b hb => by omega))
    clear K3 g3 rb B3 zb3 B2 zb2 b8 hL ab
    go_wp2
    refine ret_put (v := .tuple #[.agg #[.int .i64 (k0 : Int), .int .i64 (a0 : Int), .int .i64 (e0 : Int), .slice pk nk ck], .int .i64 0, .int .i64 0]) (unhide FC) (fun wF hF => by obtain ⟨f0, f1, f2, f3⟩ := hF; simp [results, Try.results8, go_sem, f0, f1, f2, f3]) rfl ?_
    exact unhide HPost _ _ ⟨unhide FB, _, _, _, _, rfl, unhide FL⟩
end Go.Proofs.Ytoikdjbgeebadaa.trees
/- The walks of the document's Parsing: what is seen, what is wrong, a node. -/
set_option linter.unusedVariables false
namespace Go.Proofs.Ytoikdjbgeebadaa.trees
open Go.RowKit
open toks

/-- The document's block. -/
def Ps (w : World) (B : Nat) (s : ByteArray) (tv sv : Value) (i : Nat) (er pl : Int) : Prop := Blk w B #[.string s, tv, sv, .int .i64 (i : Int), .int .i64 er, .int .i64 pl] 50
/-- The numbers of the solid tokens lie in a row that is not block B. -/
def SdIn (w : World) (B : Nat) (a : Option Addr) (S : List Sym) : Prop :=
  S ≠ [] → ∃ b o, a = some ⟨b, o, none⟩ ∧ b ≠ B ∧ ∀ j (h : j < S.length), w.cell? ⟨b, o + j, none⟩ = some (.int .i64 (S[j].2 : Int))
theorem SdIn.grown {w w' : World} {B : Nat} {a : Option Addr} {S : List Sym} (h : SdIn w B a S) (hg : w.grownBy w' (some B)) : SdIn w' B a S := by
  intro h0
  obtain ⟨b, o, e, hb, hc⟩ := h h0
  refine ⟨b, o, e, hb, fun j hj => ?_⟩
  exact hg.cell (hc j hj) (fun e => by injection e with e; exact hb e)
theorem SdIn.below {w w' : World} {B : Nat} {a : Option Addr} {S : List Sym} (h : SdIn w B a S) (hb : Below w.heap.size w w') : SdIn w' B a S := h.grown (grown_below hb)
theorem Ps.below {w w' : World} {B : Nat} {s : ByteArray} {tv sv : Value} {i : Nat} {er pl : Int} (h : Ps w B s tv sv i er pl) (hb : Below w.heap.size w w') : Ps w' B s tv sv i er pl := Blk.below h hb
theorem Ps.next {w : World} {B : Nat} {s : ByteArray} {tv sv : Value} {i : Nat} {er pl : Int} (h : Ps w B s tv sv i er pl) (z : Int) (j : Nat) (hz : z = j) : Ps (w.setCell ⟨B, 3, none⟩ (.int .i64 z)) B s tv sv j er pl := by
  subst hz
  have := Blk.set h 3 (.int .i64 (j : Int))
  exact this
theorem Ps.err {w : World} {B : Nat} {s : ByteArray} {tv sv : Value} {i : Nat} {er pl : Int} (h : Ps w B s tv sv i er pl) (z : Int) : Ps (w.setCell ⟨B, 4, none⟩ (.int .i64 z)) B s tv sv i z pl := by
  have := Blk.set h 4 (.int .i64 z)
  exact this
theorem Ps.place {w : World} {B : Nat} {s : ByteArray} {tv sv : Value} {i : Nat} {er pl : Int} (h : Ps w B s tv sv i er pl) (z : Int) : Ps (w.setCell ⟨B, 5, none⟩ (.int .i64 z)) B s tv sv i er z := by
  have := Blk.set h 5 (.int .i64 z)
  exact this
/-- What is known of the signs: each is a solid token's. -/
structure Signs (s : ByteArray) (l : List Tk) (S : List Sym) : Prop where
  g : Good s l
  len : S.length ≤ 20000
  at' : ∀ (j : Nat) (h : j < S.length), ∃ hi : S[j].2 < l.length, S[j].1 = symOf s.data.toList l[S[j].2] ∧ 3 < l[S[j].2].kind
theorem signs (s : ByteArray) (hs : s.size ≤ 20000) : Signs s (toksL s.data.toList) (sols s.data.toList) := by
  refine ⟨good s hs, ?_, fun j h => ?_⟩
  · have h1 := sol_len s.data.toList (toksL s.data.toList) 0
    exact Nat.le_trans h1 (good s hs).len
  · obtain ⟨_, h2, h3, h4⟩ := sol_in s.data.toList (toksL s.data.toList) 0 _ (List.getElem_mem h)
    simp only [Nat.sub_zero] at h2 h3 h4
    exact ⟨h2, h4, h3⟩
/-- The byte that is seen. -/
def seeC (ts : List Sym) : UInt8 :=
  match ts with
  | [] => 0
  | x :: _ => x.1
theorem seeC_at {S : List Sym} {i : Nat} (h : i < S.length) : seeC (S.drop i) = S[i].1 := by
  rw [List.drop_eq_getElem_cons h]
  rfl
theorem seeC_end {S : List Sym} {i : Nat} (h : S.length ≤ i) : seeC (S.drop i) = 0 := by
  rw [List.drop_of_length_le h]
  rfl
theorem seeC_sees {ts : List Sym} {m : UInt8} (hm : m ≠ 0) : (seeC ts == m) = seesB ts m := by
  cases ts with
  | nil => exact beq_false_of_ne (Ne.symm hm)
  | cons x r => rfl
set_option maxHeartbeats 2000000 in
set_option maxRecDepth 100000 in
theorem rsees_any (w : World) (B : Nat) (s : ByteArray) (a sa : Option Addr) (cap sc : Nat) (l : List Tk) (S : List Sym) (i : Nat) (er pl : Int) (hp : Ps w B s (.slice a l.length cap) (.slice sa S.length sc) i er pl) (ht : TkIn w B a l) (hd : SdIn w B sa S) (g : Signs s l S) (hi20 : i ≤ 20000) :
    Calls Try.prog 27 #[(.pointer (some ⟨B, 0, none⟩))] w fun e w' => e = .returned (.int .u8 ((seeC (S.drop i)).toNat : Int)) ∧ Below w.heap.size w w' := by
  have c0 := Blk.cell hp 0 _ rfl
  have c1 := Blk.cell hp 1 _ rfl
  have c2 := Blk.cell hp 2 _ rfl
  have c3 := Blk.cell hp 3 _ rfl
  have hl := g.g.len
  have hS := g.len
  by_cases hi : i < S.length
  · have E := seeC_at hi
    obtain ⟨hx, hsy, h3⟩ := g.at' i hi
    rw [hsy] at E
    have hne : S ≠ [] := fun e => by rw [e] at hi; simp at hi
    have hnl : l ≠ [] := fun e => by rw [e] at hx; simp at hx
    obtain ⟨b1, o1, rfl, hb1, q1⟩ := ht hnl
    obtain ⟨b2, o2, rfl, hb2, q2⟩ := hd hne
    have y0 := q2 i hi
    obtain ⟨x1, x2, x3⟩ := q1 _ hx
    have hk7 := g.g.kind _ hx
    have hf := g.g.fro _ hx
    have hby : s.data.toList.getD l[S[i].2].fro 0 = s[l[S[i].2].fro]'hf := g.g.byte _ hx
    have i1 : ¬ (i : Int) ≥ (S.length : Int) := by omega
    have d1 : decide ((i : Int) ≥ (S.length : Int)) = false := decide_eq_false i1
    have i2 : (i : Int) < (S.length : Int) := by omega
    have hz := g.g.size
    unfold symOf at E
    rw [hby] at E
    have HP := hide hp
    clear hsy q1 q2 hp ht hd g hby
    generalize S[i].2 = m at *
    have i3 : (m : Int) < (l.length : Int) := by omega
    generalize l[m].kind = z at *
    generalize l[m].fro = y at *
    generalize l[m].til = y3 at *
    have HE := hide E
    clear E
    have al : ∀ {p : Addr} {v : Value} (n : Nat), w.cell? p = some v → ((w.drewN n).alloc (.cells #[.int .i64 0, .int .i64 0, .int .i64 0] 34)).cell? p = some v := fun n h => by
      rw [← h]
      exact World.cell?_of_block (Below.heap_alloc _ _ _ (World.block_lt_of_cell? w _ h))
    have e1 := fun n : Nat => al n c1
    have e2 := fun n : Nat => al n c2
    have e3 := fun n : Nat => al n c3
    have e4 := fun n : Nat => al n y0
    have e5 := fun n : Nat => al n x1
    have e6 := fun n : Nat => al n x2
    have e7 := fun n : Nat => al n x3
    clear al
    have nb : ∀ n : Nat, Blk ((w.drewN n).alloc (.cells #[.int .i64 0, .int .i64 0, .int .i64 0] 34)) w.heap.size #[.int .i64 0, .int .i64 0, .int .i64 0] 34 := fun n => blk_alloc (w.drewN n) _ _
    have n0 := fun n => (nb n).cell 0 _ rfl
    have n1 := fun n => (nb n).cell 1 _ rfl
    have n2 := fun n => (nb n).cell 2 _ rfl
    have f0 := fun n => (nb n).froz 0
    have f1 := fun n => (nb n).froz 1
    have f2 := fun n => (nb n).froz 2
    have NB := fun n => hide (nb n)
    clear nb
    go_enter Try.func27, Try.ntmps27
    go_wp2_with fail
    go_quiet (fail)
    go_wp2_with fail
    go_region
    have B3 : Hid (Below w.heap.size w (((((w.drewN (nq + 1)).alloc (.cells #[.int .i64 0, .int .i64 0, .int .i64 0] 34)).setCell ⟨w.heap.size, 0, none⟩ (.int .i64 (z : Int))).setCell ⟨w.heap.size, 1, none⟩ (.int .i64 (y : Int))).setCell ⟨w.heap.size, 2, none⟩ (.int .i64 (y3 : Int)))) := hide (((((below_drewN (Below.refl _ w) _).alloc (Nat.le_refl _) _).setCell (Nat.le_refl _) _).setCell (Nat.le_refl _) _).setCell (Nat.le_refl _) _)
    have K3 : Hid (Blk (((((w.drewN (nq + 1)).alloc (.cells #[.int .i64 0, .int .i64 0, .int .i64 0] 34)).setCell ⟨w.heap.size, 0, none⟩ (.int .i64 (z : Int))).setCell ⟨w.heap.size, 1, none⟩ (.int .i64 (y : Int))).setCell ⟨w.heap.size, 2, none⟩ (.int .i64 (y3 : Int))) w.heap.size #[.int .i64 (z : Int), .int .i64 (y : Int), .int .i64 (y3 : Int)] 34) := hide (by
      have := (((unhide (NB (nq + 1))).set 0 (.int .i64 (z : Int))).set 1 (.int .i64 (y : Int))).set 2 (.int .i64 (y3 : Int))
      simpa using this)
    generalize (((((w.drewN (nq + 1)).alloc (.cells #[.int .i64 0, .int .i64 0, .int .i64 0] 34)).setCell ⟨w.heap.size, 0, none⟩ (.int .i64 (z : Int))).setCell ⟨w.heap.size, 1, none⟩ (.int .i64 (y : Int))).setCell ⟨w.heap.size, 2, none⟩ (.int .i64 (y3 : Int))) = w3 at *
    have g0 := (unhide K3).cell 0 _ rfl
    have g1 := (unhide K3).cell 1 _ rfl
    have r0 := Blk.cell ((unhide HP).below (unhide B3)) 0 _ rfl
    clear n0 n1 n2 f0 f1 f2 NB e1 e2 e3 e4 e5 e6 e7 K3 x1 x2 x3 y0 c0 c1 c2 c3 HP
    have i4 : (y : Int) < (s.size : Int) := by omega
    by_cases e6 : z = 6
    · have j6 : ((z : Int) == 6) = true := by rw [e6]; rfl
      rw [if_pos e6] at HE
      clear e6
      go_wp2_with fail
      go_quiet (fail)
      go_wp2
      go_ret
      rw [unhide HE]
      exact ⟨rfl, below_drewN (unhide B3) _⟩
    · have j6 : ((z : Int) == 6) = false := beq_false_of_ne (by omega)
      rw [if_neg e6] at HE
      by_cases e7 : z = 7
      · have j7 : ((z : Int) == 7) = true := by rw [e7]; rfl
        rw [if_pos e7] at HE
        clear e6 e7
        go_wp2
        go_ret
        rw [unhide HE]
        exact ⟨rfl, unhide B3⟩
      · have j7 : ((z : Int) == 7) = false := beq_false_of_ne (by omega)
        rw [if_neg e7] at HE
        clear e6 e7
        go_wp2
        go_ret
        rw [unhide HE]
        exact ⟨rfl, unhide B3⟩
  · have E := hide (seeC_end (S := S) (i := i) (by omega))
    have i1 : (i : Int) ≥ (S.length : Int) := by omega
    have d1 : decide ((i : Int) ≥ (S.length : Int)) = true := decide_eq_true i1
    clear hp ht hd g hi
    go_enter Try.func27, Try.ntmps27
    go_wp2_with fail
    go_quiet (fail)
    go_wp2
    go_ret
    rw [unhide E]
    exact ⟨rfl, below_drewN (Below.refl _ _) _⟩
end Go.Proofs.Ytoikdjbgeebadaa.trees
/- The walks of the document's Parsing: what is wrong, a node. -/
set_option linter.unusedVariables false
namespace Go.Proofs.Ytoikdjbgeebadaa.trees
open Go.RowKit
open toks

set_option maxHeartbeats 1000000 in
set_option maxRecDepth 100000 in
theorem fault_none (w : World) (B : Nat) (s : ByteArray) (tv sv : Value) (i k : Nat) (er pl : Int) (he : er ≠ 0) (hp : Ps w B s tv sv i er pl) :
    Calls Try.prog 20 #[(.pointer (some ⟨B, 0, none⟩)), .int .i64 (k : Int)] w fun e w' => e = .returned (.tuple #[]) ∧ w' = w := by
  have c4 := Blk.cell hp 4 (.int .i64 er) rfl
  have j4 : (er == 0) = false := beq_false_of_ne he
  clear hp
  go_enter Try.func20, Try.ntmps20
  go_wp2
  go_end0
  exact ⟨rfl, rfl⟩
set_option maxHeartbeats 2000000 in
set_option maxRecDepth 100000 in
theorem fault_some (w : World) (B : Nat) (s : ByteArray) (a sa : Option Addr) (cap sc : Nat) (l : List Tk) (S : List Sym) (i k : Nat) (pl : Int) (hp : Ps w B s (.slice a l.length cap) (.slice sa S.length sc) i 0 pl) (ht : TkIn w B a l) (hd : SdIn w B sa S) (g : Signs s l S) (hi20 : i ≤ 20000) (hk : k ≤ 10) :
    Calls Try.prog 20 #[(.pointer (some ⟨B, 0, none⟩)), .int .i64 (k : Int)] w fun e w' => e = .returned (.tuple #[]) ∧ Ps w' B s (.slice a l.length cap) (.slice sa S.length sc) i (k : Int) (placeOf s l (S.drop i) : Int) ∧ w.grownBy w' (some B) := by
  have hz := g.g.size
  have hl := g.g.len
  have hS := g.len
  have hp1 := hp.err (k : Int)
  have hp2 := hp1.place (s.size : Int)
  have hg2 : w.grownBy ((w.setCell ⟨B, 4, none⟩ (.int .i64 (k : Int))).setCell ⟨B, 5, none⟩ (.int .i64 (s.size : Int))) (some B) := grown_trans (grown_set _ B 4 _) (grown_set _ B 5 _)
  have c0 := Blk.cell hp 0 _ rfl
  have c4 := Blk.cell hp 4 (.int .i64 0) rfl
  have f4 := Blk.froz hp 4
  have c5 := Blk.cell hp1 5 _ rfl
  have f5 := Blk.froz hp1 5
  have HP2 := hide hp2
  have HG2 := hide hg2
  by_cases hi : i < S.length
  · obtain ⟨hx, _, _⟩ := g.at' i hi
    have hne : S ≠ [] := fun e => by rw [e] at hi; simp at hi
    have hnl : l ≠ [] := fun e => by rw [e] at hx; simp at hx
    have EP : Hid (placeOf s l (S.drop i) = l[S[i].2].fro) := hide (by
      rw [List.drop_eq_getElem_cons hi]
      show (l.getD S[i].2 ⟨0, 0, 0⟩).fro = _
      rw [List.getD_eq_getElem?_getD, List.getElem?_eq_getElem hx]
      rfl)
    obtain ⟨b1, o1, rfl, hb1, q1⟩ := ht.grown hg2 hnl
    obtain ⟨b2, o2, rfl, hb2, q2⟩ := hd.grown hg2 hne
    have y0 := q2 i hi
    obtain ⟨_, x2, _⟩ := q1 _ hx
    have hf := g.g.fro _ hx
    have i2 : (i : Int) < (S.length : Int) := by omega
    clear hp hp1 hp2 hg2 ht hd g q1 q2
    generalize S[i].2 = m at *
    have i3 : (m : Int) < (l.length : Int) := by omega
    generalize l[m].fro = z at *
    go_enter Try.func20, Try.ntmps20
    go_wp2_with fail
    clear c0 c4 f4 c5 f5
    generalize ((w.setCell ⟨B, 4, none⟩ (.int .i64 (k : Int))).setCell ⟨B, 5, none⟩ (.int .i64 (s.size : Int))) = w1 at *
    have u1 := Blk.cell (unhide HP2) 1 _ rfl
    have u2 := Blk.cell (unhide HP2) 2 _ rfl
    have u3 := Blk.cell (unhide HP2) 3 _ rfl
    have u5 := Blk.cell (unhide HP2) 5 _ rfl
    have v5 := Blk.froz (unhide HP2) 5
    go_quiet (fail)
    go_wp2_with fail
    go_region
    have R : Hid (Ps ((w1.drewN (nq + 1)).setCell ⟨B, 5, none⟩ (.int .i64 (z : Int))) B s (.slice (some ⟨b1, o1, none⟩) l.length cap) (.slice (some ⟨b2, o2, none⟩) S.length sc) i (k : Int) (z : Int)) := hide (Ps.place (w := w1.drewN (nq + 1)) (unhide HP2) (z : Int))
    have G : Hid (w.grownBy ((w1.drewN (nq + 1)).setCell ⟨B, 5, none⟩ (.int .i64 (z : Int))) (some B)) := hide (grown_trans (grown_drewN (unhide HG2) (nq + 1)) (grown_set _ B 5 _))
    generalize ((w1.drewN (nq + 1)).setCell ⟨B, 5, none⟩ (.int .i64 (z : Int))) = w3 at *
    clear u1 u2 u3 u5 v5 x2 y0
    go_wp2
    go_end0
    rw [unhide EP]
    exact ⟨rfl, unhide R, unhide G⟩
  · have EP : Hid (placeOf s l (S.drop i) = s.size) := hide (by rw [List.drop_of_length_le (by omega)]; rfl)
    have i2 : ¬ (i : Int) < (S.length : Int) := by omega
    have d2 : decide ((i : Int) < (S.length : Int)) = false := decide_eq_false i2
    clear hp hp1 hp2 hg2 ht hd g
    go_enter Try.func20, Try.ntmps20
    go_wp2_with fail
    clear c0 c4 f4 c5 f5
    generalize ((w.setCell ⟨B, 4, none⟩ (.int .i64 (k : Int))).setCell ⟨B, 5, none⟩ (.int .i64 (s.size : Int))) = w1 at *
    have u2 := Blk.cell (unhide HP2) 2 _ rfl
    have u3 := Blk.cell (unhide HP2) 3 _ rfl
    go_quiet (fail)
    clear u2 u3
    go_wp2
    go_end0
    rw [unhide EP]
    exact ⟨rfl, Blk.below (unhide HP2) (below_drewN (Below.refl _ _) nq), grown_drewN (unhide HG2) nq⟩
set_option maxHeartbeats 2000000 in
set_option maxRecDepth 100000 in
theorem rnode_any (w : World) (B : Nat) (s : ByteArray) (tv : Value) (sa : Option Addr) (sc : Nat) (S : List Sym) (m : Nat) (er pl : Int) (kind fr : Nat) (p : Option Addr) (n c : Nat) (hp : Ps w B s tv (.slice sa S.length sc) (m + 1) er pl) (hd : SdIn w B sa S) (hS : S.length ≤ 20000) (hm : m < S.length) (hf : fr < S.length) (h2 : S[m].2 ≤ 20000) (hk : kind ≤ 6) :
    Calls Try.prog 28 #[(.pointer (some ⟨B, 0, none⟩)), .int .i64 (kind : Int), .int .i64 (fr : Int), .slice p n c] w fun e w' => e = .returned (.agg #[.int .i64 (kind : Int), .int .i64 (S[fr].2 : Int), .int .i64 ((S[m].2 : Int) + 1), .slice p n c]) ∧ Below w.heap.size w w' := by
  have hB := Blk.lt hp
  have hne : S ≠ [] := fun e => by rw [e] at hm; simp at hm
  have bz : Below w.heap.size w ((World.alloc w (.cells #[.int .i64 0, .int .i64 0, .int .i64 0, .slice none 0 0] 24))) := (Below.refl _ w).alloc (Nat.le_refl _) _
  obtain ⟨b2, o2, rfl, hb2, q2⟩ := hd.below bz hne
  have y0 := q2 fr hf
  have y1 := q2 m hm
  have c2 := Blk.cell (hp.below bz) 2 _ rfl
  have c3 := Blk.cell (hp.below bz) 3 (.int .i64 ((m : Int) + 1)) (by simp)
  have zb := blk_alloc w #[.int .i64 0, .int .i64 0, .int .i64 0, .slice none 0 0] 24
  obtain ⟨z0, z1, z2, z3⟩ := Blk.cells4 zb
  obtain ⟨v0, v1, v2, v3⟩ := Blk.froz4 zb
  have i1 : (fr : Int) < (S.length : Int) := by omega
  have i2 : (m : Int) < (S.length : Int) := by omega
  have ZB := hide zb
  have BZ := hide bz
  clear hp hd q2 zb bz hne hB
  generalize S[fr].2 = x0 at *
  generalize S[m].2 = x1 at *
  go_enter Try.func28, Try.ntmps28
  go_wp2_with fail
  generalize (World.alloc w (.cells #[.int .i64 0, .int .i64 0, .int .i64 0, .slice none 0 0] 24)) = w0 at *
  have FC := hide (cells4_drew (Blk.cells4 (put4_blk (unhide ZB) (.int .i64 (kind : Int)) (.int .i64 (x0 : Int)) (.int .i64 ((x1 : Int) + 1)) (.slice p n c))))
  have FB := hide (below_put4 (unhide BZ) (Nat.le_refl _) (.int .i64 (kind : Int)) (.int .i64 (x0 : Int)) (.int .i64 ((x1 : Int) + 1)) (.slice p n c)).drew
  go_region
  clear z0 z1 z2 z3 v0 v1 v2 v3 c2 c3 y0 y1
  go_wp2
  refine ret_cells (v := .agg #[.int .i64 (kind : Int), .int .i64 (x0 : Int), .int .i64 ((x1 : Int) + 1), .slice p n c]) (unhide FC) (fun wF hF => by obtain ⟨f0, f1, f2, f3⟩ := hF; simp [results, Try.results28, go_sem, f0, f1, f2, f3]) rfl ?_
  exact ⟨rfl, unhide FB⟩
end Go.Proofs.Ytoikdjbgeebadaa.trees
/- What the document's Parsing answers; what its loop keeps. -/
set_option linter.unusedVariables false
namespace Go.Proofs.Ytoikdjbgeebadaa.trees
open Go.RowKit
open toks

/-- What is answered: a node, or none and what is wrong. -/
def RRes (B : Nat) (s : ByteArray) (a sa : Option Addr) (cap sc : Nat) (l : List Tk) (S : List Sym) (f : Nat) (w : World) (q : R) (e : Ending) (w' : World) : Prop :=
  w.grownBy w' (some B) ∧
  match q with
  | .inl (c, te) => e = .returned (.agg #[.int .i64 0, .int .i64 0, .int .i64 0, .slice none 0 0]) ∧ ∃ i, i ≤ S.length ∧ Ps w' B s (.slice a l.length cap) (.slice sa S.length sc) i (c : Int) (placeOf s l te : Int)
  | .inr (t, r) => ∃ u0 u1 u2 u3, e = .returned (.agg #[u0, u1, u2, u3]) ∧ Lies (fun b => w.heap.size ≤ b) f w' [u0, u1, u2, u3] t ∧ ∃ i pl, i ≤ S.length ∧ r = S.drop i ∧ Ps w' B s (.slice a l.length cap) (.slice sa S.length sc) i 0 pl
theorem RRes.to {B : Nat} {s : ByteArray} {a sa : Option Addr} {cap sc : Nat} {l : List Tk} {S : List Sym} {f f' : Nat} {w : World} {q : R} {e : Ending} {w' : World} (hf : f ≤ f') (h : RRes B s a sa cap sc l S f w q e w') : RRes B s a sa cap sc l S f' w q e w' := by
  obtain ⟨hg, h⟩ := h
  refine ⟨hg, ?_⟩
  cases q with
  | inl er => exact h
  | inr tr =>
    obtain ⟨u0, u1, u2, u3, he, hL, hr⟩ := h
    exact ⟨u0, u1, u2, u3, he, hL.to hf, hr⟩
/-- A value ends with the last sign that was taken. -/
def LastOf (q : List Sym → R) : Prop := ∀ (S : List Sym) (i i' : Nat) (t : T), q (S.drop i) = .inr (t, S.drop i') → i' ≤ S.length → ∃ (m : Nat) (h : m < S.length), i' = m + 1 ∧ endT t = S[m].2 + 1
theorem pv_last (lv : Nat) : LastOf (pv lv) := by
  intro S i i' t h hi'
  obtain ⟨p, hp, e, h2⟩ := (pv_loc lv).good _ _ _ h
  have h3 := h2 []
  rw [List.append_nil] at h3
  obtain ⟨k, en, kl, x, y, rfl, _, hy, he, _⟩ := pv_ends h3
  have hpl := List.length_pos_iff.2 hp
  have hlen := congrArg List.length e
  rw [List.length_append, List.length_drop, List.length_drop] at hlen
  refine ⟨i' - 1, by omega, by omega, ?_⟩
  have hg : (S.drop i)[p.length - 1]? = some y := by
    rw [e, List.getElem?_append_left (by omega), ← List.getLast?_eq_getElem?]
    exact hy
  rw [List.getElem?_drop, show i + (p.length - 1) = i' - 1 by omega, List.getElem?_eq_getElem (by omega)] at hg
  injection hg with hg
  rw [hg]
  exact he
theorem drop_next {S : List Sym} {i : Nat} {x : Sym} {r : List Sym} (h : S.drop i = x :: r) : ∃ hi : i < S.length, x = S[i] ∧ r = S.drop (i + 1) := by
  have hi : i < S.length := by
    rcases Nat.lt_or_ge i S.length with h1 | h1
    · exact h1
    · rw [List.drop_of_length_le h1] at h
      cases h
  rw [List.drop_eq_getElem_cons hi] at h
  injection h with h1 h2
  exact ⟨hi, h1.symm, h2.symm⟩
theorem seeC_int {ts : List Sym} {m : UInt8} (h : seesB ts m = true) : seeC ts = m := by
  obtain ⟨x, r, rfl, hx⟩ := seesB_yes h
  exact hx
theorem seeC_no {ts : List Sym} {m : UInt8} (hm : m ≠ 0) (h : seesB ts m = false) : (((seeC ts).toNat : Int) == (m.toNat : Int)) = false := by
  refine b_ne m (fun e => ?_)
  have := seeC_sees (ts := ts) hm
  rw [h, e] at this
  simp at this
theorem seeC_no' {ts : List Sym} {m : UInt8} (hm : m ≠ 0) (h : seesB ts m = false) : (((seeC ts).toNat : Int) != (m.toNat : Int)) = true := by
  unfold bne
  rw [seeC_no hm h]
  rfl
theorem Signs.two {s : ByteArray} {l : List Tk} {S : List Sym} (g : Signs s l S) {j : Nat} (h : j < S.length) : S[j].2 ≤ 20000 := by
  obtain ⟨h1, _⟩ := g.at' j h
  have := g.g.len
  omega
/-- What holds at the head of the document's loop, as long as nothing is wrong. -/
structure DInv (w : World) (B : Nat) (s : ByteArray) (a sa : Option Addr) (cap sc : Nat) (l : List Tk) (S : List Sym) (f : Nat) (acc : List T) (vss : List (List Value)) (v : Value) (i : Nat) (pl : Int) (wr : World) : Prop where
  ps : Ps wr B s (.slice a l.length cap) (.slice sa S.length sc) i 0 pl
  zb : Blk wr w.heap.size #[.int .i64 0, .int .i64 0, .int .i64 0, .slice none 0 0] 24
  own : wr.ownsRow (w.heap.size + 1) 24 4 v acc.length vss.flatten
  kids : KidsIn (fun b => w.heap.size + 1 ≤ b ∧ some b ≠ v.ownBlock) f wr vss acc
  gr : w.grownBy wr (some B)
  lt : B < w.heap.size
/-- .. and once something is. -/
structure DBad (w : World) (B : Nat) (s : ByteArray) (a sa : Option Addr) (cap sc : Nat) (l : List Tk) (S : List Sym) (c : Nat) (te : List Sym) (i : Nat) (wr : World) : Prop where
  ps : Ps wr B s (.slice a l.length cap) (.slice sa S.length sc) i (c : Int) (placeOf s l te : Int)
  zb : Blk wr w.heap.size #[.int .i64 0, .int .i64 0, .int .i64 0, .slice none 0 0] 24
  gr : w.grownBy wr (some B)
  lt : B < w.heap.size
theorem DBad.on {w : World} {B : Nat} {s : ByteArray} {a sa : Option Addr} {cap sc : Nat} {l : List Tk} {S : List Sym} {c : Nat} {te : List Sym} {i i' : Nat} {wr wa : World} (h : DBad w B s a sa cap sc l S c te i wr) (hg : wr.grownBy wa (some B)) (hp : Ps wa B s (.slice a l.length cap) (.slice sa S.length sc) i' (c : Int) (placeOf s l te : Int)) : DBad w B s a sa cap sc l S c te i' wa := by
  have h1 := h.lt
  exact ⟨hp, Blk.grown h.zb hg (fun e => by injection e with e; omega), grown_trans h.gr hg, h1⟩
theorem DInv.on {w : World} {B : Nat} {s : ByteArray} {a sa : Option Addr} {cap sc : Nat} {l : List Tk} {S : List Sym} {f : Nat} {acc : List T} {vss : List (List Value)} {v : Value} {i i' : Nat} {pl pl' : Int} {wr wa : World} (h : DInv w B s a sa cap sc l S f acc vss v i pl wr) (hg : wr.grownBy wa (some B)) (hp : Ps wa B s (.slice a l.length cap) (.slice sa S.length sc) i' 0 pl') : DInv w B s a sa cap sc l S f acc vss v i' pl' wa := by
  have h1 := h.lt
  refine ⟨hp, Blk.grown h.zb hg (fun e => by injection e with e; omega), own_kept4 h.own hg (by omega), ?_, grown_trans h.gr hg, h1⟩
  exact h.kids.kept hg.size (fun b hb hlt => hg.block b hlt (fun e => by injection e with e; omega))
theorem DInv.below {w : World} {B : Nat} {s : ByteArray} {a sa : Option Addr} {cap sc : Nat} {l : List Tk} {S : List Sym} {f : Nat} {acc : List T} {vss : List (List Value)} {v : Value} {i : Nat} {pl : Int} {wr wa : World} (h : DInv w B s a sa cap sc l S f acc vss v i pl wr) (hb : Below wr.heap.size wr wa) : DInv w B s a sa cap sc l S f acc vss v i pl wa := h.on (grown_below hb) (h.ps.below hb)
theorem DInv.bad {w : World} {B : Nat} {s : ByteArray} {a sa : Option Addr} {cap sc : Nat} {l : List Tk} {S : List Sym} {f : Nat} {acc : List T} {vss : List (List Value)} {v : Value} {i i' : Nat} {pl : Int} {wr wa : World} {c : Nat} {te : List Sym} (h : DInv w B s a sa cap sc l S f acc vss v i pl wr) (hg : wr.grownBy wa (some B)) (hp : Ps wa B s (.slice a l.length cap) (.slice sa S.length sc) i' (c : Int) (placeOf s l te : Int)) : DBad w B s a sa cap sc l S c te i' wa := by
  have h1 := h.lt
  exact ⟨hp, Blk.grown h.zb hg (fun e => by injection e with e; omega), grown_trans h.gr hg, h1⟩
/-- One kid more. -/
theorem DInv.more {w : World} {B : Nat} {s : ByteArray} {a sa : Option Addr} {cap sc : Nat} {l : List Tk} {S : List Sym} {f : Nat} {acc : List T} {vss : List (List Value)} {v v' : Value} {i : Nat} {pl : Int} {wr wx : World} {t : T} {us : List Value} (h : DInv w B s a sa cap sc l S f acc vss v i pl wr)
    (hL : Lies (fun b => w.heap.size + 1 ≤ b ∧ some b ≠ v.ownBlock) f wr us t) (hown : wx.ownsRow (w.heap.size + 1) 24 4 v' (acc.length + 1) (vss.flatten ++ us)) (hg : wr.grownBy wx v.ownBlock) (hat : v'.ownBlock = v.ownBlock ∨ ∀ g, v'.ownBlock = some g → wr.heap.size ≤ g) :
    DInv w B s a sa cap sc l S f (acc ++ [t]) (vss ++ [us]) v' i pl wx := by
  have h1 := h.lt
  have nB := own_not4 h.own (show B < w.heap.size + 1 by omega)
  have nW := own_not4 h.own (show w.heap.size < w.heap.size + 1 by omega)
  refine ⟨Blk.grown h.ps hg nB, Blk.grown h.zb hg nW, ?_, ?_, ?_, h1⟩
  · have e : (acc ++ [t]).length = acc.length + 1 := by simp
    have e2 : (vss ++ [us]).flatten = vss.flatten ++ us := by simp
    rw [e, e2]
    exact hown
  · have hk : KidsIn (fun b => w.heap.size + 1 ≤ b ∧ some b ≠ v.ownBlock) f wr (vss ++ [us]) (acc ++ [t]) := h.kids.snoc hL
    have hk3 := hk.own.kept (w' := wx) hg.size (fun b hb hlt => hg.block b hlt hb.1.2)
    refine hk3.weaken fun b hb => ⟨hb.1.1, ?_⟩
    rcases hat with e | e
    · rw [e]; exact hb.1.2
    · intro e2
      have := e b e2.symm
      have := hb.2
      omega
  · exact ⟨hg.os.trans h.gr.os, hg.tape.trans h.gr.tape, hg.output.trans h.gr.output, Nat.le_trans h.gr.size hg.size, fun k hk hr => by
      rw [hg.block k (Nat.lt_of_lt_of_le hk h.gr.size) (fun e => by have := own_ge4 h.own k e.symm; omega)]
      exact h.gr.block k hk hr⟩
/-- The row was appended to, what is wrong stays. -/
theorem DBad.grow {w : World} {B : Nat} {s : ByteArray} {a sa : Option Addr} {cap sc : Nat} {l : List Tk} {S : List Sym} {c : Nat} {te : List Sym} {i n : Nat} {v : Value} {xs : List Value} {wr wx : World} (h : DBad w B s a sa cap sc l S c te i wr) (hown : wr.ownsRow (w.heap.size + 1) 24 4 v n xs) (hg : wr.grownBy wx v.ownBlock) : DBad w B s a sa cap sc l S c te i wx := by
  have h1 := h.lt
  refine ⟨Blk.grown h.ps hg (own_not4 hown (show B < w.heap.size + 1 by omega)), Blk.grown h.zb hg (own_not4 hown (show w.heap.size < w.heap.size + 1 by omega)), ?_, h1⟩
  exact ⟨hg.os.trans h.gr.os, hg.tape.trans h.gr.tape, hg.output.trans h.gr.output, Nat.le_trans h.gr.size hg.size, fun k hk hr => by
      rw [hg.block k (Nat.lt_of_lt_of_le hk h.gr.size) (fun e => by have := own_ge4 hown k e.symm; omega)]
      exact h.gr.block k hk hr⟩
/-- How much the loop has ahead of it. -/
def leftD (n B : Nat) (w : World) : Nat :=
  match w.cell? ⟨B, 4, none⟩, w.cell? ⟨B, 3, none⟩ with
  | some (.int _ er), some (.int _ i) => if er = 0 then n - i.toNat + 1 else 0
  | _, _ => 0
theorem leftD_eq {w : World} {B n : Nat} {s : ByteArray} {tv sv : Value} {i : Nat} {er pl : Int} (h : Ps w B s tv sv i er pl) : leftD n B w = if er = 0 then n - i + 1 else 0 := by
  unfold leftD
  rw [Blk.cell h 4 (.int .i64 er) rfl, Blk.cell h 3 (.int .i64 (i : Int)) rfl]
  simp
/-- The answers, in their block. -/
theorem rpass_bad {u w' : World} {B : Nat} {s : ByteArray} {a sa : Option Addr} {cap sc : Nat} {l : List Tk} {S : List Sym} {f i c : Nat} {te : List Sym} {x0 x1 x2 x3 : Value} (hB : B < u.heap.size) (hg : u.grownBy w' (some B)) (hz : Blk w' u.heap.size #[x0, x1, x2, x3] 24) (hi : i ≤ S.length) (hp : Ps w' B s (.slice a l.length cap) (.slice sa S.length sc) i (c : Int) (placeOf s l te : Int)) :
    RRes B s a sa cap sc l S f u (.inl (c, te)) (.returned (.agg #[.int .i64 0, .int .i64 0, .int .i64 0, .slice none 0 0])) (put4 w' u.heap.size (.int .i64 0) (.int .i64 0) (.int .i64 0) (.slice none 0 0)) ∧ Cells4 (put4 w' u.heap.size (.int .i64 0) (.int .i64 0) (.int .i64 0) (.slice none 0 0)) u.heap.size (.int .i64 0) (.int .i64 0) (.int .i64 0) (.slice none 0 0) :=
  ⟨⟨put4_grown hg (Nat.le_refl _) _ _ _ _, rfl, i, hi, put4_other hp (show B ≠ u.heap.size by omega) _ _ _ _⟩, Blk.cells4 (put4_blk hz _ _ _ _)⟩
theorem rpass_good {u w' : World} {B : Nat} {s : ByteArray} {a sa : Option Addr} {cap sc : Nat} {l : List Tk} {S : List Sym} {f i : Nat} {pl : Int} {t : T} {r : List Sym} {x0 x1 x2 x3 v0 v1 v2 v3 : Value} (hB : B < u.heap.size) (hg : u.grownBy w' (some B)) (hz : Blk w' u.heap.size #[x0, x1, x2, x3] 24) (hL : Lies (fun b => u.heap.size + 1 ≤ b) f w' [v0, v1, v2, v3] t) (hi : i ≤ S.length) (hr : r = S.drop i) (hp : Ps w' B s (.slice a l.length cap) (.slice sa S.length sc) i 0 pl) :
    RRes B s a sa cap sc l S f u (.inr (t, r)) (.returned (.agg #[v0, v1, v2, v3])) (put4 w' u.heap.size v0 v1 v2 v3) ∧ Cells4 (put4 w' u.heap.size v0 v1 v2 v3) u.heap.size v0 v1 v2 v3 := by
  refine ⟨⟨put4_grown hg (Nat.le_refl _) _ _ _ _, v0, v1, v2, v3, rfl, ?_, i, pl, hi, hr, put4_other hp (show B ≠ u.heap.size by omega) _ _ _ _⟩, Blk.cells4 (put4_blk hz _ _ _ _)⟩
  exact (put4_lies hL (fun b hb => by omega) _ _ _ _).weaken (fun b hb => by omega)
end Go.Proofs.Ytoikdjbgeebadaa.trees
/- The walk of the document's value: one way. -/
set_option linter.unusedVariables false
namespace Go.Proofs.Ytoikdjbgeebadaa.trees
open Go.RowKit
open toks

set_option maxHeartbeats 4000000 in
set_option maxRecDepth 100000 in
theorem rvalue_d (w : World) (B : Nat) (s : ByteArray) (a sa : Option Addr) (cap sc : Nat) (l : List Tk) (S : List Sym) (i lv f : Nat) (pl : Int) (dp : Int)
    (hp : Ps w B s (.slice a l.length cap) (.slice sa S.length sc) i 0 pl) (ht : TkIn w B a l) (hd : SdIn w B sa S) (g : Signs s l S) (hi : i ≤ S.length) (h1 : seesB (S.drop i) 123 = false) (h2 : seesB (S.drop i) 91 = false) (h3 : seesB (S.drop i) 120 = false) :
    Calls Try.prog 19 #[(.pointer (some ⟨B, 0, none⟩)), .int .i64 dp] w (RRes B s a sa cap sc l S f w (pv lv (S.drop i))) := by
  have hB := Blk.lt hp
  have hS := g.len
  have bz : Below w.heap.size w ((World.alloc w (.cells #[.int .i64 0, .int .i64 0, .int .i64 0, .slice none 0 0] 24))) := (Below.refl _ w).alloc (Nat.le_refl _) _
  have K1 : Hid _ := hide (rsees_any ((World.alloc w (.cells #[.int .i64 0, .int .i64 0, .int .i64 0, .slice none 0 0] 24))) B s a sa cap sc l S i 0 pl (hp.below bz) (ht.below bz) (hd.below bz) g (by omega))
  have HT := hide ht
  have HD := hide hd
  have HG := hide g
  have HB := hide hB
  have HP := hide (hp.below bz)
  have HZ := hide (blk_alloc w #[.int .i64 0, .int .i64 0, .int .i64 0, .slice none 0 0] 24)
  have HGZ := hide (grown_alloc (grown_refl w (some B)) (.cells #[.int .i64 0, .int .i64 0, .int .i64 0, .slice none 0 0] 24))
  have hz0 : ((World.alloc w (.cells #[.int .i64 0, .int .i64 0, .int .i64 0, .slice none 0 0] 24))).heap.size = w.heap.size + 1 := by simp
  have RES := hide (pv_bad (lv := lv) h1 h2 h3)
  have j1 : (((seeC (S.drop i)).toNat : Int) == 120) = false := seeC_no (by decide) h3
  have j2 : (((seeC (S.drop i)).toNat : Int) != 120) = true := seeC_no' (by decide) h3
  have j3 : (((seeC (S.drop i)).toNat : Int) == 123) = false := seeC_no (by decide) h1
  have j4 : (((seeC (S.drop i)).toNat : Int) != 123) = true := seeC_no' (by decide) h1
  have j5 : (((seeC (S.drop i)).toNat : Int) == 91) = false := seeC_no (by decide) h2
  have j6 : (((seeC (S.drop i)).toNat : Int) != 91) = true := seeC_no' (by decide) h2
  generalize ((seeC (S.drop i)).toNat : Int) = cz at *
  clear h1 h2 h3
  clear hp ht hd g hB bz
  suffices FIN : ∀ Post : Ending → World → Prop, Hid (∀ e w', RRes B s a sa cap sc l S f w (pv lv (S.drop i)) e w' → Post e w') → Calls Try.prog 19 #[(.pointer (some ⟨B, 0, none⟩)), .int .i64 dp] w Post from FIN _ (hide fun _ _ h => h)
  intro Post HPost
  go_enter Try.func19, Try.ntmps19
  go_wp2_with fail
  generalize (World.alloc w (.cells #[.int .i64 0, .int .i64 0, .int .i64 0, .slice none 0 0] 24)) = w0 at *
  refine (unhide K1).mono ?_
  rintro e w1 ⟨rfl, b1⟩
  dsimp only
  have KR := hide (fault_some w1 B s a sa cap sc l S i 4 pl ((unhide HP).below b1) ((unhide HT).grown (grown_trans (unhide HGZ) (grown_below b1))) ((unhide HD).grown (grown_trans (unhide HGZ) (grown_below b1))) (unhide HG) (by omega) (by decide))
  have HB1 := hide b1
  clear K1 b1
  go_wp2_with fail
  refine (unhide KR).mono ?_
  rintro e w2 ⟨rfl, rd2, g2⟩
  dsimp only
  have g2' := grown_trans (grown_below (unhide HB1)) g2
  have zb := Blk.grown (unhide HZ) g2' (fun e => by injection e with e; have := unhide HB; omega)
  obtain ⟨z0, z1, z2, z3⟩ := Blk.cells4 zb
  obtain ⟨y0, y1, y2, y3⟩ := Blk.froz4 zb
  have FE := hide (rpass_bad (f := f) (unhide HB) (grown_trans (unhide HGZ) g2') zb hi rd2)
  clear KR rd2 g2 g2' zb
  go_wp2
  obtain ⟨FE1, FC⟩ := unhide FE
  refine ret_put (v := (.agg #[.int .i64 0, .int .i64 0, .int .i64 0, .slice none 0 0])) FC (fun wF hF => by obtain ⟨f0, f1, f2, f3⟩ := hF; simp [results, Try.results19, go_sem, f0, f1, f2, f3]) rfl ?_
  refine unhide HPost _ _ ?_
  rw [unhide RES]
  exact FE1
end Go.Proofs.Ytoikdjbgeebadaa.trees
/- The walk of the document's value: one way. -/
set_option linter.unusedVariables false
namespace Go.Proofs.Ytoikdjbgeebadaa.trees
open Go.RowKit
open toks

set_option maxHeartbeats 4000000 in
set_option maxRecDepth 100000 in
theorem rvalue_za (w : World) (B : Nat) (s : ByteArray) (a sa : Option Addr) (cap sc : Nat) (l : List Tk) (S : List Sym) (i f : Nat) (pl : Int) 
    (hp : Ps w B s (.slice a l.length cap) (.slice sa S.length sc) i 0 pl) (ht : TkIn w B a l) (hd : SdIn w B sa S) (g : Signs s l S) (hi : i ≤ S.length) (hc : seesB (S.drop i) 123 = true) :
    Calls Try.prog 19 #[(.pointer (some ⟨B, 0, none⟩)), .int .i64 20] w (RRes B s a sa cap sc l S f w (pv 0 (S.drop i))) := by
  have hB := Blk.lt hp
  have hS := g.len
  have bz : Below w.heap.size w ((World.alloc w (.cells #[.int .i64 0, .int .i64 0, .int .i64 0, .slice none 0 0] 24))) := (Below.refl _ w).alloc (Nat.le_refl _) _
  have K1 : Hid _ := hide (rsees_any ((World.alloc w (.cells #[.int .i64 0, .int .i64 0, .int .i64 0, .slice none 0 0] 24))) B s a sa cap sc l S i 0 pl (hp.below bz) (ht.below bz) (hd.below bz) g (by omega))
  have HT := hide ht
  have HD := hide hd
  have HG := hide g
  have HB := hide hB
  have HP := hide (hp.below bz)
  have HZ := hide (blk_alloc w #[.int .i64 0, .int .i64 0, .int .i64 0, .slice none 0 0] 24)
  have HGZ := hide (grown_alloc (grown_refl w (some B)) (.cells #[.int .i64 0, .int .i64 0, .int .i64 0, .slice none 0 0] 24))
  have hz0 : ((World.alloc w (.cells #[.int .i64 0, .int .i64 0, .int .i64 0, .slice none 0 0] 24))).heap.size = w.heap.size + 1 := by simp
  have RES := hide (pv_deep (.inl hc))
  have jc : ((seeC (S.drop i)).toNat : Int) = 123 := by rw [seeC_int hc]; rfl
  rw [jc] at K1
  clear jc
  clear hc
  clear hp ht hd g hB bz
  suffices FIN : ∀ Post : Ending → World → Prop, Hid (∀ e w', RRes B s a sa cap sc l S f w (pv 0 (S.drop i)) e w' → Post e w') → Calls Try.prog 19 #[(.pointer (some ⟨B, 0, none⟩)), .int .i64 20] w Post from FIN _ (hide fun _ _ h => h)
  intro Post HPost
  go_enter Try.func19, Try.ntmps19
  go_wp2_with fail
  generalize (World.alloc w (.cells #[.int .i64 0, .int .i64 0, .int .i64 0, .slice none 0 0] 24)) = w0 at *
  refine (unhide K1).mono ?_
  rintro e w1 ⟨rfl, b1⟩
  dsimp only
  have KR := hide (fault_some w1 B s a sa cap sc l S i 5 pl ((unhide HP).below b1) ((unhide HT).grown (grown_trans (unhide HGZ) (grown_below b1))) ((unhide HD).grown (grown_trans (unhide HGZ) (grown_below b1))) (unhide HG) (by omega) (by decide))
  have HB1 := hide b1
  clear K1 b1
  go_wp2_with fail
  refine (unhide KR).mono ?_
  rintro e w2 ⟨rfl, rd2, g2⟩
  dsimp only
  have g2' := grown_trans (grown_below (unhide HB1)) g2
  have zb := Blk.grown (unhide HZ) g2' (fun e => by injection e with e; have := unhide HB; omega)
  obtain ⟨z0, z1, z2, z3⟩ := Blk.cells4 zb
  obtain ⟨y0, y1, y2, y3⟩ := Blk.froz4 zb
  have FE := hide (rpass_bad (f := f) (unhide HB) (grown_trans (unhide HGZ) g2') zb hi rd2)
  clear KR rd2 g2 g2' zb
  go_wp2
  obtain ⟨FE1, FC⟩ := unhide FE
  refine ret_put (v := (.agg #[.int .i64 0, .int .i64 0, .int .i64 0, .slice none 0 0])) FC (fun wF hF => by obtain ⟨f0, f1, f2, f3⟩ := hF; simp [results, Try.results19, go_sem, f0, f1, f2, f3]) rfl ?_
  refine unhide HPost _ _ ?_
  rw [unhide RES]
  exact FE1
set_option maxHeartbeats 4000000 in
set_option maxRecDepth 100000 in
theorem rvalue_zb (w : World) (B : Nat) (s : ByteArray) (a sa : Option Addr) (cap sc : Nat) (l : List Tk) (S : List Sym) (i f : Nat) (pl : Int) 
    (hp : Ps w B s (.slice a l.length cap) (.slice sa S.length sc) i 0 pl) (ht : TkIn w B a l) (hd : SdIn w B sa S) (g : Signs s l S) (hi : i ≤ S.length) (hc : seesB (S.drop i) 91 = true) :
    Calls Try.prog 19 #[(.pointer (some ⟨B, 0, none⟩)), .int .i64 20] w (RRes B s a sa cap sc l S f w (pv 0 (S.drop i))) := by
  have hB := Blk.lt hp
  have hS := g.len
  have bz : Below w.heap.size w ((World.alloc w (.cells #[.int .i64 0, .int .i64 0, .int .i64 0, .slice none 0 0] 24))) := (Below.refl _ w).alloc (Nat.le_refl _) _
  have K1 : Hid _ := hide (rsees_any ((World.alloc w (.cells #[.int .i64 0, .int .i64 0, .int .i64 0, .slice none 0 0] 24))) B s a sa cap sc l S i 0 pl (hp.below bz) (ht.below bz) (hd.below bz) g (by omega))
  have HT := hide ht
  have HD := hide hd
  have HG := hide g
  have HB := hide hB
  have HP := hide (hp.below bz)
  have HZ := hide (blk_alloc w #[.int .i64 0, .int .i64 0, .int .i64 0, .slice none 0 0] 24)
  have HGZ := hide (grown_alloc (grown_refl w (some B)) (.cells #[.int .i64 0, .int .i64 0, .int .i64 0, .slice none 0 0] 24))
  have hz0 : ((World.alloc w (.cells #[.int .i64 0, .int .i64 0, .int .i64 0, .slice none 0 0] 24))).heap.size = w.heap.size + 1 := by simp
  have RES := hide (pv_deep (.inr (.inl hc)))
  have jc : ((seeC (S.drop i)).toNat : Int) = 91 := by rw [seeC_int hc]; rfl
  rw [jc] at K1
  clear jc
  clear hc
  clear hp ht hd g hB bz
  suffices FIN : ∀ Post : Ending → World → Prop, Hid (∀ e w', RRes B s a sa cap sc l S f w (pv 0 (S.drop i)) e w' → Post e w') → Calls Try.prog 19 #[(.pointer (some ⟨B, 0, none⟩)), .int .i64 20] w Post from FIN _ (hide fun _ _ h => h)
  intro Post HPost
  go_enter Try.func19, Try.ntmps19
  go_wp2_with fail
  generalize (World.alloc w (.cells #[.int .i64 0, .int .i64 0, .int .i64 0, .slice none 0 0] 24)) = w0 at *
  refine (unhide K1).mono ?_
  rintro e w1 ⟨rfl, b1⟩
  dsimp only
  have KR := hide (fault_some w1 B s a sa cap sc l S i 5 pl ((unhide HP).below b1) ((unhide HT).grown (grown_trans (unhide HGZ) (grown_below b1))) ((unhide HD).grown (grown_trans (unhide HGZ) (grown_below b1))) (unhide HG) (by omega) (by decide))
  have HB1 := hide b1
  clear K1 b1
  go_wp2_with fail
  refine (unhide KR).mono ?_
  rintro e w2 ⟨rfl, rd2, g2⟩
  dsimp only
  have g2' := grown_trans (grown_below (unhide HB1)) g2
  have zb := Blk.grown (unhide HZ) g2' (fun e => by injection e with e; have := unhide HB; omega)
  obtain ⟨z0, z1, z2, z3⟩ := Blk.cells4 zb
  obtain ⟨y0, y1, y2, y3⟩ := Blk.froz4 zb
  have FE := hide (rpass_bad (f := f) (unhide HB) (grown_trans (unhide HGZ) g2') zb hi rd2)
  clear KR rd2 g2 g2' zb
  go_wp2
  obtain ⟨FE1, FC⟩ := unhide FE
  refine ret_put (v := (.agg #[.int .i64 0, .int .i64 0, .int .i64 0, .slice none 0 0])) FC (fun wF hF => by obtain ⟨f0, f1, f2, f3⟩ := hF; simp [results, Try.results19, go_sem, f0, f1, f2, f3]) rfl ?_
  refine unhide HPost _ _ ?_
  rw [unhide RES]
  exact FE1
set_option maxHeartbeats 4000000 in
set_option maxRecDepth 100000 in
theorem rvalue_zc (w : World) (B : Nat) (s : ByteArray) (a sa : Option Addr) (cap sc : Nat) (l : List Tk) (S : List Sym) (i f : Nat) (pl : Int) 
    (hp : Ps w B s (.slice a l.length cap) (.slice sa S.length sc) i 0 pl) (ht : TkIn w B a l) (hd : SdIn w B sa S) (g : Signs s l S) (hi : i ≤ S.length) (hc : seesB (S.drop i) 120 = true) :
    Calls Try.prog 19 #[(.pointer (some ⟨B, 0, none⟩)), .int .i64 20] w (RRes B s a sa cap sc l S f w (pv 0 (S.drop i))) := by
  have hB := Blk.lt hp
  have hS := g.len
  have bz : Below w.heap.size w ((World.alloc w (.cells #[.int .i64 0, .int .i64 0, .int .i64 0, .slice none 0 0] 24))) := (Below.refl _ w).alloc (Nat.le_refl _) _
  have K1 : Hid _ := hide (rsees_any ((World.alloc w (.cells #[.int .i64 0, .int .i64 0, .int .i64 0, .slice none 0 0] 24))) B s a sa cap sc l S i 0 pl (hp.below bz) (ht.below bz) (hd.below bz) g (by omega))
  have HT := hide ht
  have HD := hide hd
  have HG := hide g
  have HB := hide hB
  have HP := hide (hp.below bz)
  have HZ := hide (blk_alloc w #[.int .i64 0, .int .i64 0, .int .i64 0, .slice none 0 0] 24)
  have HGZ := hide (grown_alloc (grown_refl w (some B)) (.cells #[.int .i64 0, .int .i64 0, .int .i64 0, .slice none 0 0] 24))
  have hz0 : ((World.alloc w (.cells #[.int .i64 0, .int .i64 0, .int .i64 0, .slice none 0 0] 24))).heap.size = w.heap.size + 1 := by simp
  have RES := hide (pv_deep (.inr (.inr hc)))
  have jc : ((seeC (S.drop i)).toNat : Int) = 120 := by rw [seeC_int hc]; rfl
  rw [jc] at K1
  clear jc
  clear hc
  clear hp ht hd g hB bz
  suffices FIN : ∀ Post : Ending → World → Prop, Hid (∀ e w', RRes B s a sa cap sc l S f w (pv 0 (S.drop i)) e w' → Post e w') → Calls Try.prog 19 #[(.pointer (some ⟨B, 0, none⟩)), .int .i64 20] w Post from FIN _ (hide fun _ _ h => h)
  intro Post HPost
  go_enter Try.func19, Try.ntmps19
  go_wp2_with fail
  generalize (World.alloc w (.cells #[.int .i64 0, .int .i64 0, .int .i64 0, .slice none 0 0] 24)) = w0 at *
  refine (unhide K1).mono ?_
  rintro e w1 ⟨rfl, b1⟩
  dsimp only
  have KR := hide (fault_some w1 B s a sa cap sc l S i 5 pl ((unhide HP).below b1) ((unhide HT).grown (grown_trans (unhide HGZ) (grown_below b1))) ((unhide HD).grown (grown_trans (unhide HGZ) (grown_below b1))) (unhide HG) (by omega) (by decide))
  have HB1 := hide b1
  clear K1 b1
  go_wp2_with fail
  refine (unhide KR).mono ?_
  rintro e w2 ⟨rfl, rd2, g2⟩
  dsimp only
  have g2' := grown_trans (grown_below (unhide HB1)) g2
  have zb := Blk.grown (unhide HZ) g2' (fun e => by injection e with e; have := unhide HB; omega)
  obtain ⟨z0, z1, z2, z3⟩ := Blk.cells4 zb
  obtain ⟨y0, y1, y2, y3⟩ := Blk.froz4 zb
  have FE := hide (rpass_bad (f := f) (unhide HB) (grown_trans (unhide HGZ) g2') zb hi rd2)
  clear KR rd2 g2 g2' zb
  go_wp2
  obtain ⟨FE1, FC⟩ := unhide FE
  refine ret_put (v := (.agg #[.int .i64 0, .int .i64 0, .int .i64 0, .slice none 0 0])) FC (fun wF hF => by obtain ⟨f0, f1, f2, f3⟩ := hF; simp [results, Try.results19, go_sem, f0, f1, f2, f3]) rfl ?_
  refine unhide HPost _ _ ?_
  rw [unhide RES]
  exact FE1
end Go.Proofs.Ytoikdjbgeebadaa.trees
/- The walk of the document's value: one way. -/
set_option linter.unusedVariables false
namespace Go.Proofs.Ytoikdjbgeebadaa.trees
open Go.RowKit
open toks

set_option maxHeartbeats 4000000 in
set_option maxRecDepth 100000 in
theorem rvalue_x (w : World) (B : Nat) (s : ByteArray) (a sa : Option Addr) (cap sc : Nat) (l : List Tk) (S : List Sym) (i d lv : Nat) (pl : Int) (hd20 : d < 20)
    (hp : Ps w B s (.slice a l.length cap) (.slice sa S.length sc) i 0 pl) (ht : TkIn w B a l) (hd : SdIn w B sa S) (g : Signs s l S) (hi : i ≤ S.length) (hc : seesB (S.drop i) 120 = true) :
    Calls Try.prog 19 #[(.pointer (some ⟨B, 0, none⟩)), .int .i64 (d : Int)] w (RRes B s a sa cap sc l S (2 * lv + 2) w (pv (lv + 1) (S.drop i))) := by
  have hB := Blk.lt hp
  have hS := g.len
  have bz : Below w.heap.size w ((World.alloc w (.cells #[.int .i64 0, .int .i64 0, .int .i64 0, .slice none 0 0] 24))) := (Below.refl _ w).alloc (Nat.le_refl _) _
  have K1 : Hid _ := hide (rsees_any ((World.alloc w (.cells #[.int .i64 0, .int .i64 0, .int .i64 0, .slice none 0 0] 24))) B s a sa cap sc l S i 0 pl (hp.below bz) (ht.below bz) (hd.below bz) g (by omega))
  have HT := hide ht
  have HD := hide hd
  have HG := hide g
  have HB := hide hB
  have HP := hide (hp.below bz)
  have HZ := hide (blk_alloc w #[.int .i64 0, .int .i64 0, .int .i64 0, .slice none 0 0] 24)
  have HGZ := hide (grown_alloc (grown_refl w (some B)) (.cells #[.int .i64 0, .int .i64 0, .int .i64 0, .slice none 0 0] 24))
  have hz0 : ((World.alloc w (.cells #[.int .i64 0, .int .i64 0, .int .i64 0, .slice none 0 0] 24))).heap.size = w.heap.size + 1 := by simp
  obtain ⟨x, r, he, hx⟩ := seesB_yes hc
  obtain ⟨hil, hxs, hre⟩ := drop_next he
  have jc : ((seeC (S.drop i)).toNat : Int) = 120 := by rw [seeC_int hc]; rfl
  rw [jc] at K1
  have HX := hide hx
  have HXN : Hid (x.2 = S[i].2) := hide (by rw [hxs])
  have HRE := hide hre
  have HE := hide he
  have S2 := g.two hil
  have jd : ((d : Int) == 20) = false := beq_false_of_ne (by omega)
  clear jc hc hx hxs hre he
  clear hp ht hd g hB bz
  suffices FIN : ∀ Post : Ending → World → Prop, Hid (∀ e w', RRes B s a sa cap sc l S (2 * lv + 2) w (pv (lv + 1) (S.drop i)) e w' → Post e w') → Calls Try.prog 19 #[(.pointer (some ⟨B, 0, none⟩)), .int .i64 (d : Int)] w Post from FIN _ (hide fun _ _ h => h)
  intro Post HPost
  go_enter Try.func19, Try.ntmps19
  go_wp2_with fail
  generalize (World.alloc w (.cells #[.int .i64 0, .int .i64 0, .int .i64 0, .slice none 0 0] 24)) = w0 at *
  refine (unhide K1).mono ?_
  rintro e w1 ⟨rfl, b1⟩
  dsimp only
  have hp1 := (unhide HP).below b1
  have c3 := Blk.cell hp1 3 _ rfl
  have f3 := Blk.froz hp1 3
  have gs := grown_set w1 B 3 (.int .i64 ((i : Int) + 1))
  have hp2 := hp1.next ((i : Int) + 1) (i + 1) (by omega)
  have g2 := grown_trans (grown_below (r := some B) b1) gs
  have gw := grown_trans (unhide HGZ) g2
  have KN := hide (rnode_any _ B s (.slice a l.length cap) sa sc S i 0 pl 1 i none 0 0 hp2 ((unhide HD).grown gw) hS hil hil S2 (by decide))
  have HP2 := hide hp2
  have GW := hide gw
  have ZB := hide (Blk.grown (unhide HZ) g2 (fun e => by injection e with e; have := unhide HB; omega))
  clear K1 b1 hp1 hp2 gs g2 gw HP HZ
  go_wp2_with fail
  clear c3 f3
  generalize (w1.setCell ⟨B, 3, none⟩ (.int .i64 ((i : Int) + 1))) = w2 at *
  refine (unhide KN).mono ?_
  rintro e w3 ⟨rfl, b3⟩
  dsimp only
  generalize S[i].2 = xn at *
  have zb := (unhide ZB).below b3
  obtain ⟨z0, z1, z2, z3⟩ := Blk.cells4 zb
  obtain ⟨y0, y1, y2, y3⟩ := Blk.froz4 zb
  have LL := lies_leaf (fun b => w.heap.size + 1 ≤ b) (2 * lv + 1) w3 1 xn (xn + 1)
  rw [show ((xn + 1 : Nat) : Int) = (xn : Int) + 1 by omega] at LL
  have FE := hide (rpass_good (f := 2 * lv + 2) (unhide HB) (grown_trans (unhide GW) (grown_below b3)) zb LL (show i + 1 ≤ S.length from hil) rfl ((unhide HP2).below b3))
  have RES : Hid (pv (lv + 1) (S.drop i) = .inr (nd 1 xn (xn + 1) [], S.drop (i + 1))) := hide (by rw [unhide HE, pv_leaf (unhide HX), unhide HXN, unhide HRE])
  clear KN b3 zb LL
  go_wp2
  obtain ⟨FE1, FC⟩ := unhide FE
  refine ret_put (v := .agg #[.int .i64 1, .int .i64 (xn : Int), .int .i64 ((xn : Int) + 1), .slice none 0 0]) FC (fun wF hF => by obtain ⟨f0, f1, f2, f3⟩ := hF; simp [results, Try.results19, go_sem, f0, f1, f2, f3]) rfl ?_
  refine unhide HPost _ _ ?_
  rw [unhide RES]
  exact FE1
end Go.Proofs.Ytoikdjbgeebadaa.trees
/- The walk of the document's entry. -/
set_option linter.unusedVariables false
namespace Go.Proofs.Ytoikdjbgeebadaa.trees
open Go.RowKit
open toks

set_option maxHeartbeats 4000000 in
set_option maxRecDepth 100000 in
theorem rentry_any (w : World) (B : Nat) (s : ByteArray) (a sa : Option Addr) (cap sc : Nat) (l : List Tk) (S : List Sym) (i : Nat) (pl dp : Int) (q : List Sym → R) (f : Nat)
    (hp : Ps w B s (.slice a l.length cap) (.slice sa S.length sc) i 0 pl) (ht : TkIn w B a l) (hd : SdIn w B sa S) (g : Signs s l S) (hi : i ≤ S.length) (hql : Loc q) (hqe : LastOf q)
    (VAL : ∀ (u : World) (j : Nat) (pl : Int), Ps u B s (.slice a l.length cap) (.slice sa S.length sc) j 0 pl → TkIn u B a l → SdIn u B sa S → j ≤ S.length → Calls Try.prog 19 #[(.pointer (some ⟨B, 0, none⟩)), .int .i64 dp] u (RRes B s a sa cap sc l S f u (q (S.drop j)))) :
    Calls Try.prog 29 #[(.pointer (some ⟨B, 0, none⟩)), .int .i64 dp] w (RRes B s a sa cap sc l S (f + 1) w (entP q (S.drop i))) := by
  have hB := Blk.lt hp
  have hS := g.len
  have bz : Below w.heap.size w ((World.alloc w (.cells #[.int .i64 0, .int .i64 0, .int .i64 0, .slice none 0 0] 24))) := (Below.refl _ w).alloc (Nat.le_refl _) _
  have K1 : Hid _ := hide (rsees_any ((World.alloc w (.cells #[.int .i64 0, .int .i64 0, .int .i64 0, .slice none 0 0] 24))) B s a sa cap sc l S i 0 pl (hp.below bz) (ht.below bz) (hd.below bz) g (by omega))
  have HT := hide ht
  have HD := hide hd
  have HG := hide g
  have HV := hide VAL
  have HB := hide hB
  have HQL := hide hql
  have HQE := hide hqe
  have HP := hide (hp.below bz)
  have c3 := Blk.cell (hp.below bz) 3 _ rfl
  have HZ := hide (blk_alloc w #[.int .i64 0, .int .i64 0, .int .i64 0, .slice none 0 0] 24)
  have HGZ := hide (grown_alloc (grown_refl w (some B)) (.cells #[.int .i64 0, .int .i64 0, .int .i64 0, .slice none 0 0] 24))
  have hz0 : ((World.alloc w (.cells #[.int .i64 0, .int .i64 0, .int .i64 0, .slice none 0 0] 24))).heap.size = w.heap.size + 1 := by simp
  clear hp ht hd g VAL hB bz hql hqe
  suffices FIN : ∀ Post : Ending → World → Prop, Hid (∀ e w', RRes B s a sa cap sc l S (f + 1) w (entP q (S.drop i)) e w' → Post e w') → Calls Try.prog 29 #[(.pointer (some ⟨B, 0, none⟩)), .int .i64 dp] w Post from FIN _ (hide fun _ _ h => h)
  intro Post HPost
  go_enter Try.func29, Try.ntmps29
  go_wp2_with fail
  generalize (World.alloc w (.cells #[.int .i64 0, .int .i64 0, .int .i64 0, .slice none 0 0] 24)) = w0 at *
  clear c3
  cases h1 : seesB (S.drop i) 120 with
  | false =>
    have RES : Hid (entP q (S.drop i) = .inl (4, S.drop i)) := hide (ent_none h1)
    have j1 : (((seeC (S.drop i)).toNat : Int) == 120) = false := seeC_no (by decide) h1
    have j2 : (((seeC (S.drop i)).toNat : Int) != 120) = true := seeC_no' (by decide) h1
    clear h1
    generalize ((seeC (S.drop i)).toNat : Int) = cz at *
    refine (unhide K1).mono ?_
    rintro e w1 ⟨rfl, b1⟩
    dsimp only
    have KR := hide (fault_some w1 B s a sa cap sc l S i 4 pl ((unhide HP).below b1) ((unhide HT).grown (grown_trans (unhide HGZ) (grown_below b1))) ((unhide HD).grown (grown_trans (unhide HGZ) (grown_below b1))) (unhide HG) (by omega) (by decide))
    have HB1 := hide b1
    clear K1 b1
    go_wp2_with fail
    refine (unhide KR).mono ?_
    rintro e w2 ⟨rfl, rd2, g2⟩
    dsimp only
    have g2' := grown_trans (grown_below (unhide HB1)) g2
    have zb := Blk.grown (unhide HZ) g2' (fun e => by injection e with e; have := unhide HB; omega)
    obtain ⟨z0, z1, z2, z3⟩ := Blk.cells4 zb
    obtain ⟨y0, y1, y2, y3⟩ := Blk.froz4 zb
    have FE := hide (rpass_bad (f := f + 1) (unhide HB) (grown_trans (unhide HGZ) g2') zb hi rd2)
    clear KR rd2 g2 g2' zb
    go_wp2
    obtain ⟨FE1, FC⟩ := unhide FE
    refine ret_put (v := (.agg #[.int .i64 0, .int .i64 0, .int .i64 0, .slice none 0 0])) FC (fun wF hF => by obtain ⟨f0, f1, f2, f3⟩ := hF; simp [results, Try.results29, go_sem, f0, f1, f2, f3]) rfl ?_
    refine unhide HPost _ _ ?_
    rw [unhide RES]
    exact FE1
  | true =>
    obtain ⟨x, r, he, hx⟩ := seesB_yes h1
    obtain ⟨hil, hxs, hre⟩ := drop_next he
    have j1 : ((seeC (S.drop i)).toNat : Int) = 120 := by rw [seeC_int h1]; rfl
    rw [j1] at K1
    refine (unhide K1).mono ?_
    rintro e w1 ⟨rfl, b1⟩
    dsimp only
    have hp1 := (unhide HP).below b1
    have c3 := Blk.cell hp1 3 _ rfl
    have f3 := Blk.froz hp1 3
    have gs := grown_set w1 B 3 (.int .i64 ((i : Int) + 1))
    have hp2 := hp1.next ((i : Int) + 1) (i + 1) (by omega)
    have g2 := grown_trans (unhide HGZ) (grown_trans (grown_below b1) gs)
    have KN := hide (rnode_any _ B s (.slice a l.length cap) sa sc S i 0 pl 2 i none 0 0 hp2 ((unhide HD).grown g2) hS hil hil ((unhide HG).two hil) (by decide))
    have HP2 := hide hp2
    have G2 := hide (grown_trans (grown_below (r := some B) b1) gs)
    have HX := hide hx
    have HXS := hide hxs
    have HRE := hide hre
    have HE := hide he
    have S2 := (unhide HG).two hil
    clear K1 b1 h1 hx hxs hre he hp1 hp2 gs g2 HP j1
    go_wp2_with fail
    clear c3 f3
    generalize (w1.setCell ⟨B, 3, none⟩ (.int .i64 ((i : Int) + 1))) = w2 at *
    refine (unhide KN).mono ?_
    rintro e w3 ⟨rfl, b3⟩
    dsimp only
    have HXN : Hid (x.2 = S[i].2) := hide (by rw [← unhide HXS])
    obtain ⟨xn, hxn⟩ : ∃ xn, S[i].2 = xn := ⟨_, rfl⟩
    rw [hxn] at S2 HXN ⊢
    have HXI0 := hide hxn
    clear hxn
    have b4 := b3.alloc b3.size (.cells #[.int .i64 2, .int .i64 (xn : Int), .int .i64 ((xn : Int) + 1), .slice none 0 0] 24)
    have g4 := grown_trans (unhide G2) (grown_below (r := some B) b4)
    have hz3 : w.heap.size < w3.heap.size := by have := (grown_trans (unhide G2) (grown_below (r := some B) b3)).size; omega
    have zb := Blk.grown (unhide HZ) g4 (fun e => by injection e with e; have := unhide HB; omega)
    have I3 : EInv w B w3.heap.size xn (w3.alloc (.cells #[.int .i64 2, .int .i64 (xn : Int), .int .i64 ((xn : Int) + 1), .slice none 0 0] 24)) := ⟨zb, blk_alloc _ _ _, grown_trans (unhide HGZ) g4, unhide HB, hz3⟩
    have rd3 := (unhide HP2).below b4
    have K3 := hide (rsees_any _ B s a sa cap sc l S (i + 1) 0 pl rd3 ((unhide HT).grown I3.gr) ((unhide HD).grown I3.gr) (unhide HG) (by omega))
    have HI3 := hide I3
    have HRD3 := hide rd3
    clear KN b3 b4 g4 hz3 zb I3 rd3 HGZ HZ G2 HP2 HXS
    go_wp2_with fail
    generalize w3.alloc (.cells #[.int .i64 2, .int .i64 (xn : Int), .int .i64 ((xn : Int) + 1), .slice none 0 0] 24) = w4 at *
    generalize w3.heap.size = K at *
    cases h58 : seesB (S.drop (i + 1)) 58 with
    | true =>
      obtain ⟨m, r1, he2, hm⟩ := seesB_yes h58
      have HM : Hid (m.1 = 58 ∨ m.1 = 61) := hide (.inl hm)
      have j1 : ((seeC (S.drop (i + 1))).toNat : Int) = 58 := by rw [seeC_int h58]; rfl
      rw [j1] at K3
      clear h58 hm j1
      refine (unhide K3).mono ?_
      rintro e wq ⟨rfl, b4⟩
      dsimp only
      have Iq := hide ((unhide HI3).on (grown_below b4))
      have Rq := hide ((unhide HRD3).below b4)
      clear K3 b4 HI3 HRD3
      obtain ⟨hi4, hms, hr1⟩ := drop_next he2
      have c3 := Blk.cell (unhide Rq) 3 (.int .i64 ((i : Int) + 1)) (by simp)
      have f3 := Blk.froz (unhide Rq) 3
      have gs := grown_set wq B 3 (.int .i64 ((i : Int) + 1 + 1))
      have hp6 := (unhide Rq).next ((i : Int) + 1 + 1) (i + 1 + 1) (by omega)
      have I6 := hide ((unhide Iq).on gs)
      have KV := hide (unhide HV _ (i + 1 + 1) pl hp6 ((unhide HT).grown (unhide I6).gr) ((unhide HD).grown (unhide I6).gr) hi4)
      have HE2 := hide he2
      have HR1 := hide hr1
      clear hms hr1 he2 gs hp6 Iq Rq HV
      go_wp2_with fail
      clear c3 f3
      generalize (wq.setCell ⟨B, 3, none⟩ (.int .i64 ((i : Int) + 1 + 1))) = w6 at *
      cases hq : q (S.drop (i + 1 + 1)) with
      | inl er1 =>
        obtain ⟨c, te⟩ := er1
        have RES : Hid (entP q (S.drop i) = .inl (c, te)) := hide (by rw [unhide HE, unhide HRE, unhide HE2, unhide HR1]; exact ent_val_bad (unhide HX) (unhide HM) hq)
        obtain ⟨_, _, _, hc⟩ := (unhide HQL).bad _ _ _ hq
        have jc : ((c : Int) != 0) = true := by
          have : ((c : Int) == 0) = false := beq_false_of_ne (by omega)
          unfold bne
          rw [this]
          rfl
        have jc2 : ((c : Int) == 0) = false := beq_false_of_ne (by omega)
        have jc3 : ¬ c = 0 := by omega
        rw [hq] at KV
        clear hq hc
        refine (unhide KV).mono ?_
        rintro e w7 ⟨g7, rfl, ib, hib, rb⟩
        dsimp only
        have I7 := (unhide I6).on (grown_alloc g7 (.cells #[.int .i64 0, .int .i64 0, .int .i64 0, .slice none 0 0] 24))
        have rb7 : Ps ((World.alloc w7 (.cells #[.int .i64 0, .int .i64 0, .int .i64 0, .slice none 0 0] 24))) B s (.slice a l.length cap) (.slice sa S.length sc) ib _ _ := Blk.alloc rb _
        have c4 := Blk.cell rb7 4 (.int .i64 (c : Int)) rfl
        obtain ⟨z0, z1, z2, z3⟩ := Blk.cells4 I7.zb
        obtain ⟨y0, y1, y2, y3⟩ := Blk.froz4 I7.zb
        have FE := hide (rpass_bad (f := f + 1) (unhide HB) I7.gr I7.zb hib rb7)
        clear KV g7 rb I7 rb7 I6
        go_wp2
        obtain ⟨FE1, FC⟩ := unhide FE
        refine ret_put (v := (.agg #[.int .i64 0, .int .i64 0, .int .i64 0, .slice none 0 0])) FC (fun wF hF => by obtain ⟨f0, f1, f2, f3⟩ := hF; simp [results, Try.results29, go_sem, f0, f1, f2, f3]) rfl ?_
        refine unhide HPost _ _ ?_
        rw [unhide RES]
        exact FE1
      | inr tr =>
        obtain ⟨v, r2⟩ := tr
        have RES : Hid (entP q (S.drop i) = .inr (nd 4 x.2 (endT v) [nd 2 x.2 (x.2 + 1) [], v], r2)) := hide (by rw [unhide HE, unhide HRE, unhide HE2, unhide HR1]; exact ent_val_good (unhide HX) (unhide HM) hq)
        have HQ := hide hq
        rw [hq] at KV
        clear hq
        refine (unhide KV).mono ?_
        rintro e w7 ⟨g7, u0, u1, u2, u3, rfl, hL, ib, plb, hib, hr2, rb⟩
        dsimp only
        obtain ⟨k0, a0, e0, pk, nk, ck, rfl, rfl, rfl, rfl, he0, f', rfl⟩ := hL.form'
        obtain ⟨mm, hmm, hib2, hend⟩ := unhide HQE S (i + 1 + 1) ib v (by rw [unhide HQ, hr2]) hib
        subst hib2
        have b8 : Below w7.heap.size w7 (w7.alloc (.cells #[.int .i64 (k0 : Int), .int .i64 (a0 : Int), .int .i64 (e0 : Int), .slice pk nk ck] 24)) := (Below.refl _ w7).alloc (Nat.le_refl _) _
        have I7 := (unhide I6).on (grown_trans g7 (grown_below b8))
        obtain ⟨j0, j1, j2, j3⟩ := Blk.cells4 (blk_alloc w7 #[.int .i64 (k0 : Int), .int .i64 (a0 : Int), .int .i64 (e0 : Int), .slice pk nk ck] 24)
        obtain ⟨l0, l1, l2, l3⟩ := Blk.cells4 I7.kb
        have rb8 := rb.below b8
        have c4 := Blk.cell rb8 4 (.int .i64 0) rfl
        have b9 : Below (w7.alloc (.cells #[.int .i64 (k0 : Int), .int .i64 (a0 : Int), .int .i64 (e0 : Int), .slice pk nk ck] 24)).heap.size (w7.alloc (.cells #[.int .i64 (k0 : Int), .int .i64 (a0 : Int), .int .i64 (e0 : Int), .slice pk nk ck] 24)) ((w7.alloc (.cells #[.int .i64 (k0 : Int), .int .i64 (a0 : Int), .int .i64 (e0 : Int), .slice pk nk ck] 24)).alloc (.cells #[.int .i64 2, .int .i64 (xn : Int), .int .i64 ((xn : Int) + 1), .slice none 0 0, .int .i64 (k0 : Int), .int .i64 (a0 : Int), .int .i64 (e0 : Int), .slice pk nk ck] 24)) := (Below.refl _ _).alloc (Nat.le_refl _) _
        have I9 := I7.on (grown_below b9)
        have rb9 := rb8.below b9
        have KN := hide (rnode_any _ B s (.slice a l.length cap) sa sc S mm 0 plb 4 i (some ⟨w7.heap.size + 1, 0, none⟩) 2 2 rb9 ((unhide HD).grown I9.gr) hS hmm hil ((unhide HG).two hmm) (by decide))
        have bS := blk_alloc (w7.alloc (.cells #[.int .i64 (k0 : Int), .int .i64 (a0 : Int), .int .i64 (e0 : Int), .slice pk nk ck] 24)) #[.int .i64 2, .int .i64 (xn : Int), .int .i64 ((xn : Int) + 1), .slice none 0 0, .int .i64 (k0 : Int), .int .i64 (a0 : Int), .int .i64 (e0 : Int), .slice pk nk ck] 24
        have eS : (w7.alloc (.cells #[.int .i64 (k0 : Int), .int .i64 (a0 : Int), .int .i64 (e0 : Int), .slice pk nk ck] 24)).heap.size = w7.heap.size + 1 := by simp
        rw [eS] at bS
        have hL9 := (hL.below b8).below b9
        have hz6 := (unhide I6).gr.size
        have hzz := Blk.lt (unhide I6).zb
        have hs7 := g7.size
        have LP := hide (lies_pair (ok := fun b => w.heap.size + 1 ≤ b) (k := 4) (a := xn) (e := e0) bS (by omega) (hL9.weaken (fun b hb => by omega)))
        have HI9 := hide I9
        have RB9 := hide rb9
        have HEE : Hid (S[mm].2 + 1 = e0) := hide (by rw [← hend]; exact he0)
        have HR2 := hide hr2
        have HE0 := hide he0
        clear KV g7 rb hL I7 he0 I9 bS eS hL9 I6 rb8 rb9 b8 b9 hend hr2 hz6 hzz hs7
        have HXI := unhide HXI0
        rw [HXI] at KN
        clear HXI
        go_wp2_with fail
        refine (unhide KN).mono ?_
        rintro e wA ⟨rfl, bA⟩
        dsimp only
        have IA := (unhide HI9).on (grown_below bA)
        have rbA := (unhide RB9).below bA
        obtain ⟨z0, z1, z2, z3⟩ := Blk.cells4 IA.zb
        obtain ⟨y0, y1, y2, y3⟩ := Blk.froz4 IA.zb
        have LA := (unhide LP).below bA
        have ee : ((S[mm].2 : Int) + 1) = (e0 : Int) := by have := unhide HEE; omega
        rw [ee]
        have FE := hide (rpass_good (unhide HB) IA.gr IA.zb LA hib (unhide HR2) rbA)
        clear KN bA IA rbA LA ee
        go_wp2
        obtain ⟨FE1, FC⟩ := unhide FE
        refine ret_put (v := .agg #[.int .i64 4, .int .i64 (xn : Int), .int .i64 (e0 : Int), .slice (some ⟨w7.heap.size + 1, 0, none⟩) 2 2]) FC (fun wF hF => by obtain ⟨f0, f1, f2, f3⟩ := hF; simp [results, Try.results29, go_sem, f0, f1, f2, f3]) rfl ?_
        refine unhide HPost _ _ ?_
        rw [unhide RES, unhide HXN, unhide HE0]
        exact FE1
    | false =>
      cases h61 : seesB (S.drop (i + 1)) 61 with
      | true =>
        obtain ⟨m, r1, he2, hm⟩ := seesB_yes h61
        have HM : Hid (m.1 = 58 ∨ m.1 = 61) := hide (.inr hm)
        have j1 : ((seeC (S.drop (i + 1))).toNat : Int) = 61 := by rw [seeC_int h61]; rfl
        rw [j1] at K3
        clear h61 hm h58 j1
        refine (unhide K3).mono ?_
        rintro e wq ⟨rfl, b4⟩
        dsimp only
        have Iq := hide ((unhide HI3).on (grown_below b4))
        have Rq := hide ((unhide HRD3).below b4)
        clear K3 b4 HI3 HRD3
        obtain ⟨hi4, hms, hr1⟩ := drop_next he2
        have c3 := Blk.cell (unhide Rq) 3 (.int .i64 ((i : Int) + 1)) (by simp)
        have f3 := Blk.froz (unhide Rq) 3
        have gs := grown_set wq B 3 (.int .i64 ((i : Int) + 1 + 1))
        have hp6 := (unhide Rq).next ((i : Int) + 1 + 1) (i + 1 + 1) (by omega)
        have I6 := hide ((unhide Iq).on gs)
        have KV := hide (unhide HV _ (i + 1 + 1) pl hp6 ((unhide HT).grown (unhide I6).gr) ((unhide HD).grown (unhide I6).gr) hi4)
        have HE2 := hide he2
        have HR1 := hide hr1
        clear hms hr1 he2 gs hp6 Iq Rq HV
        go_wp2_with fail
        clear c3 f3
        generalize (wq.setCell ⟨B, 3, none⟩ (.int .i64 ((i : Int) + 1 + 1))) = w6 at *
        cases hq : q (S.drop (i + 1 + 1)) with
        | inl er1 =>
          obtain ⟨c, te⟩ := er1
          have RES : Hid (entP q (S.drop i) = .inl (c, te)) := hide (by rw [unhide HE, unhide HRE, unhide HE2, unhide HR1]; exact ent_val_bad (unhide HX) (unhide HM) hq)
          obtain ⟨_, _, _, hc⟩ := (unhide HQL).bad _ _ _ hq
          have jc : ((c : Int) != 0) = true := by
            have : ((c : Int) == 0) = false := beq_false_of_ne (by omega)
            unfold bne
            rw [this]
            rfl
          have jc2 : ((c : Int) == 0) = false := beq_false_of_ne (by omega)
          have jc3 : ¬ c = 0 := by omega
          rw [hq] at KV
          clear hq hc
          refine (unhide KV).mono ?_
          rintro e w7 ⟨g7, rfl, ib, hib, rb⟩
          dsimp only
          have I7 := (unhide I6).on (grown_alloc g7 (.cells #[.int .i64 0, .int .i64 0, .int .i64 0, .slice none 0 0] 24))
          have rb7 : Ps ((World.alloc w7 (.cells #[.int .i64 0, .int .i64 0, .int .i64 0, .slice none 0 0] 24))) B s (.slice a l.length cap) (.slice sa S.length sc) ib _ _ := Blk.alloc rb _
          have c4 := Blk.cell rb7 4 (.int .i64 (c : Int)) rfl
          obtain ⟨z0, z1, z2, z3⟩ := Blk.cells4 I7.zb
          obtain ⟨y0, y1, y2, y3⟩ := Blk.froz4 I7.zb
          have FE := hide (rpass_bad (f := f + 1) (unhide HB) I7.gr I7.zb hib rb7)
          clear KV g7 rb I7 rb7 I6
          go_wp2
          obtain ⟨FE1, FC⟩ := unhide FE
          refine ret_put (v := (.agg #[.int .i64 0, .int .i64 0, .int .i64 0, .slice none 0 0])) FC (fun wF hF => by obtain ⟨f0, f1, f2, f3⟩ := hF; simp [results, Try.results29, go_sem, f0, f1, f2, f3]) rfl ?_
          refine unhide HPost _ _ ?_
          rw [unhide RES]
          exact FE1
        | inr tr =>
          obtain ⟨v, r2⟩ := tr
          have RES : Hid (entP q (S.drop i) = .inr (nd 4 x.2 (endT v) [nd 2 x.2 (x.2 + 1) [], v], r2)) := hide (by rw [unhide HE, unhide HRE, unhide HE2, unhide HR1]; exact ent_val_good (unhide HX) (unhide HM) hq)
          have HQ := hide hq
          rw [hq] at KV
          clear hq
          refine (unhide KV).mono ?_
          rintro e w7 ⟨g7, u0, u1, u2, u3, rfl, hL, ib, plb, hib, hr2, rb⟩
          dsimp only
          obtain ⟨k0, a0, e0, pk, nk, ck, rfl, rfl, rfl, rfl, he0, f', rfl⟩ := hL.form'
          obtain ⟨mm, hmm, hib2, hend⟩ := unhide HQE S (i + 1 + 1) ib v (by rw [unhide HQ, hr2]) hib
          subst hib2
          have b8 : Below w7.heap.size w7 (w7.alloc (.cells #[.int .i64 (k0 : Int), .int .i64 (a0 : Int), .int .i64 (e0 : Int), .slice pk nk ck] 24)) := (Below.refl _ w7).alloc (Nat.le_refl _) _
          have I7 := (unhide I6).on (grown_trans g7 (grown_below b8))
          obtain ⟨j0, j1, j2, j3⟩ := Blk.cells4 (blk_alloc w7 #[.int .i64 (k0 : Int), .int .i64 (a0 : Int), .int .i64 (e0 : Int), .slice pk nk ck] 24)
          obtain ⟨l0, l1, l2, l3⟩ := Blk.cells4 I7.kb
          have rb8 := rb.below b8
          have c4 := Blk.cell rb8 4 (.int .i64 0) rfl
          have b9 : Below (w7.alloc (.cells #[.int .i64 (k0 : Int), .int .i64 (a0 : Int), .int .i64 (e0 : Int), .slice pk nk ck] 24)).heap.size (w7.alloc (.cells #[.int .i64 (k0 : Int), .int .i64 (a0 : Int), .int .i64 (e0 : Int), .slice pk nk ck] 24)) ((w7.alloc (.cells #[.int .i64 (k0 : Int), .int .i64 (a0 : Int), .int .i64 (e0 : Int), .slice pk nk ck] 24)).alloc (.cells #[.int .i64 2, .int .i64 (xn : Int), .int .i64 ((xn : Int) + 1), .slice none 0 0, .int .i64 (k0 : Int), .int .i64 (a0 : Int), .int .i64 (e0 : Int), .slice pk nk ck] 24)) := (Below.refl _ _).alloc (Nat.le_refl _) _
          have I9 := I7.on (grown_below b9)
          have rb9 := rb8.below b9
          have KN := hide (rnode_any _ B s (.slice a l.length cap) sa sc S mm 0 plb 4 i (some ⟨w7.heap.size + 1, 0, none⟩) 2 2 rb9 ((unhide HD).grown I9.gr) hS hmm hil ((unhide HG).two hmm) (by decide))
          have bS := blk_alloc (w7.alloc (.cells #[.int .i64 (k0 : Int), .int .i64 (a0 : Int), .int .i64 (e0 : Int), .slice pk nk ck] 24)) #[.int .i64 2, .int .i64 (xn : Int), .int .i64 ((xn : Int) + 1), .slice none 0 0, .int .i64 (k0 : Int), .int .i64 (a0 : Int), .int .i64 (e0 : Int), .slice pk nk ck] 24
          have eS : (w7.alloc (.cells #[.int .i64 (k0 : Int), .int .i64 (a0 : Int), .int .i64 (e0 : Int), .slice pk nk ck] 24)).heap.size = w7.heap.size + 1 := by simp
          rw [eS] at bS
          have hL9 := (hL.below b8).below b9
          have hz6 := (unhide I6).gr.size
          have hzz := Blk.lt (unhide I6).zb
          have hs7 := g7.size
          have LP := hide (lies_pair (ok := fun b => w.heap.size + 1 ≤ b) (k := 4) (a := xn) (e := e0) bS (by omega) (hL9.weaken (fun b hb => by omega)))
          have HI9 := hide I9
          have RB9 := hide rb9
          have HEE : Hid (S[mm].2 + 1 = e0) := hide (by rw [← hend]; exact he0)
          have HR2 := hide hr2
          have HE0 := hide he0
          clear KV g7 rb hL I7 he0 I9 bS eS hL9 I6 rb8 rb9 b8 b9 hend hr2 hz6 hzz hs7
          have HXI := unhide HXI0
          rw [HXI] at KN
          clear HXI
          go_wp2_with fail
          refine (unhide KN).mono ?_
          rintro e wA ⟨rfl, bA⟩
          dsimp only
          have IA := (unhide HI9).on (grown_below bA)
          have rbA := (unhide RB9).below bA
          obtain ⟨z0, z1, z2, z3⟩ := Blk.cells4 IA.zb
          obtain ⟨y0, y1, y2, y3⟩ := Blk.froz4 IA.zb
          have LA := (unhide LP).below bA
          have ee : ((S[mm].2 : Int) + 1) = (e0 : Int) := by have := unhide HEE; omega
          rw [ee]
          have FE := hide (rpass_good (unhide HB) IA.gr IA.zb LA hib (unhide HR2) rbA)
          clear KN bA IA rbA LA ee
          go_wp2
          obtain ⟨FE1, FC⟩ := unhide FE
          refine ret_put (v := .agg #[.int .i64 4, .int .i64 (xn : Int), .int .i64 (e0 : Int), .slice (some ⟨w7.heap.size + 1, 0, none⟩) 2 2]) FC (fun wF hF => by obtain ⟨f0, f1, f2, f3⟩ := hF; simp [results, Try.results29, go_sem, f0, f1, f2, f3]) rfl ?_
          refine unhide HPost _ _ ?_
          rw [unhide RES, unhide HXN, unhide HE0]
          exact FE1
      | false =>
        have RES : Hid (entP q (S.drop i) = .inl (4, S.drop (i + 1))) := hide (by rw [unhide HE, unhide HRE]; exact ent_key (unhide HX) h58 h61)
        have j1 : (((seeC (S.drop (i + 1))).toNat : Int) == 58) = false := seeC_no (by decide) h58
        have j2 : (((seeC (S.drop (i + 1))).toNat : Int) != 58) = true := seeC_no' (by decide) h58
        have j3 : (((seeC (S.drop (i + 1))).toNat : Int) == 61) = false := seeC_no (by decide) h61
        have j4 : (((seeC (S.drop (i + 1))).toNat : Int) != 61) = true := seeC_no' (by decide) h61
        clear h58 h61
        generalize ((seeC (S.drop (i + 1))).toNat : Int) = cz at *
        refine (unhide K3).mono ?_
        rintro e w5 ⟨rfl, b5⟩
        dsimp only
        have I5 := hide ((unhide HI3).on (grown_below b5))
        have KR := hide (fault_some w5 B s a sa cap sc l S (i + 1) 4 pl ((unhide HRD3).below b5) ((unhide HT).grown (unhide I5).gr) ((unhide HD).grown (unhide I5).gr) (unhide HG) (by omega) (by decide))
        clear K3 b5 HI3 HRD3
        go_wp2_with fail
        refine (unhide KR).mono ?_
        rintro e w6 ⟨rfl, rd6, g6⟩
        dsimp only
        have I6 := (unhide I5).on g6
        obtain ⟨z0, z1, z2, z3⟩ := Blk.cells4 I6.zb
        obtain ⟨y0, y1, y2, y3⟩ := Blk.froz4 I6.zb
        have FE := hide (rpass_bad (f := f + 1) (unhide HB) I6.gr I6.zb (show i + 1 ≤ S.length from hil) rd6)
        clear KR rd6 g6 I6 I5
        go_wp2
        obtain ⟨FE1, FC⟩ := unhide FE
        refine ret_put (v := (.agg #[.int .i64 0, .int .i64 0, .int .i64 0, .slice none 0 0])) FC (fun wF hF => by obtain ⟨f0, f1, f2, f3⟩ := hF; simp [results, Try.results29, go_sem, f0, f1, f2, f3]) rfl ?_
        refine unhide HPost _ _ ?_
        rw [unhide RES]
        exact FE1
end Go.Proofs.Ytoikdjbgeebadaa.trees
/- The walk of the document's value: one way. -/
set_option linter.unusedVariables false
namespace Go.Proofs.Ytoikdjbgeebadaa.trees
open Go.RowKit
open toks

set_option maxHeartbeats 4000000 in
set_option maxRecDepth 100000 in
theorem rvalue_a (w : World) (B : Nat) (s : ByteArray) (a sa : Option Addr) (cap sc : Nat) (l : List Tk) (S : List Sym) (i d lv : Nat) (pl : Int) (hd20 : d < 20) (VAL : ∀ (u : World) (j : Nat) (pl : Int), Ps u B s (.slice a l.length cap) (.slice sa S.length sc) j 0 pl → TkIn u B a l → SdIn u B sa S → j ≤ S.length → Calls Try.prog 19 #[(.pointer (some ⟨B, 0, none⟩)), .int .i64 ((d : Int) + 1)] u (RRes B s a sa cap sc l S (2 * lv) u (pv lv (S.drop j))))
    (hp : Ps w B s (.slice a l.length cap) (.slice sa S.length sc) i 0 pl) (ht : TkIn w B a l) (hd : SdIn w B sa S) (g : Signs s l S) (hi : i ≤ S.length) (hc : seesB (S.drop i) 123 = true) :
    Calls Try.prog 19 #[(.pointer (some ⟨B, 0, none⟩)), .int .i64 (d : Int)] w (RRes B s a sa cap sc l S (2 * lv + 2) w (pv (lv + 1) (S.drop i))) := by
  have hB := Blk.lt hp
  have hS := g.len
  have bz : Below w.heap.size w ((World.alloc w (.cells #[.int .i64 0, .int .i64 0, .int .i64 0, .slice none 0 0] 24))) := (Below.refl _ w).alloc (Nat.le_refl _) _
  have K1 : Hid _ := hide (rsees_any ((World.alloc w (.cells #[.int .i64 0, .int .i64 0, .int .i64 0, .slice none 0 0] 24))) B s a sa cap sc l S i 0 pl (hp.below bz) (ht.below bz) (hd.below bz) g (by omega))
  have HT := hide ht
  have HD := hide hd
  have HG := hide g
  have HB := hide hB
  have HP := hide (hp.below bz)
  have HZ := hide (blk_alloc w #[.int .i64 0, .int .i64 0, .int .i64 0, .slice none 0 0] 24)
  have HGZ := hide (grown_alloc (grown_refl w (some B)) (.cells #[.int .i64 0, .int .i64 0, .int .i64 0, .slice none 0 0] 24))
  have hz0 : ((World.alloc w (.cells #[.int .i64 0, .int .i64 0, .int .i64 0, .slice none 0 0] 24))).heap.size = w.heap.size + 1 := by simp
  obtain ⟨x, r, he, hx⟩ := seesB_yes hc
  obtain ⟨hil, hxs, hre⟩ := drop_next he
  have jc : ((seeC (S.drop i)).toNat : Int) = 123 := by rw [seeC_int hc]; rfl
  rw [jc] at K1
  have HX := hide hx
  have HXN : Hid (x.2 = S[i].2) := hide (by rw [hxs])
  have HRE := hide hre
  have HE := hide he
  have S2 := g.two hil
  have jd : ((d : Int) == 20) = false := beq_false_of_ne (by omega)
  clear jc hc hx hxs hre he
  have HVK : Hid (∀ (u : World) (j : Nat) (pl : Int), Ps u B s (.slice a l.length cap) (.slice sa S.length sc) j 0 pl → TkIn u B a l → SdIn u B sa S → j ≤ S.length → Calls Try.prog 29 #[(.pointer (some ⟨B, 0, none⟩)), .int .i64 ((d : Int) + 1)] u (RRes B s a sa cap sc l S (2 * lv + 1) u ((entP (pv lv)) (S.drop j)))) := hide (fun u j pl h1 h2 h3 h4 => rentry_any u B s a sa cap sc l S j pl ((d : Int) + 1) (pv lv) (2 * lv) h1 h2 h3 g h4 (pv_loc lv) (pv_last lv) VAL)
  clear VAL
  clear hp ht hd g hB bz
  suffices FIN : ∀ Post : Ending → World → Prop, Hid (∀ e w', RRes B s a sa cap sc l S (2 * lv + 2) w (pv (lv + 1) (S.drop i)) e w' → Post e w') → Calls Try.prog 19 #[(.pointer (some ⟨B, 0, none⟩)), .int .i64 (d : Int)] w Post from FIN _ (hide fun _ _ h => h)
  intro Post HPost
  go_enter Try.func19, Try.ntmps19
  go_wp2_with fail
  generalize (World.alloc w (.cells #[.int .i64 0, .int .i64 0, .int .i64 0, .slice none 0 0] 24)) = w0 at *
  refine (unhide K1).mono ?_
  rintro e w1 ⟨rfl, b1⟩
  dsimp only
  have hp1 := (unhide HP).below b1
  have c3 := Blk.cell hp1 3 _ rfl
  have f3 := Blk.froz hp1 3
  have gs := grown_set w1 B 3 (.int .i64 ((i : Int) + 1))
  have hp2 := hp1.next ((i : Int) + 1) (i + 1) (by omega)
  have g2 := grown_trans (grown_below (r := some B) b1) gs
  have gw := grown_trans (unhide HGZ) g2
  have hlt := unhide HB
  have I0 : Hid (DInv w B s a sa cap sc l S (2 * lv + 1) [] [] (.slice none 0 0) (i + 1) pl (w1.setCell ⟨B, 3, none⟩ (.int .i64 ((i : Int) + 1)))) := hide ⟨hp2, Blk.grown (unhide HZ) g2 (fun e => by injection e with e; omega), World.ownsRow_nil _ _ _ _, kidsIn_nil _ _ _, gw, hlt⟩
  have RES0 : Hid (pv (lv + 1) (S.drop i) = loopP (entP (pv lv)) 125 3 S[i].2 ((S.drop (i + 1)).length + 1) [] (S.drop (i + 1))) := hide (by rw [unhide HE, pv_table (unhide HX), unhide HXN, unhide HRE])
  have HL : Hid (Loc (entP (pv lv))) := hide (ent_loc (pv_loc lv))
  have hq0 : (entP (pv lv)) [] = .inl (4, []) := rfl
  clear K1 b1 hp1 hp2 gs g2 gw HP HZ HGZ hz0 hlt HX HXN HRE HE
  go_wp2_with fail
  clear c3 f3
  generalize (w1.setCell ⟨B, 3, none⟩ (.int .i64 ((i : Int) + 1))) = w2 at *
  clear w1 w0
  generalize (entP (pv lv)) = q at *
  have HV := HVK
  clear HVK
  go_loopw [9] (fun v wr => (∃ (acc : List T) (vss : List (List Value)) (j : Nat) (pl : Int) (F : Nat), j ≤ S.length ∧ (S.drop j).length < F ∧ acc.length + (S.length - j) ≤ S.length ∧ Hid (loopP q 125 3 S[i].2 F acc (S.drop j) = loopP q 125 3 S[i].2 ((S.drop (i + 1)).length + 1) [] (S.drop (i + 1))) ∧ Hid (DInv w B s a sa cap sc l S (2 * lv + 1) acc vss v j pl wr)) ∨ (∃ (p : Option Addr) (n c' c : Nat) (te : List Sym) (j : Nat), v = .slice p n c' ∧ j ≤ S.length ∧ c ≠ 0 ∧ Hid (loopP q 125 3 S[i].2 ((S.drop (i + 1)).length + 1) [] (S.drop (i + 1)) = .inl (c, te)) ∧ Hid (DBad w B s a sa cap sc l S c te j wr))) (fun _ wr => leftD S.length B wr)
  case atStart => exact .inl ⟨[], [], i + 1, pl, _, hil, Nat.lt_succ_self _, by simp, hide rfl, I0⟩
  case round =>
    rcases hrel with ⟨acc, vss, j, pl1, F, hj, hF, hA, HEQ, HI⟩ | ⟨pv0, nv0, cv0, c, te, j, rfl, hj, hc, RES, HI⟩
    · obtain ⟨pv0, nv0, cv0, rfl⟩ := own_slice (unhide HI).own
      have HLW : Hid (leftD S.length B wr = S.length - j + 1) := hide (by rw [leftD_eq (unhide HI).ps, if_pos rfl])
      have c4 := Blk.cell (unhide HI).ps 4 (.int .i64 0) rfl
      have KS : Hid _ := hide (rsees_any wr B s a sa cap sc l S j 0 pl1 (unhide HI).ps ((unhide HT).grown (unhide HI).gr) ((unhide HD).grown (unhide HI).gr) (unhide HG) (by omega))
      cases hse : seesB (S.drop j) 125 with
      | true =>
        obtain ⟨x1, r1, he1, hx1⟩ := seesB_yes hse
        obtain ⟨hjl, hx1s, hre1⟩ := drop_next he1
        have jc : ((seeC (S.drop j)).toNat : Int) = 125 := by rw [seeC_int hse]; rfl
        have RES : Hid (pv (lv + 1) (S.drop i) = .inr (nd 3 S[i].2 (S[j].2 + 1) acc, S.drop (j + 1))) := hide (by rw [unhide RES0, ← unhide HEQ, he1, loop_end hx1 (by rw [← he1]; exact hF), hx1s, hre1])
        rw [jc] at KS
        clear jc hse HEQ he1 hx1 hx1s hre1 HV HL hF
        go_wp2_with fail
        refine (unhide KS).mono ?_
        rintro e wa ⟨rfl, ba⟩
        dsimp only
        have I1 := (unhide HI).below ba
        have c3 := Blk.cell I1.ps 3 _ rfl
        have f3 := Blk.froz I1.ps 3
        have gs := grown_set wa B 3 (.int .i64 ((j : Int) + 1))
        have ps2 := I1.ps.next ((j : Int) + 1) (j + 1) (by omega)
        have I2 := I1.on gs ps2
        have KN := hide (rnode_any _ B s (.slice a l.length cap) sa sc S j 0 pl1 3 i pv0 nv0 cv0 I2.ps ((unhide HD).grown I2.gr) hS hjl hil ((unhide HG).two hjl) (by decide))
        have HI2 := hide I2
        clear KS ba I1 gs ps2 I2 HI c4
        go_wp2_with fail
        clear c3 f3
        generalize (wa.setCell ⟨B, 3, none⟩ (.int .i64 ((j : Int) + 1))) = w3 at *
        refine (unhide KN).mono ?_
        rintro e w4 ⟨rfl, b4⟩
        dsimp only
        have I4 := (unhide HI2).below b4
        obtain ⟨z0, z1, z2, z3⟩ := Blk.cells4 I4.zb
        obtain ⟨y0, y1, y2, y3⟩ := Blk.froz4 I4.zb
        have LO := lies_own (k := 3) (a := S[i].2) (e := S[j].2 + 1) (I4.kids.weaken (ok' := fun b => w.heap.size + 1 ≤ b) (fun b hb => hb.1)) I4.own (fun b hb => hb)
        rw [show ((S[j].2 + 1 : Nat) : Int) = (S[j].2 : Int) + 1 by omega] at LO
        have FE := hide (rpass_good (unhide HB) I4.gr I4.zb LO (show j + 1 ≤ S.length from hjl) rfl I4.ps)
        clear KN b4 I4 LO HI2
        generalize S[i].2 = xn at *
        generalize S[j].2 = yn at *
        go_wp2
        obtain ⟨FE1, FC⟩ := unhide FE
        refine ret_put (v := .agg #[.int .i64 3, .int .i64 (xn : Int), .int .i64 ((yn : Int) + 1), .slice pv0 nv0 cv0]) FC (fun wF hF => by obtain ⟨f0, f1, f2, f3⟩ := hF; simp [results, Try.results19, go_sem, f0, f1, f2, f3]) rfl ?_
        refine unhide HPost _ _ ?_
        rw [unhide RES]
        exact FE1
      | false =>
        have je : (((seeC (S.drop j)).toNat : Int) == 125) = false := seeC_no (by decide) hse
        have HSE := hide hse
        clear hse
        generalize ((seeC (S.drop j)).toNat : Int) = cz at *
        go_wp2_with fail
        refine (unhide KS).mono ?_
        rintro e wa ⟨rfl, ba⟩
        dsimp only
        have I1 := (unhide HI).below ba
        have KK := hide (unhide HV wa j pl1 I1.ps ((unhide HT).grown I1.gr) ((unhide HD).grown I1.gr) hj)
        have HI1 := hide I1
        clear KS ba I1 HI HV c4
        obtain ⟨i0, hinf, hz0', hz1, hz2⟩ := info_parts infoNode
        cases hq : q (S.drop j) with
        | inl er1 =>
          obtain ⟨c, te⟩ := er1
          have RES : Hid (loopP q 125 3 S[i].2 ((S.drop (i + 1)).length + 1) [] (S.drop (i + 1)) = .inl (c, te)) := hide (by rw [← unhide HEQ]; exact loop_kid_bad (unhide HSE) hq0 hq hF)
          obtain ⟨_, _, _, hcc⟩ := (unhide HL).bad _ _ _ hq
          have hc : c ≠ 0 := by omega
          rw [hq] at KK
          clear hq hcc HEQ HSE HL
          go_wp2_with fail
          refine (unhide KK).mono ?_
          rintro e wb ⟨hgb, rfl, ib, hib, rb⟩
          dsimp only
          have Db := (unhide HI1).bad hgb rb
          have hownb := own_kept4 (unhide HI1).own hgb (by have := (unhide HI1).lt; omega)
          have hsb : w.heap.size < wb.heap.size := Blk.lt Db.zb
          have Db2 := Db.on (grown_below ((Below.refl _ wb).alloc (Nat.le_refl _) (.cells #[.int .i64 0, .int .i64 0, .int .i64 0, .slice none 0 0] 24))) (Blk.alloc Db.ps _)
          have HDb := hide Db2
          clear KK hgb rb Db Db2 HI1
          go_wp2_with (at_builtin; refine wpList_append_lies _ rfl _ _ 22 rfl (w.heap.size + 1) 24 i0 (.agg #[.int .i64 0, .int .i64 0, .int .i64 0, .slice none 0 0]) 4 48 Try.underlying22 hinf hz0' hz1 hz2 rfl (by decide) _ _ _ rfl (hownb.alloc _) ⟨wb.heap.size, 0, none⟩ 1 1 [.int .i64 0, .int .i64 0, .int .i64 0, .slice none 0 0] rfl rfl ?c1 ?c2 ?c3 ?c4 ?c5 ?c6 (wb.heap.size + 1) ?c7 ?_)
          case c1 => exact cell_four_new wb _ _ _ _ 24
          case c2 => intro u hu; simp at hu; rcases hu with rfl | rfl <;> rfl
          case c3 => decide
          case c4 => unfold maxLen; omega
          case c5 => omega
          case c6 => simp; omega
          case c7 => simp
          intro g cap' wx hown2 hg2 hat hlt2
          have Dx := (unhide HDb).grow (hownb.alloc _) hg2
          have KS2 := hide (rsees_any wx B s a sa cap sc l S ib (c : Int) _ Dx.ps ((unhide HT).grown Dx.gr) ((unhide HD).grown Dx.gr) (unhide HG) (by omega))
          have HDx := hide Dx
          clear hown2 hg2 hat hlt2 Dx HDb hownb hinf hz0' hz1 hz2 i0 hsb
          cases h44 : seesB (S.drop ib) 44 with
          | true =>
            obtain ⟨x1, r1, he1, _⟩ := seesB_yes h44
            obtain ⟨hibl, _, _⟩ := drop_next he1
            have jc : ((seeC (S.drop ib)).toNat : Int) = 44 := by rw [seeC_int h44]; rfl
            rw [jc] at KS2
            clear jc h44 he1
            go_wp2_with fail
            refine (unhide KS2).mono ?_
            rintro e w6 ⟨rfl, b6⟩
            dsimp only
            have D6 := (unhide HDx).on (grown_below b6) ((unhide HDx).ps.below b6)
            have c3 := Blk.cell D6.ps 3 _ rfl
            have f3 := Blk.froz D6.ps 3
            have D7 := hide (D6.on (grown_set w6 B 3 (.int .i64 ((ib : Int) + 1))) (D6.ps.next ((ib : Int) + 1) (ib + 1) (by omega)))
            have EM := hide (leftD_eq (n := S.length) (unhide D7).ps)
            clear KS2 b6 D6 HDx
            go_wp2
            go_roundw
            case rel => exact .inr ⟨_, _, _, c, te, ib + 1, rfl, hibl, hc, RES, D7⟩
            case measure => rw [unhide HLW, unhide EM, if_neg (by omega)]; omega
          | false =>
            have j44 : (((seeC (S.drop ib)).toNat : Int) == 44) = false := seeC_no (by decide) h44
            clear h44
            cases hec : seesB (S.drop ib) 125 with
            | true =>
              have jc : ((seeC (S.drop ib)).toNat : Int) = 125 := by rw [seeC_int hec]; rfl
              rw [jc] at KS2 j44
              clear hec
              go_wp2_with fail
              refine (unhide KS2).mono ?_
              rintro e w6 ⟨rfl, b6⟩
              dsimp only
              have D6 := hide ((unhide HDx).on (grown_below b6) ((unhide HDx).ps.below b6))
              have KS3 := hide (rsees_any w6 B s a sa cap sc l S ib (c : Int) _ (unhide D6).ps ((unhide HT).grown (unhide D6).gr) ((unhide HD).grown (unhide D6).gr) (unhide HG) (by omega))
              rw [jc] at KS3
              clear KS2 b6 HDx jc
              go_wp2_with fail
              refine (unhide KS3).mono ?_
              rintro e w7 ⟨rfl, b7⟩
              dsimp only
              have D7 := hide ((unhide D6).on (grown_below b7) ((unhide D6).ps.below b7))
              have EM := hide (leftD_eq (n := S.length) (unhide D7).ps)
              clear KS3 b7 D6
              go_wp2
              go_roundw
              case rel => exact .inr ⟨_, _, _, c, te, ib, rfl, hib, hc, RES, D7⟩
              case measure => rw [unhide HLW, unhide EM, if_neg (by omega)]; omega
            | false =>
              have jec : (((seeC (S.drop ib)).toNat : Int) != 125) = true := seeC_no' (by decide) hec
              have jec2 : (((seeC (S.drop ib)).toNat : Int) == 125) = false := seeC_no (by decide) hec
              have KS3 : ∀ u, Hid (DBad w B s a sa cap sc l S c te ib u) → Hid _ := fun u hu => hide (rsees_any u B s a sa cap sc l S ib (c : Int) _ (unhide hu).ps ((unhide HT).grown (unhide hu).gr) ((unhide HD).grown (unhide hu).gr) (unhide HG) (by omega))
              clear hec
              generalize ((seeC (S.drop ib)).toNat : Int) = cy at *
              go_wp2_with fail
              refine (unhide KS2).mono ?_
              rintro e w6 ⟨rfl, b6⟩
              dsimp only
              have D6 := hide ((unhide HDx).on (grown_below b6) ((unhide HDx).ps.below b6))
              have KS3a := KS3 w6 D6
              clear KS2 b6 HDx KS3
              go_wp2_with fail
              refine (unhide KS3a).mono ?_
              rintro e w7 ⟨rfl, b7⟩
              dsimp only
              have D7 := hide ((unhide D6).on (grown_below b7) ((unhide D6).ps.below b7))
              have KF := hide (fault_none w7 B s _ _ ib 4 (c : Int) _ (by omega) (unhide D7).ps)
              have EM := hide (leftD_eq (n := S.length) (unhide D7).ps)
              clear KS3a b7 D6
              go_wp2_with fail
              refine (unhide KF).mono ?_
              rintro e w8 ⟨rfl, hw8⟩
              rw [hw8]
              dsimp only
              clear KF hw8
              go_wp2
              go_roundw
              case rel => exact .inr ⟨_, _, _, c, te, ib, rfl, hib, hc, RES, D7⟩
              case measure => rw [unhide HLW, unhide EM, if_neg (by omega)]; omega
        | inr tr =>
          obtain ⟨t, rest⟩ := tr
          have hless := loc_less (unhide HL) hq
          have HQ := hide hq
          rw [hq] at KK
          clear hq HL
          go_wp2_with fail
          refine (unhide KK).mono ?_
          rintro e wb ⟨hgb, u0, u1, u2, u3, rfl, hL, ib, plb, hib, hr2, rb⟩
          dsimp only
          subst hr2
          obtain ⟨k0, a0, e0, pk, nk, ck, rfl, rfl, rfl, rfl⟩ := hL.form
          have Ib := (unhide HI1).on hgb rb
          have hsb : w.heap.size < wb.heap.size := Blk.lt Ib.zb
          have hownb := Ib.own
          have ba : Below wb.heap.size wb (wb.alloc (.cells #[.int .i64 (k0 : Int), .int .i64 (a0 : Int), .int .i64 (e0 : Int), .slice pk nk ck] 24)) := (Below.refl _ wb).alloc (Nat.le_refl _) _
          have hLb := hide ((hL.weaken (ok' := fun b => w.heap.size + 1 ≤ b ∧ some b ≠ (Value.slice pv0 nv0 cv0).ownBlock) (fun b hb => ⟨by have := Blk.lt (unhide HI1).zb; omega, fun e => by have := ((unhide HI1).own.lt b e.symm).2; omega⟩)).below ba)
          have HIb := hide (Ib.below ba)
          rw [List.length_drop, List.length_drop] at hless
          rw [List.length_drop] at hF
          clear KK hgb rb hL Ib ba HI1
          go_wp2_with (at_builtin; refine wpList_append_lies _ rfl _ _ 22 rfl (w.heap.size + 1) 24 i0 (.agg #[.int .i64 0, .int .i64 0, .int .i64 0, .slice none 0 0]) 4 48 Try.underlying22 hinf hz0' hz1 hz2 rfl (by decide) _ _ _ rfl (hownb.alloc _) ⟨wb.heap.size, 0, none⟩ 1 1 [.int .i64 (k0 : Int), .int .i64 (a0 : Int), .int .i64 (e0 : Int), .slice pk nk ck] rfl rfl ?c1 ?c2 ?c3 ?c4 ?c5 ?c6 (wb.heap.size + 1) ?c7 ?_)
          case c1 => exact cell_four_new wb _ _ _ _ 24
          case c2 => intro u hu; simp at hu; rcases hu with rfl | rfl | rfl | rfl <;> rfl
          case c3 => decide
          case c4 => unfold maxLen; omega
          case c5 => omega
          case c6 => simp; omega
          case c7 => simp
          intro g cap' wx hown2 hg2 hat hlt2
          have Ix := hide ((unhide HIb).more (unhide hLb) hown2 hg2 (by
            rcases hat with e | e
            · exact .inl (by rw [e]; rfl)
            · refine .inr (fun g' hg' => ?_)
              have e2 : some g = some g' := hg'
              injection e2 with e2
              simp
              omega))
          clear hown2 hg2 hat hlt2 HIb hLb hownb hinf hz0' hz1 hz2 i0 hsb
          have hA2 : (acc ++ [t]).length + (S.length - ib) ≤ S.length := by simp; omega
          have KS2 := hide (rsees_any wx B s a sa cap sc l S ib 0 plb (unhide Ix).ps ((unhide HT).grown (unhide Ix).gr) ((unhide HD).grown (unhide Ix).gr) (unhide HG) (by omega))
          cases h44 : seesB (S.drop ib) 44 with
          | true =>
            obtain ⟨x1, r1, he1, hx1⟩ := seesB_yes h44
            obtain ⟨hibl, _, hr1⟩ := drop_next he1
            have jc : ((seeC (S.drop ib)).toNat : Int) = 44 := by rw [seeC_int h44]; rfl
            have HE2 : Hid (loopP q 125 3 S[i].2 (F - 1) (acc ++ [t]) (S.drop (ib + 1)) = loopP q 125 3 S[i].2 ((S.drop (i + 1)).length + 1) [] (S.drop (i + 1))) := hide (by
              rw [← unhide HEQ, ← hr1]
              have hq2 := unhide HQ
              rw [he1] at hq2
              exact (loop_comma (unhide HSE) hq0 hq2 hx1 (by rw [List.length_drop]; exact hF)).symm)
            rw [jc] at KS2
            clear jc h44 he1 hx1 hr1 HEQ HSE HQ
            go_wp2_with fail
            refine (unhide KS2).mono ?_
            rintro e w6 ⟨rfl, b6⟩
            dsimp only
            have I6 := (unhide Ix).below b6
            have c3 := Blk.cell I6.ps 3 _ rfl
            have f3 := Blk.froz I6.ps 3
            have I7 := hide (I6.on (grown_set w6 B 3 (.int .i64 ((ib : Int) + 1))) (I6.ps.next ((ib : Int) + 1) (ib + 1) (by omega)))
            have EM := hide (leftD_eq (n := S.length) (unhide I7).ps)
            clear KS2 b6 I6 Ix
            go_wp2
            go_roundw
            case rel => exact .inl ⟨acc ++ [t], vss ++ [_], ib + 1, plb, F - 1, hibl, by rw [List.length_drop]; omega, by omega, HE2, I7⟩
            case measure => rw [unhide HLW, unhide EM, if_pos rfl]; omega
          | false =>
            have j44 : (((seeC (S.drop ib)).toNat : Int) == 44) = false := seeC_no (by decide) h44
            have H44 := hide h44
            clear h44
            cases hec : seesB (S.drop ib) 125 with
            | true =>
              obtain ⟨x1, r1, he1, hx1⟩ := seesB_yes hec
              have jc : ((seeC (S.drop ib)).toNat : Int) = 125 := by rw [seeC_int hec]; rfl
              have HE2 : Hid (loopP q 125 3 S[i].2 ((S.drop ib).length + 1) (acc ++ [t]) (S.drop ib) = loopP q 125 3 S[i].2 ((S.drop (i + 1)).length + 1) [] (S.drop (i + 1))) := hide (by
                have hq2 := unhide HQ
                have h442 := unhide H44
                rw [he1] at hq2 h442 ⊢
                rw [← unhide HEQ, loop_shut (unhide HSE) hq0 hq2 (seesB_no h442) hx1 (by rw [List.length_drop]; exact hF)]
                exact loop_end hx1 (Nat.lt_succ_self _))
              rw [jc] at KS2 j44
              clear hec he1 hx1 HEQ HSE HQ H44
              go_wp2_with fail
              refine (unhide KS2).mono ?_
              rintro e w6 ⟨rfl, b6⟩
              dsimp only
              have I6 := hide ((unhide Ix).below b6)
              have KS3 := hide (rsees_any w6 B s a sa cap sc l S ib 0 plb (unhide I6).ps ((unhide HT).grown (unhide I6).gr) ((unhide HD).grown (unhide I6).gr) (unhide HG) (by omega))
              rw [jc] at KS3
              clear KS2 b6 Ix jc
              go_wp2_with fail
              refine (unhide KS3).mono ?_
              rintro e w7 ⟨rfl, b7⟩
              dsimp only
              have I7 := hide ((unhide I6).below b7)
              have EM := hide (leftD_eq (n := S.length) (unhide I7).ps)
              clear KS3 b7 I6
              go_wp2
              go_roundw
              case rel => exact .inl ⟨acc ++ [t], vss ++ [_], ib, plb, (S.drop ib).length + 1, hib, Nat.lt_succ_self _, hA2, HE2, I7⟩
              case measure => rw [unhide HLW, unhide EM, if_pos rfl]; omega
            | false =>
              have RES : Hid (loopP q 125 3 S[i].2 ((S.drop (i + 1)).length + 1) [] (S.drop (i + 1)) = .inl (4, S.drop ib)) := hide (by rw [← unhide HEQ]; exact loop_else (unhide HSE) hq0 (unhide HQ) (unhide H44) hec (by rw [List.length_drop]; exact hF))
              have jec : (((seeC (S.drop ib)).toNat : Int) != 125) = true := seeC_no' (by decide) hec
              have jec2 : (((seeC (S.drop ib)).toNat : Int) == 125) = false := seeC_no (by decide) hec
              have KS3 : ∀ u, Hid (DInv w B s a sa cap sc l S (2 * lv + 1) (acc ++ [t]) (vss ++ [[.int .i64 (k0 : Int), .int .i64 (a0 : Int), .int .i64 (e0 : Int), .slice pk nk ck]]) (.slice (some ⟨g, 0, none⟩) (acc.length + 1) cap') ib plb u) → Hid _ := fun u hu => hide (rsees_any u B s a sa cap sc l S ib 0 plb (unhide hu).ps ((unhide HT).grown (unhide hu).gr) ((unhide HD).grown (unhide hu).gr) (unhide HG) (by omega))
              clear hec HEQ HSE HQ H44
              generalize ((seeC (S.drop ib)).toNat : Int) = cy at *
              go_wp2_with fail
              refine (unhide KS2).mono ?_
              rintro e w6 ⟨rfl, b6⟩
              dsimp only
              have I6 := hide ((unhide Ix).below b6)
              have KS3a := KS3 w6 I6
              clear KS2 b6 Ix KS3
              go_wp2_with fail
              refine (unhide KS3a).mono ?_
              rintro e w7 ⟨rfl, b7⟩
              dsimp only
              have I7 := hide ((unhide I6).below b7)
              have KF := hide (fault_some w7 B s a sa cap sc l S ib 4 plb (unhide I7).ps ((unhide HT).grown (unhide I7).gr) ((unhide HD).grown (unhide I7).gr) (unhide HG) (by omega) (by decide))
              clear KS3a b7 I6
              go_wp2_with fail
              refine (unhide KF).mono ?_
              rintro e w8 ⟨rfl, rd8, g8⟩
              dsimp only
              have D8 := hide ((unhide I7).bad g8 rd8)
              have EM := hide (leftD_eq (n := S.length) (unhide D8).ps)
              clear KF rd8 g8 I7
              go_wp2
              go_roundw
              case rel => exact .inr ⟨_, _, _, 4, S.drop ib, ib, rfl, hib, by decide, RES, D8⟩
              case measure => rw [unhide HLW, unhide EM, if_neg (by decide)]; omega
    · have c4 := Blk.cell (unhide HI).ps 4 (.int .i64 (c : Int)) rfl
      have jc1 : ((c : Int) == 0) = false := beq_false_of_ne (by omega)
      obtain ⟨z0, z1, z2, z3⟩ := Blk.cells4 (unhide HI).zb
      obtain ⟨y0, y1, y2, y3⟩ := Blk.froz4 (unhide HI).zb
      have FE := hide (rpass_bad (f := 2 * lv + 2) (unhide HB) (unhide HI).gr (unhide HI).zb hj (unhide HI).ps)
      go_wp2
      obtain ⟨FE1, FC⟩ := unhide FE
      refine ret_put (v := (.agg #[.int .i64 0, .int .i64 0, .int .i64 0, .slice none 0 0])) FC (fun wF hF => by obtain ⟨f0, f1, f2, f3⟩ := hF; simp [results, Try.results19, go_sem, f0, f1, f2, f3]) rfl ?_
      refine unhide HPost _ _ ?_
      rw [unhide RES0, unhide RES]
      exact FE1
end Go.Proofs.Ytoikdjbgeebadaa.trees
/- The walk of the document's value: one way. -/
set_option linter.unusedVariables false
namespace Go.Proofs.Ytoikdjbgeebadaa.trees
open Go.RowKit
open toks

set_option maxHeartbeats 4000000 in
set_option maxRecDepth 100000 in
theorem rvalue_b (w : World) (B : Nat) (s : ByteArray) (a sa : Option Addr) (cap sc : Nat) (l : List Tk) (S : List Sym) (i d lv : Nat) (pl : Int) (hd20 : d < 20) (VAL : ∀ (u : World) (j : Nat) (pl : Int), Ps u B s (.slice a l.length cap) (.slice sa S.length sc) j 0 pl → TkIn u B a l → SdIn u B sa S → j ≤ S.length → Calls Try.prog 19 #[(.pointer (some ⟨B, 0, none⟩)), .int .i64 ((d : Int) + 1)] u (RRes B s a sa cap sc l S (2 * lv) u (pv lv (S.drop j))))
    (hp : Ps w B s (.slice a l.length cap) (.slice sa S.length sc) i 0 pl) (ht : TkIn w B a l) (hd : SdIn w B sa S) (g : Signs s l S) (hi : i ≤ S.length) (hc : seesB (S.drop i) 91 = true) :
    Calls Try.prog 19 #[(.pointer (some ⟨B, 0, none⟩)), .int .i64 (d : Int)] w (RRes B s a sa cap sc l S (2 * lv + 2) w (pv (lv + 1) (S.drop i))) := by
  have hB := Blk.lt hp
  have hS := g.len
  have bz : Below w.heap.size w ((World.alloc w (.cells #[.int .i64 0, .int .i64 0, .int .i64 0, .slice none 0 0] 24))) := (Below.refl _ w).alloc (Nat.le_refl _) _
  have K1 : Hid _ := hide (rsees_any ((World.alloc w (.cells #[.int .i64 0, .int .i64 0, .int .i64 0, .slice none 0 0] 24))) B s a sa cap sc l S i 0 pl (hp.below bz) (ht.below bz) (hd.below bz) g (by omega))
  have HT := hide ht
  have HD := hide hd
  have HG := hide g
  have HB := hide hB
  have HP := hide (hp.below bz)
  have HZ := hide (blk_alloc w #[.int .i64 0, .int .i64 0, .int .i64 0, .slice none 0 0] 24)
  have HGZ := hide (grown_alloc (grown_refl w (some B)) (.cells #[.int .i64 0, .int .i64 0, .int .i64 0, .slice none 0 0] 24))
  have hz0 : ((World.alloc w (.cells #[.int .i64 0, .int .i64 0, .int .i64 0, .slice none 0 0] 24))).heap.size = w.heap.size + 1 := by simp
  obtain ⟨x, r, he, hx⟩ := seesB_yes hc
  obtain ⟨hil, hxs, hre⟩ := drop_next he
  have jc : ((seeC (S.drop i)).toNat : Int) = 91 := by rw [seeC_int hc]; rfl
  rw [jc] at K1
  have HX := hide hx
  have HXN : Hid (x.2 = S[i].2) := hide (by rw [hxs])
  have HRE := hide hre
  have HE := hide he
  have S2 := g.two hil
  have jd : ((d : Int) == 20) = false := beq_false_of_ne (by omega)
  clear jc hc hx hxs hre he
  have HVK : Hid (∀ (u : World) (j : Nat) (pl : Int), Ps u B s (.slice a l.length cap) (.slice sa S.length sc) j 0 pl → TkIn u B a l → SdIn u B sa S → j ≤ S.length → Calls Try.prog 19 #[(.pointer (some ⟨B, 0, none⟩)), .int .i64 ((d : Int) + 1)] u (RRes B s a sa cap sc l S (2 * lv + 1) u ((pv lv) (S.drop j)))) := hide (fun u j pl h1 h2 h3 h4 => (VAL u j pl h1 h2 h3 h4).mono (fun e w' h => h.to (Nat.le_succ _)))
  clear VAL
  clear hp ht hd g hB bz
  suffices FIN : ∀ Post : Ending → World → Prop, Hid (∀ e w', RRes B s a sa cap sc l S (2 * lv + 2) w (pv (lv + 1) (S.drop i)) e w' → Post e w') → Calls Try.prog 19 #[(.pointer (some ⟨B, 0, none⟩)), .int .i64 (d : Int)] w Post from FIN _ (hide fun _ _ h => h)
  intro Post HPost
  go_enter Try.func19, Try.ntmps19
  go_wp2_with fail
  generalize (World.alloc w (.cells #[.int .i64 0, .int .i64 0, .int .i64 0, .slice none 0 0] 24)) = w0 at *
  refine (unhide K1).mono ?_
  rintro e w1 ⟨rfl, b1⟩
  dsimp only
  have hp1 := (unhide HP).below b1
  have c3 := Blk.cell hp1 3 _ rfl
  have f3 := Blk.froz hp1 3
  have gs := grown_set w1 B 3 (.int .i64 ((i : Int) + 1))
  have hp2 := hp1.next ((i : Int) + 1) (i + 1) (by omega)
  have g2 := grown_trans (grown_below (r := some B) b1) gs
  have gw := grown_trans (unhide HGZ) g2
  have hlt := unhide HB
  have I0 : Hid (DInv w B s a sa cap sc l S (2 * lv + 1) [] [] (.slice none 0 0) (i + 1) pl (w1.setCell ⟨B, 3, none⟩ (.int .i64 ((i : Int) + 1)))) := hide ⟨hp2, Blk.grown (unhide HZ) g2 (fun e => by injection e with e; omega), World.ownsRow_nil _ _ _ _, kidsIn_nil _ _ _, gw, hlt⟩
  have RES0 : Hid (pv (lv + 1) (S.drop i) = loopP (pv lv) 93 5 S[i].2 ((S.drop (i + 1)).length + 1) [] (S.drop (i + 1))) := hide (by rw [unhide HE, pv_list (unhide HX), unhide HXN, unhide HRE])
  have HL : Hid (Loc (pv lv)) := hide (pv_loc lv)
  have hq0 : (pv lv) [] = .inl (4, []) := (pv_nil lv)
  clear K1 b1 hp1 hp2 gs g2 gw HP HZ HGZ hz0 hlt HX HXN HRE HE
  go_wp2_with fail
  clear c3 f3
  generalize (w1.setCell ⟨B, 3, none⟩ (.int .i64 ((i : Int) + 1))) = w2 at *
  clear w1 w0
  generalize (pv lv) = q at *
  have HV := HVK
  clear HVK
  go_loopw [9] (fun v wr => (∃ (acc : List T) (vss : List (List Value)) (j : Nat) (pl : Int) (F : Nat), j ≤ S.length ∧ (S.drop j).length < F ∧ acc.length + (S.length - j) ≤ S.length ∧ Hid (loopP q 93 5 S[i].2 F acc (S.drop j) = loopP q 93 5 S[i].2 ((S.drop (i + 1)).length + 1) [] (S.drop (i + 1))) ∧ Hid (DInv w B s a sa cap sc l S (2 * lv + 1) acc vss v j pl wr)) ∨ (∃ (p : Option Addr) (n c' c : Nat) (te : List Sym) (j : Nat), v = .slice p n c' ∧ j ≤ S.length ∧ c ≠ 0 ∧ Hid (loopP q 93 5 S[i].2 ((S.drop (i + 1)).length + 1) [] (S.drop (i + 1)) = .inl (c, te)) ∧ Hid (DBad w B s a sa cap sc l S c te j wr))) (fun _ wr => leftD S.length B wr)
  case atStart => exact .inl ⟨[], [], i + 1, pl, _, hil, Nat.lt_succ_self _, by simp, hide rfl, I0⟩
  case round =>
    rcases hrel with ⟨acc, vss, j, pl1, F, hj, hF, hA, HEQ, HI⟩ | ⟨pv0, nv0, cv0, c, te, j, rfl, hj, hc, RES, HI⟩
    · obtain ⟨pv0, nv0, cv0, rfl⟩ := own_slice (unhide HI).own
      have HLW : Hid (leftD S.length B wr = S.length - j + 1) := hide (by rw [leftD_eq (unhide HI).ps, if_pos rfl])
      have c4 := Blk.cell (unhide HI).ps 4 (.int .i64 0) rfl
      have KS : Hid _ := hide (rsees_any wr B s a sa cap sc l S j 0 pl1 (unhide HI).ps ((unhide HT).grown (unhide HI).gr) ((unhide HD).grown (unhide HI).gr) (unhide HG) (by omega))
      cases hse : seesB (S.drop j) 93 with
      | true =>
        obtain ⟨x1, r1, he1, hx1⟩ := seesB_yes hse
        obtain ⟨hjl, hx1s, hre1⟩ := drop_next he1
        have jc : ((seeC (S.drop j)).toNat : Int) = 93 := by rw [seeC_int hse]; rfl
        have RES : Hid (pv (lv + 1) (S.drop i) = .inr (nd 5 S[i].2 (S[j].2 + 1) acc, S.drop (j + 1))) := hide (by rw [unhide RES0, ← unhide HEQ, he1, loop_end hx1 (by rw [← he1]; exact hF), hx1s, hre1])
        rw [jc] at KS
        clear jc hse HEQ he1 hx1 hx1s hre1 HV HL hF
        go_wp2_with fail
        refine (unhide KS).mono ?_
        rintro e wa ⟨rfl, ba⟩
        dsimp only
        have I1 := (unhide HI).below ba
        have c3 := Blk.cell I1.ps 3 _ rfl
        have f3 := Blk.froz I1.ps 3
        have gs := grown_set wa B 3 (.int .i64 ((j : Int) + 1))
        have ps2 := I1.ps.next ((j : Int) + 1) (j + 1) (by omega)
        have I2 := I1.on gs ps2
        have KN := hide (rnode_any _ B s (.slice a l.length cap) sa sc S j 0 pl1 5 i pv0 nv0 cv0 I2.ps ((unhide HD).grown I2.gr) hS hjl hil ((unhide HG).two hjl) (by decide))
        have HI2 := hide I2
        clear KS ba I1 gs ps2 I2 HI c4
        go_wp2_with fail
        clear c3 f3
        generalize (wa.setCell ⟨B, 3, none⟩ (.int .i64 ((j : Int) + 1))) = w3 at *
        refine (unhide KN).mono ?_
        rintro e w4 ⟨rfl, b4⟩
        dsimp only
        have I4 := (unhide HI2).below b4
        obtain ⟨z0, z1, z2, z3⟩ := Blk.cells4 I4.zb
        obtain ⟨y0, y1, y2, y3⟩ := Blk.froz4 I4.zb
        have LO := lies_own (k := 5) (a := S[i].2) (e := S[j].2 + 1) (I4.kids.weaken (ok' := fun b => w.heap.size + 1 ≤ b) (fun b hb => hb.1)) I4.own (fun b hb => hb)
        rw [show ((S[j].2 + 1 : Nat) : Int) = (S[j].2 : Int) + 1 by omega] at LO
        have FE := hide (rpass_good (unhide HB) I4.gr I4.zb LO (show j + 1 ≤ S.length from hjl) rfl I4.ps)
        clear KN b4 I4 LO HI2
        generalize S[i].2 = xn at *
        generalize S[j].2 = yn at *
        go_wp2
        obtain ⟨FE1, FC⟩ := unhide FE
        refine ret_put (v := .agg #[.int .i64 5, .int .i64 (xn : Int), .int .i64 ((yn : Int) + 1), .slice pv0 nv0 cv0]) FC (fun wF hF => by obtain ⟨f0, f1, f2, f3⟩ := hF; simp [results, Try.results19, go_sem, f0, f1, f2, f3]) rfl ?_
        refine unhide HPost _ _ ?_
        rw [unhide RES]
        exact FE1
      | false =>
        have je : (((seeC (S.drop j)).toNat : Int) == 93) = false := seeC_no (by decide) hse
        have HSE := hide hse
        clear hse
        generalize ((seeC (S.drop j)).toNat : Int) = cz at *
        go_wp2_with fail
        refine (unhide KS).mono ?_
        rintro e wa ⟨rfl, ba⟩
        dsimp only
        have I1 := (unhide HI).below ba
        have KK := hide (unhide HV wa j pl1 I1.ps ((unhide HT).grown I1.gr) ((unhide HD).grown I1.gr) hj)
        have HI1 := hide I1
        clear KS ba I1 HI HV c4
        obtain ⟨i0, hinf, hz0', hz1, hz2⟩ := info_parts infoNode
        cases hq : q (S.drop j) with
        | inl er1 =>
          obtain ⟨c, te⟩ := er1
          have RES : Hid (loopP q 93 5 S[i].2 ((S.drop (i + 1)).length + 1) [] (S.drop (i + 1)) = .inl (c, te)) := hide (by rw [← unhide HEQ]; exact loop_kid_bad (unhide HSE) hq0 hq hF)
          obtain ⟨_, _, _, hcc⟩ := (unhide HL).bad _ _ _ hq
          have hc : c ≠ 0 := by omega
          rw [hq] at KK
          clear hq hcc HEQ HSE HL
          go_wp2_with fail
          refine (unhide KK).mono ?_
          rintro e wb ⟨hgb, rfl, ib, hib, rb⟩
          dsimp only
          have Db := (unhide HI1).bad hgb rb
          have hownb := own_kept4 (unhide HI1).own hgb (by have := (unhide HI1).lt; omega)
          have hsb : w.heap.size < wb.heap.size := Blk.lt Db.zb
          have Db2 := Db.on (grown_below ((Below.refl _ wb).alloc (Nat.le_refl _) (.cells #[.int .i64 0, .int .i64 0, .int .i64 0, .slice none 0 0] 24))) (Blk.alloc Db.ps _)
          have HDb := hide Db2
          clear KK hgb rb Db Db2 HI1
          go_wp2_with (at_builtin; refine wpList_append_lies _ rfl _ _ 22 rfl (w.heap.size + 1) 24 i0 (.agg #[.int .i64 0, .int .i64 0, .int .i64 0, .slice none 0 0]) 4 48 Try.underlying22 hinf hz0' hz1 hz2 rfl (by decide) _ _ _ rfl (hownb.alloc _) ⟨wb.heap.size, 0, none⟩ 1 1 [.int .i64 0, .int .i64 0, .int .i64 0, .slice none 0 0] rfl rfl ?c1 ?c2 ?c3 ?c4 ?c5 ?c6 (wb.heap.size + 1) ?c7 ?_)
          case c1 => exact cell_four_new wb _ _ _ _ 24
          case c2 => intro u hu; simp at hu; rcases hu with rfl | rfl <;> rfl
          case c3 => decide
          case c4 => unfold maxLen; omega
          case c5 => omega
          case c6 => simp; omega
          case c7 => simp
          intro g cap' wx hown2 hg2 hat hlt2
          have Dx := (unhide HDb).grow (hownb.alloc _) hg2
          have KS2 := hide (rsees_any wx B s a sa cap sc l S ib (c : Int) _ Dx.ps ((unhide HT).grown Dx.gr) ((unhide HD).grown Dx.gr) (unhide HG) (by omega))
          have HDx := hide Dx
          clear hown2 hg2 hat hlt2 Dx HDb hownb hinf hz0' hz1 hz2 i0 hsb
          cases h44 : seesB (S.drop ib) 44 with
          | true =>
            obtain ⟨x1, r1, he1, _⟩ := seesB_yes h44
            obtain ⟨hibl, _, _⟩ := drop_next he1
            have jc : ((seeC (S.drop ib)).toNat : Int) = 44 := by rw [seeC_int h44]; rfl
            rw [jc] at KS2
            clear jc h44 he1
            go_wp2_with fail
            refine (unhide KS2).mono ?_
            rintro e w6 ⟨rfl, b6⟩
            dsimp only
            have D6 := (unhide HDx).on (grown_below b6) ((unhide HDx).ps.below b6)
            have c3 := Blk.cell D6.ps 3 _ rfl
            have f3 := Blk.froz D6.ps 3
            have D7 := hide (D6.on (grown_set w6 B 3 (.int .i64 ((ib : Int) + 1))) (D6.ps.next ((ib : Int) + 1) (ib + 1) (by omega)))
            have EM := hide (leftD_eq (n := S.length) (unhide D7).ps)
            clear KS2 b6 D6 HDx
            go_wp2
            go_roundw
            case rel => exact .inr ⟨_, _, _, c, te, ib + 1, rfl, hibl, hc, RES, D7⟩
            case measure => rw [unhide HLW, unhide EM, if_neg (by omega)]; omega
          | false =>
            have j44 : (((seeC (S.drop ib)).toNat : Int) == 44) = false := seeC_no (by decide) h44
            clear h44
            cases hec : seesB (S.drop ib) 93 with
            | true =>
              have jc : ((seeC (S.drop ib)).toNat : Int) = 93 := by rw [seeC_int hec]; rfl
              rw [jc] at KS2 j44
              clear hec
              go_wp2_with fail
              refine (unhide KS2).mono ?_
              rintro e w6 ⟨rfl, b6⟩
              dsimp only
              have D6 := hide ((unhide HDx).on (grown_below b6) ((unhide HDx).ps.below b6))
              have KS3 := hide (rsees_any w6 B s a sa cap sc l S ib (c : Int) _ (unhide D6).ps ((unhide HT).grown (unhide D6).gr) ((unhide HD).grown (unhide D6).gr) (unhide HG) (by omega))
              rw [jc] at KS3
              clear KS2 b6 HDx jc
              go_wp2_with fail
              refine (unhide KS3).mono ?_
              rintro e w7 ⟨rfl, b7⟩
              dsimp only
              have D7 := hide ((unhide D6).on (grown_below b7) ((unhide D6).ps.below b7))
              have EM := hide (leftD_eq (n := S.length) (unhide D7).ps)
              clear KS3 b7 D6
              go_wp2
              go_roundw
              case rel => exact .inr ⟨_, _, _, c, te, ib, rfl, hib, hc, RES, D7⟩
              case measure => rw [unhide HLW, unhide EM, if_neg (by omega)]; omega
            | false =>
              have jec : (((seeC (S.drop ib)).toNat : Int) != 93) = true := seeC_no' (by decide) hec
              have jec2 : (((seeC (S.drop ib)).toNat : Int) == 93) = false := seeC_no (by decide) hec
              have KS3 : ∀ u, Hid (DBad w B s a sa cap sc l S c te ib u) → Hid _ := fun u hu => hide (rsees_any u B s a sa cap sc l S ib (c : Int) _ (unhide hu).ps ((unhide HT).grown (unhide hu).gr) ((unhide HD).grown (unhide hu).gr) (unhide HG) (by omega))
              clear hec
              generalize ((seeC (S.drop ib)).toNat : Int) = cy at *
              go_wp2_with fail
              refine (unhide KS2).mono ?_
              rintro e w6 ⟨rfl, b6⟩
              dsimp only
              have D6 := hide ((unhide HDx).on (grown_below b6) ((unhide HDx).ps.below b6))
              have KS3a := KS3 w6 D6
              clear KS2 b6 HDx KS3
              go_wp2_with fail
              refine (unhide KS3a).mono ?_
              rintro e w7 ⟨rfl, b7⟩
              dsimp only
              have D7 := hide ((unhide D6).on (grown_below b7) ((unhide D6).ps.below b7))
              have KF := hide (fault_none w7 B s _ _ ib 4 (c : Int) _ (by omega) (unhide D7).ps)
              have EM := hide (leftD_eq (n := S.length) (unhide D7).ps)
              clear KS3a b7 D6
              go_wp2_with fail
              refine (unhide KF).mono ?_
              rintro e w8 ⟨rfl, hw8⟩
              rw [hw8]
              dsimp only
              clear KF hw8
              go_wp2
              go_roundw
              case rel => exact .inr ⟨_, _, _, c, te, ib, rfl, hib, hc, RES, D7⟩
              case measure => rw [unhide HLW, unhide EM, if_neg (by omega)]; omega
        | inr tr =>
          obtain ⟨t, rest⟩ := tr
          have hless := loc_less (unhide HL) hq
          have HQ := hide hq
          rw [hq] at KK
          clear hq HL
          go_wp2_with fail
          refine (unhide KK).mono ?_
          rintro e wb ⟨hgb, u0, u1, u2, u3, rfl, hL, ib, plb, hib, hr2, rb⟩
          dsimp only
          subst hr2
          obtain ⟨k0, a0, e0, pk, nk, ck, rfl, rfl, rfl, rfl⟩ := hL.form
          have Ib := (unhide HI1).on hgb rb
          have hsb : w.heap.size < wb.heap.size := Blk.lt Ib.zb
          have hownb := Ib.own
          have ba : Below wb.heap.size wb (wb.alloc (.cells #[.int .i64 (k0 : Int), .int .i64 (a0 : Int), .int .i64 (e0 : Int), .slice pk nk ck] 24)) := (Below.refl _ wb).alloc (Nat.le_refl _) _
          have hLb := hide ((hL.weaken (ok' := fun b => w.heap.size + 1 ≤ b ∧ some b ≠ (Value.slice pv0 nv0 cv0).ownBlock) (fun b hb => ⟨by have := Blk.lt (unhide HI1).zb; omega, fun e => by have := ((unhide HI1).own.lt b e.symm).2; omega⟩)).below ba)
          have HIb := hide (Ib.below ba)
          rw [List.length_drop, List.length_drop] at hless
          rw [List.length_drop] at hF
          clear KK hgb rb hL Ib ba HI1
          go_wp2_with (at_builtin; refine wpList_append_lies _ rfl _ _ 22 rfl (w.heap.size + 1) 24 i0 (.agg #[.int .i64 0, .int .i64 0, .int .i64 0, .slice none 0 0]) 4 48 Try.underlying22 hinf hz0' hz1 hz2 rfl (by decide) _ _ _ rfl (hownb.alloc _) ⟨wb.heap.size, 0, none⟩ 1 1 [.int .i64 (k0 : Int), .int .i64 (a0 : Int), .int .i64 (e0 : Int), .slice pk nk ck] rfl rfl ?c1 ?c2 ?c3 ?c4 ?c5 ?c6 (wb.heap.size + 1) ?c7 ?_)
          case c1 => exact cell_four_new wb _ _ _ _ 24
          case c2 => intro u hu; simp at hu; rcases hu with rfl | rfl | rfl | rfl <;> rfl
          case c3 => decide
          case c4 => unfold maxLen; omega
          case c5 => omega
          case c6 => simp; omega
          case c7 => simp
          intro g cap' wx hown2 hg2 hat hlt2
          have Ix := hide ((unhide HIb).more (unhide hLb) hown2 hg2 (by
            rcases hat with e | e
            · exact .inl (by rw [e]; rfl)
            · refine .inr (fun g' hg' => ?_)
              have e2 : some g = some g' := hg'
              injection e2 with e2
              simp
              omega))
          clear hown2 hg2 hat hlt2 HIb hLb hownb hinf hz0' hz1 hz2 i0 hsb
          have hA2 : (acc ++ [t]).length + (S.length - ib) ≤ S.length := by simp; omega
          have KS2 := hide (rsees_any wx B s a sa cap sc l S ib 0 plb (unhide Ix).ps ((unhide HT).grown (unhide Ix).gr) ((unhide HD).grown (unhide Ix).gr) (unhide HG) (by omega))
          cases h44 : seesB (S.drop ib) 44 with
          | true =>
            obtain ⟨x1, r1, he1, hx1⟩ := seesB_yes h44
            obtain ⟨hibl, _, hr1⟩ := drop_next he1
            have jc : ((seeC (S.drop ib)).toNat : Int) = 44 := by rw [seeC_int h44]; rfl
            have HE2 : Hid (loopP q 93 5 S[i].2 (F - 1) (acc ++ [t]) (S.drop (ib + 1)) = loopP q 93 5 S[i].2 ((S.drop (i + 1)).length + 1) [] (S.drop (i + 1))) := hide (by
              rw [← unhide HEQ, ← hr1]
              have hq2 := unhide HQ
              rw [he1] at hq2
              exact (loop_comma (unhide HSE) hq0 hq2 hx1 (by rw [List.length_drop]; exact hF)).symm)
            rw [jc] at KS2
            clear jc h44 he1 hx1 hr1 HEQ HSE HQ
            go_wp2_with fail
            refine (unhide KS2).mono ?_
            rintro e w6 ⟨rfl, b6⟩
            dsimp only
            have I6 := (unhide Ix).below b6
            have c3 := Blk.cell I6.ps 3 _ rfl
            have f3 := Blk.froz I6.ps 3
            have I7 := hide (I6.on (grown_set w6 B 3 (.int .i64 ((ib : Int) + 1))) (I6.ps.next ((ib : Int) + 1) (ib + 1) (by omega)))
            have EM := hide (leftD_eq (n := S.length) (unhide I7).ps)
            clear KS2 b6 I6 Ix
            go_wp2
            go_roundw
            case rel => exact .inl ⟨acc ++ [t], vss ++ [_], ib + 1, plb, F - 1, hibl, by rw [List.length_drop]; omega, by omega, HE2, I7⟩
            case measure => rw [unhide HLW, unhide EM, if_pos rfl]; omega
          | false =>
            have j44 : (((seeC (S.drop ib)).toNat : Int) == 44) = false := seeC_no (by decide) h44
            have H44 := hide h44
            clear h44
            cases hec : seesB (S.drop ib) 93 with
            | true =>
              obtain ⟨x1, r1, he1, hx1⟩ := seesB_yes hec
              have jc : ((seeC (S.drop ib)).toNat : Int) = 93 := by rw [seeC_int hec]; rfl
              have HE2 : Hid (loopP q 93 5 S[i].2 ((S.drop ib).length + 1) (acc ++ [t]) (S.drop ib) = loopP q 93 5 S[i].2 ((S.drop (i + 1)).length + 1) [] (S.drop (i + 1))) := hide (by
                have hq2 := unhide HQ
                have h442 := unhide H44
                rw [he1] at hq2 h442 ⊢
                rw [← unhide HEQ, loop_shut (unhide HSE) hq0 hq2 (seesB_no h442) hx1 (by rw [List.length_drop]; exact hF)]
                exact loop_end hx1 (Nat.lt_succ_self _))
              rw [jc] at KS2 j44
              clear hec he1 hx1 HEQ HSE HQ H44
              go_wp2_with fail
              refine (unhide KS2).mono ?_
              rintro e w6 ⟨rfl, b6⟩
              dsimp only
              have I6 := hide ((unhide Ix).below b6)
              have KS3 := hide (rsees_any w6 B s a sa cap sc l S ib 0 plb (unhide I6).ps ((unhide HT).grown (unhide I6).gr) ((unhide HD).grown (unhide I6).gr) (unhide HG) (by omega))
              rw [jc] at KS3
              clear KS2 b6 Ix jc
              go_wp2_with fail
              refine (unhide KS3).mono ?_
              rintro e w7 ⟨rfl, b7⟩
              dsimp only
              have I7 := hide ((unhide I6).below b7)
              have EM := hide (leftD_eq (n := S.length) (unhide I7).ps)
              clear KS3 b7 I6
              go_wp2
              go_roundw
              case rel => exact .inl ⟨acc ++ [t], vss ++ [_], ib, plb, (S.drop ib).length + 1, hib, Nat.lt_succ_self _, hA2, HE2, I7⟩
              case measure => rw [unhide HLW, unhide EM, if_pos rfl]; omega
            | false =>
              have RES : Hid (loopP q 93 5 S[i].2 ((S.drop (i + 1)).length + 1) [] (S.drop (i + 1)) = .inl (4, S.drop ib)) := hide (by rw [← unhide HEQ]; exact loop_else (unhide HSE) hq0 (unhide HQ) (unhide H44) hec (by rw [List.length_drop]; exact hF))
              have jec : (((seeC (S.drop ib)).toNat : Int) != 93) = true := seeC_no' (by decide) hec
              have jec2 : (((seeC (S.drop ib)).toNat : Int) == 93) = false := seeC_no (by decide) hec
              have KS3 : ∀ u, Hid (DInv w B s a sa cap sc l S (2 * lv + 1) (acc ++ [t]) (vss ++ [[.int .i64 (k0 : Int), .int .i64 (a0 : Int), .int .i64 (e0 : Int), .slice pk nk ck]]) (.slice (some ⟨g, 0, none⟩) (acc.length + 1) cap') ib plb u) → Hid _ := fun u hu => hide (rsees_any u B s a sa cap sc l S ib 0 plb (unhide hu).ps ((unhide HT).grown (unhide hu).gr) ((unhide HD).grown (unhide hu).gr) (unhide HG) (by omega))
              clear hec HEQ HSE HQ H44
              generalize ((seeC (S.drop ib)).toNat : Int) = cy at *
              go_wp2_with fail
              refine (unhide KS2).mono ?_
              rintro e w6 ⟨rfl, b6⟩
              dsimp only
              have I6 := hide ((unhide Ix).below b6)
              have KS3a := KS3 w6 I6
              clear KS2 b6 Ix KS3
              go_wp2_with fail
              refine (unhide KS3a).mono ?_
              rintro e w7 ⟨rfl, b7⟩
              dsimp only
              have I7 := hide ((unhide I6).below b7)
              have KF := hide (fault_some w7 B s a sa cap sc l S ib 4 plb (unhide I7).ps ((unhide HT).grown (unhide I7).gr) ((unhide HD).grown (unhide I7).gr) (unhide HG) (by omega) (by decide))
              clear KS3a b7 I6
              go_wp2_with fail
              refine (unhide KF).mono ?_
              rintro e w8 ⟨rfl, rd8, g8⟩
              dsimp only
              have D8 := hide ((unhide I7).bad g8 rd8)
              have EM := hide (leftD_eq (n := S.length) (unhide D8).ps)
              clear KF rd8 g8 I7
              go_wp2
              go_roundw
              case rel => exact .inr ⟨_, _, _, 4, S.drop ib, ib, rfl, hib, by decide, RES, D8⟩
              case measure => rw [unhide HLW, unhide EM, if_neg (by decide)]; omega
    · have c4 := Blk.cell (unhide HI).ps 4 (.int .i64 (c : Int)) rfl
      have jc1 : ((c : Int) == 0) = false := beq_false_of_ne (by omega)
      obtain ⟨z0, z1, z2, z3⟩ := Blk.cells4 (unhide HI).zb
      obtain ⟨y0, y1, y2, y3⟩ := Blk.froz4 (unhide HI).zb
      have FE := hide (rpass_bad (f := 2 * lv + 2) (unhide HB) (unhide HI).gr (unhide HI).zb hj (unhide HI).ps)
      go_wp2
      obtain ⟨FE1, FC⟩ := unhide FE
      refine ret_put (v := (.agg #[.int .i64 0, .int .i64 0, .int .i64 0, .slice none 0 0])) FC (fun wF hF => by obtain ⟨f0, f1, f2, f3⟩ := hF; simp [results, Try.results19, go_sem, f0, f1, f2, f3]) rfl ?_
      refine unhide HPost _ _ ?_
      rw [unhide RES0, unhide RES]
      exact FE1
end Go.Proofs.Ytoikdjbgeebadaa.trees
/- The walk of the law that what is ahead of a wrong token goes on to be a document. -/
set_option linter.unusedVariables false
namespace Go.Proofs.Ytoikdjbgeebadaa.trees
open Go.RowKit
open toks

theorem Lies.node {ok : Nat → Prop} {f : Nat} {w : World} {u0 u1 u2 u3 : Value} {k a e : Nat} {l : List T} (h : Lies ok f w [u0, u1, u2, u3] (nd k a e l)) : u0 = .int .i64 (k : Int) ∧ u1 = .int .i64 (a : Int) ∧ u2 = .int .i64 (e : Int) ∧ ∃ p c, u3 = .slice p l.length c ∧ l.length ≤ c := by
  cases f with
  | zero => exact h.elim
  | succ f =>
    obtain ⟨k', a', e', l', p, cap, ht, hv, hc, _⟩ := h
    obtain ⟨rfl, rfl, rfl, rfl⟩ := nd_inj ht
    injection hv with h0 hv
    injection hv with h1 hv
    injection hv with h2 hv
    injection hv with h3 _
    exact ⟨h0, h1, h2, p, cap, h3, hc⟩
theorem docR_cases (n : Nat) (ts : List Sym) : (∃ c te, docR n ts = .inl (c, te) ∧ pd ts = .inl (c, te) ∧ (c = 4 ∨ (c = 5 ∧ te ≠ []))) ∨ (∃ t, docR n ts = .inr (nd 6 0 n [t], []) ∧ pd ts = .inr (t, [])) := by
  cases h : pd ts with
  | inl e =>
    obtain ⟨c, te⟩ := e
    obtain ⟨p, _, _, h3⟩ := pd_bad h
    exact .inl ⟨c, te, by unfold docR; rw [h], rfl, h3⟩
  | inr tr =>
    obtain ⟨t, r⟩ := tr
    obtain ⟨rfl, _⟩ := pd_val h
    exact .inr ⟨t, by unfold docR; rw [h], rfl⟩
theorem trees_plain : docR (toksL [49]).length (sols [49]) = .inr (nd 6 0 1 [nd 1 0 1 []], []) := by kernel_rfl
set_option maxHeartbeats 1000000 in
set_option maxRecDepth 100000 in
theorem trees_any (w : World) (hM : MaxOk w) : Calls Try.prog 13 #[] w fun e w' => e = .returned (.bool true) ∧ Below w.heap.size w w' := by
  have K1 := hide (parse_any w ⟨#[49]⟩ (by decide) hM)
  have E : docR (toksL (ByteArray.mk #[49]).data.toList).length (sols (ByteArray.mk #[49]).data.toList) = .inr (nd 6 0 1 [nd 1 0 1 []], []) := trees_plain
  rw [E] at K1
  clear hM E
  go_enter Try.func13, Try.ntmps13
  go_wp2_with fail
  refine (unhide K1).mono ?_
  rintro e w1 ⟨b1, u0, u1, u2, u3, rfl, hL⟩
  dsimp only
  obtain ⟨rfl, rfl, rfl, p, c, rfl, _⟩ := hL.node
  have B1 := hide (b1.alloc b1.size (.cells #[.int .i64 6, .int .i64 0, .int .i64 1, .slice p 1 c] 24))
  clear K1 hL b1
  go_wp2
  go_ret
  exact ⟨rfl, unhide B1⟩
theorem first_plain {L : List UInt8} {x : Sym} {r : List Sym} (h : pd (sols L) = .inl (4, x :: r)) : ∃ t, (toksL L)[x.2]? = some t ∧ t.fro < L.length ∧ (pd (sols (L.take t.fro)) = .inl (4, []) ∨ ∃ t', pd (sols (L.take t.fro)) = .inr (t', [])) := by
  obtain ⟨p, e, h1, _⟩ := pd_bad h
  obtain ⟨t, h2, h3, h4⟩ := sols_ahead L p r x e
  exact ⟨t, h2, h3, by rw [h4]; exact h1 rfl⟩
theorem place_le {s : ByteArray} {l : List Tk} (g : Good s l) (te : List Sym) : placeOf s l te ≤ s.size := by
  cases te with
  | nil => exact Nat.le_refl _
  | cons x r =>
    show (l.getD x.2 ⟨0, 0, 0⟩).fro ≤ _
    rw [List.getD_eq_getElem?_getD]
    rcases Nat.lt_or_ge x.2 l.length with h | h
    · rw [List.getElem?_eq_getElem h]
      exact Nat.le_of_lt (g.fro _ h)
    · rw [List.getElem?_eq_none h]
      exact Nat.zero_le _
set_option maxHeartbeats 4000000 in
set_option maxRecDepth 100000 in
theorem lawFirst (w : World) (s : ByteArray) (hM : MaxOk w) :
    Calls Try.prog 7 #[.string s] w fun e w' => e = .returned (.bool true) ∧ Below w.heap.size w w' := by
  have K0 := hide (trees_any w hM)
  by_cases hs : 20000 < s.size
  · have K1 : ∀ u, Hid _ := fun u => hide (parse_large u s hs)
    have i1 : ¬ (s.size : Int) < 0 := by omega
    clear hM
    go_enter Try.func7, Try.ntmps7
    go_wp2_with fail
    refine (unhide K0).mono ?_
    rintro e w1 ⟨rfl, b1⟩
    dsimp only
    have B1 := hide b1
    clear K0 b1
    go_wp2_with fail
    refine (unhide (K1 w1)).mono ?_
    rintro e w2 ⟨rfl, b2⟩
    dsimp only
    have B2 := hide ((((unhide B1).trans (b2.mono (unhide B1).size))).alloc (Nat.le_trans (unhide B1).size b2.size) (.cells #[.int .i64 0, .int .i64 0, .int .i64 0, .slice none 0 0] 24))
    clear K1 b2 B1
    go_wp2
    go_ret
    exact ⟨rfl, unhide B2⟩
  have hs : s.size ≤ 20000 := by omega
  have K1 : ∀ u, Below w.heap.size w u → Hid _ := fun u hu => hide (parse_any u s hs (hM.below (Nat.le_refl _) hu))
  have hpl := place_le (good s hs)
  rcases docR_cases (toksL s.data.toList).length (sols s.data.toList) with ⟨c, te, hd, hp, hc⟩ | ⟨t, hd, _⟩
  · rw [hd] at K1
    by_cases hc4 : c = 4 ∧ te ≠ []
    · obtain ⟨rfl, hte⟩ := hc4
      cases te with
      | nil => exact absurd rfl hte
      | cons x r =>
        obtain ⟨t, h1, h2, h3⟩ := first_plain hp
        have EP : placeOf s (toksL s.data.toList) (x :: r) = t.fro := by
          show ((toksL s.data.toList).getD x.2 ⟨0, 0, 0⟩).fro = _
          rw [List.getD_eq_getElem?_getD, h1]
          rfl
        rw [len_list] at h2
        have HEP := hide EP
        have e2 : (s.extract 0 t.fro).size = t.fro := by rw [ByteArray.size_extract]; omega
        have e3 : (s.extract 0 t.fro).data.toList = s.data.toList.take t.fro := ext_take s t.fro
        have K2 : ∀ u, Below w.heap.size w u → Hid _ := fun u hu => hide (parse_any u (s.extract 0 t.fro) (by omega) (hM.below (Nat.le_refl _) hu))
        have hd2 : (docR (toksL (s.extract 0 t.fro).data.toList).length (sols (s.extract 0 t.fro).data.toList) = .inl (4, [])) ∨ ∃ t', docR (toksL (s.extract 0 t.fro).data.toList).length (sols (s.extract 0 t.fro).data.toList) = .inr (nd 6 0 (toksL (s.extract 0 t.fro).data.toList).length [t'], []) := by
          rw [e3]
          rcases h3 with h3 | ⟨t', h3⟩
          · exact .inl (by unfold docR; rw [h3])
          · exact .inr ⟨t', by unfold docR; rw [h3]⟩
        clear hpl hd hp hc hte h1 h3 EP e3 hM
        have E2 := hide e2
        clear e2
        generalize t.fro = z at *
        have i1 : ¬ (z : Int) < 0 := by omega
        have i2 : ¬ (z : Int) > (s.size : Int) := by omega
        have j2 : ((z : Int) == (s.size : Int)) = false := beq_false_of_ne (by omega)
        have j3 : (z == s.size) = false := beq_false_of_ne (by omega)
        go_enter Try.func7, Try.ntmps7
        go_wp2_with fail
        refine (unhide K0).mono ?_
        rintro e w1 ⟨rfl, b1⟩
        dsimp only
        have K1a := K1 w1 b1
        have B1 := hide b1
        clear K0 b1 K1
        go_wp2_with fail
        refine (unhide K1a).mono ?_
        rintro e w2 ⟨b2, rfl⟩
        dsimp only
        rw [unhide HEP]
        have b3 := (((unhide B1).trans (b2.mono (unhide B1).size))).alloc (Nat.le_trans (unhide B1).size b2.size) (.cells #[.int .i64 0, .int .i64 0, .int .i64 0, .slice none 0 0] 24)
        have K2a := K2 _ b3
        have B3 := hide b3
        clear K1a K2 b2 B1 b3
        go_wp2_with fail
        rcases hd2 with hd2 | ⟨t', hd2⟩
        · rw [hd2] at K2a
          refine (unhide K2a).mono ?_
          rintro e w4 ⟨b4, rfl⟩
          dsimp only
          have ez : placeOf (s.extract 0 z) (toksL (s.extract 0 z).data.toList) [] = z := unhide E2
          rw [ez]
          have B4 := hide ((((unhide B3).trans (b4.mono (unhide B3).size))).alloc (Nat.le_trans (unhide B3).size b4.size) (.cells #[.int .i64 0, .int .i64 0, .int .i64 0, .slice none 0 0] 24))
          clear K2a b4 B3 ez
          go_wp2
          go_ret
          exact ⟨rfl, unhide B4⟩
        · rw [hd2] at K2a
          refine (unhide K2a).mono ?_
          rintro e w4 ⟨b4, u0, u1, u2, u3, rfl, hL⟩
          dsimp only
          obtain ⟨rfl, rfl, rfl, p, c, rfl, _⟩ := hL.node
          have B4 := hide (fun o => (((unhide B3).trans (b4.mono (unhide B3).size))).alloc (Nat.le_trans (unhide B3).size b4.size) o)
          clear K2a b4 B3 hL hd2
          go_wp2
          go_ret
          exact ⟨rfl, unhide B4 _⟩
    · have hz := hpl te
      have hce : (c = 5) ∨ (c = 4 ∧ placeOf s (toksL s.data.toList) te = s.size) := by
        rcases hc with rfl | ⟨rfl, _⟩
        · right
          refine ⟨rfl, ?_⟩
          cases te with
          | nil => rfl
          | cons x r => exact absurd ⟨rfl, by simp⟩ hc4
        · exact .inl rfl
      clear hpl hd hp hc hc4 hM
      obtain ⟨z, ez⟩ : ∃ z, placeOf s (toksL s.data.toList) te = z := ⟨_, rfl⟩
      rw [ez] at hz hce
      have EZ := hide ez
      clear ez
      have i1 : ¬ (z : Int) < 0 := by omega
      have i2 : ¬ (z : Int) > (s.size : Int) := by omega
      have d2 : decide (s.size < z) = false := decide_eq_false (by omega)
      have j5 : ((z : Int) == (s.size : Int)) = (z == s.size) := by rw [Bool.eq_iff_iff, beq_iff_eq, beq_iff_eq]; omega
      rcases hce with rfl | ⟨rfl, rfl⟩
      all_goals
        go_enter Try.func7, Try.ntmps7
        go_wp2_with fail
        refine (unhide K0).mono ?_
        rintro e w1 ⟨rfl, b1⟩
        dsimp only
        have K1a := K1 w1 b1
        have B1 := hide b1
        clear K0 b1 K1
        go_wp2_with fail
        refine (unhide K1a).mono ?_
        rintro e w2 ⟨b2, rfl⟩
        dsimp only
        rw [unhide EZ]
        have B3 := hide ((((unhide B1).trans (b2.mono (unhide B1).size))).alloc (Nat.le_trans (unhide B1).size b2.size) (.cells #[.int .i64 0, .int .i64 0, .int .i64 0, .slice none 0 0] 24))
        clear K1a b2 B1
        go_wp2
        go_ret
        exact ⟨rfl, unhide B3⟩
  · rw [hd] at K1
    clear hpl hd hM
    go_enter Try.func7, Try.ntmps7
    go_wp2_with fail
    refine (unhide K0).mono ?_
    rintro e w1 ⟨rfl, b1⟩
    dsimp only
    have K1a := K1 w1 b1
    have B1 := hide b1
    clear K0 b1 K1
    go_wp2_with fail
    refine (unhide K1a).mono ?_
    rintro e w2 ⟨b2, u0, u1, u2, u3, rfl, hL⟩
    dsimp only
    obtain ⟨rfl, rfl, rfl, p, c, rfl, _⟩ := hL.node
    have B3 := hide (fun o => (((unhide B1).trans (b2.mono (unhide B1).size))).alloc (Nat.le_trans (unhide B1).size b2.size) o)
    clear K1a b2 B1 hL
    go_wp2
    go_ret
    exact ⟨rfl, unhide B3 _⟩
end Go.Proofs.Ytoikdjbgeebadaa.trees
/- How many kids a node can have; a node's cells one by one: plain mathematics, and memory. -/
set_option linter.unusedVariables false
namespace Go.Proofs.Ytoikdjbgeebadaa.trees
open Go.RowKit
open toks

/-- No node of the tree has more than so many kids. -/
def Slim (N : Nat) : Nat → T → Prop
  | 0, _ => False
  | f + 1, t => ∃ k a e l, t = nd k a e l ∧ l.length ≤ N ∧ ∀ (j : Nat) (h : j < l.length), Slim N f l[j]
theorem slim_up (N : Nat) : ∀ (f : Nat) (t : T), Slim N f t → Slim N (f + 1) t
  | 0, _, h => h.elim
  | f + 1, t, h => by
    obtain ⟨k, a, e, l, rfl, h1, h2⟩ := h
    exact ⟨k, a, e, l, rfl, h1, fun j hj => slim_up N f _ (h2 j hj)⟩
def SlimQ (N f : Nat) (q : List Sym → R) : Prop := ∀ ts t r, ts.length ≤ N → q ts = .inr (t, r) → Slim N f t
theorem kids_slim {N f : Nat} {q : List Sym → R} {ec : UInt8} (hq : SlimQ N f q) (hl : Loc q) : ∀ (l : List T) (ts : List Sym) (e : Nat) (r : List Sym), ts.length ≤ N → Kids q ec l ts e r → l.length ≤ ts.length ∧ ∀ (j : Nat) (h : j < l.length), Slim N f l[j]
  | [], ts, e, r, hN, h => ⟨Nat.zero_le _, fun j h => by simp at h⟩
  | t :: l, ts, e, r, hN, h => by
    obtain ⟨x, r0, y, r1, rfl, hx, hqt, h⟩ := h
    have h1 := hq _ _ _ hN hqt
    have h2 := loc_less hl hqt
    rw [List.length_cons] at h2
    rcases h with ⟨_, hk⟩ | ⟨_, _, rfl, _, _⟩
    · obtain ⟨i1, i2⟩ := kids_slim hq hl l r1 e r (by omega) hk
      refine ⟨by rw [List.length_cons]; omega, fun j hj => ?_⟩
      cases j with
      | zero => exact h1
      | succ j => exact i2 j (by simpa using hj)
    · refine ⟨by simp, fun j hj => ?_⟩
      cases j with
      | zero => exact h1
      | succ j => simp at hj
theorem ent_slim {N f : Nat} {q : List Sym → R} (hN : 2 ≤ N) (hq : SlimQ N f q) : SlimQ N (f + 1) (entP q) := by
  intro ts t r hl h
  match ts with
  | [] => cases h
  | [x] =>
    rw [ent_one] at h
    split at h <;> cases h
  | x :: m :: r1 =>
    rw [ent_two] at h
    split at h
    · split at h
      · split at h
        · cases h
        · rename_i v r2 hv
          injection h with h
          injection h with h1 h2
          subst h1
          have hs := hq r1 v r2 (by simp only [List.length_cons] at hl; omega) hv
          refine ⟨_, _, _, _, rfl, hN, fun j hj => ?_⟩
          match j, hj with
          | 0, _ =>
            cases f with
            | zero => exact hs.elim
            | succ f => exact ⟨2, x.2, x.2 + 1, [], rfl, Nat.zero_le _, fun j h => by simp at h⟩
          | 1, _ => exact hs
      · cases h
    · cases h
theorem pv_slim {N : Nat} (hN : 2 ≤ N) : ∀ lv, SlimQ N (2 * lv) (pv lv)
  | 0 => fun ts t r hl h => by
    cases ts with
    | nil => cases h
    | cons x r => unfold pv at h; split at h <;> cases h
  | lv + 1 => fun ts t r hl h => by
    have ih := pv_slim hN lv
    cases ts with
    | nil => cases h
    | cons x r0 =>
      have hl' : r0.length ≤ N := by rw [List.length_cons] at hl; omega
      rw [pv] at h
      split at h
      · injection h with h
        injection h with h1 h2
        subst h1
        exact ⟨1, x.2, x.2 + 1, [], rfl, Nat.zero_le _, fun j h => by simp at h⟩
      · split at h
        · obtain ⟨l, e, rfl, hk⟩ := loop_kids _ _ _ _ _ _ _ _ _ h
          obtain ⟨i1, i2⟩ := kids_slim (ent_slim hN ih) (ent_loc (pv_loc lv)) l r0 e r hl' hk
          exact ⟨3, x.2, e, l, by rw [List.nil_append], by omega, i2⟩
        · split at h
          · obtain ⟨l, e, rfl, hk⟩ := loop_kids _ _ _ _ _ _ _ _ _ h
            obtain ⟨i1, i2⟩ := kids_slim ih (pv_loc lv) l r0 e r hl' hk
            exact ⟨5, x.2, e, l, by rw [List.nil_append], by omega, fun j hj => slim_up N _ _ (i2 j hj)⟩
          · cases h
theorem sols_len (s : ByteArray) (hs : s.size ≤ 20000) : (sols s.data.toList).length ≤ 20000 := by
  have h1 := sol_len s.data.toList (toksL s.data.toList) 0
  have h2 := (good s hs).len
  exact Nat.le_trans h1 h2
/-- A document's tree. -/
theorem doc_slim (s : ByteArray) (hs : s.size ≤ 20000) {t : T} (h : pd (sols s.data.toList) = .inr (t, [])) (n : Nat) : Slim 20000 41 (nd 6 0 n [t]) := by
  have hv := val_alone (pd_val h).2
  have h1 := pv_slim (N := 20000) (by decide) 20 _ _ _ (sols_len s hs) hv
  refine ⟨6, 0, n, [t], rfl, by simp, fun j hj => ?_⟩
  match j, hj with
  | 0, _ => exact h1
/-- A node's cells, and those of its kids. -/
theorem Lies.kids {ok : Nat → Prop} {f : Nat} {w : World} {u0 u1 u2 u3 : Value} {k a e : Nat} {l : List T} (h : Lies ok (f + 1) w [u0, u1, u2, u3] (nd k a e l)) :
    ∃ p c, u0 = .int .i64 (k : Int) ∧ u1 = .int .i64 (a : Int) ∧ u2 = .int .i64 (e : Int) ∧ u3 = .slice p l.length c ∧ l.length ≤ c ∧ (l ≠ [] → ∃ b o, p = some ⟨b, o, none⟩ ∧ b < w.heap.size ∧ ∀ (j : Nat) (h : j < l.length), ∃ x0 x1 x2 x3, w.cell? ⟨b, o + j * 4, none⟩ = some x0 ∧ w.cell? ⟨b, o + j * 4 + 1, none⟩ = some x1 ∧ w.cell? ⟨b, o + j * 4 + 2, none⟩ = some x2 ∧ w.cell? ⟨b, o + j * 4 + 3, none⟩ = some x3 ∧ Lies ok f w [x0, x1, x2, x3] l[j]) := by
  obtain ⟨k', a', e', l', p, cap, ht, hv, hc, hk⟩ := h
  obtain ⟨rfl, rfl, rfl, rfl⟩ := nd_inj ht
  injection hv with h0 hv
  injection hv with h1 hv
  injection hv with h2 hv
  injection hv with h3 _
  refine ⟨p, cap, h0, h1, h2, h3, hc, fun hl => ?_⟩
  obtain ⟨b, o, hp, _, hlt, hj⟩ := hk hl
  refine ⟨b, o, hp, hlt, fun j h => ?_⟩
  obtain ⟨us, hus, hcell, hL⟩ := hj j h
  match us, hus with
  | [x0, x1, x2, x3], _ => exact ⟨x0, x1, x2, x3, hcell 0 (by decide), hcell 1 (by decide), hcell 2 (by decide), hcell 3 (by decide), hL⟩
end Go.Proofs.Ytoikdjbgeebadaa.trees
/- The walk of the document's SameNode. -/
set_option linter.unusedVariables false
namespace Go.Proofs.Ytoikdjbgeebadaa.trees
open Go.RowKit
open toks

set_option maxHeartbeats 4000000 in
set_option maxRecDepth 100000 in
theorem same_step (f : Nat) (ih : ∀ (ok ok' : Nat → Prop) (w : World) (t : T) (a0 a1 a2 a3 b0 b1 b2 b3 : Value), Lies ok f w [a0, a1, a2, a3] t → Lies ok' f w [b0, b1, b2, b3] t → Slim 20000 f t → Calls Try.prog 10 #[.agg #[a0, a1, a2, a3], .agg #[b0, b1, b2, b3]] w fun e w' => e = .returned (.bool true) ∧ Below w.heap.size w w')
    (ok ok' : Nat → Prop) (w : World) (t : T) (a0 a1 a2 a3 b0 b1 b2 b3 : Value) (ha : Lies ok (f + 1) w [a0, a1, a2, a3] t) (hb : Lies ok' (f + 1) w [b0, b1, b2, b3] t) (hs : Slim 20000 (f + 1) t) :
    Calls Try.prog 10 #[.agg #[a0, a1, a2, a3], .agg #[b0, b1, b2, b3]] w fun e w' => e = .returned (.bool true) ∧ Below w.heap.size w w' := by
  obtain ⟨k, a, e, l, rfl, hl, hsl⟩ := hs
  have HA := hide ha
  have HBb := hide hb
  have HS := hide hsl
  have IH := hide ih
  obtain ⟨pa, ca, rfl, rfl, rfl, rfl, hca, _⟩ := ha.kids
  obtain ⟨pb, cb, rfl, rfl, rfl, rfl, hcb, _⟩ := hb.kids
  clear ha hb hsl ih
  have b0 : Below w.heap.size w ((w.alloc (.cells #[.int .i64 (k : Int), .int .i64 (a : Int), .int .i64 (e : Int), .slice pa l.length ca] 24)).alloc (.cells #[.int .i64 (k : Int), .int .i64 (a : Int), .int .i64 (e : Int), .slice pb l.length cb] 24)) := ((Below.refl _ w).alloc (Nat.le_refl _) _).alloc (by simp) _
  have na := Blk.alloc (blk_alloc w #[.int .i64 (k : Int), .int .i64 (a : Int), .int .i64 (e : Int), .slice pa l.length ca] 24) (.cells #[.int .i64 (k : Int), .int .i64 (a : Int), .int .i64 (e : Int), .slice pb l.length cb] 24)
  have nb := blk_alloc (w.alloc (.cells #[.int .i64 (k : Int), .int .i64 (a : Int), .int .i64 (e : Int), .slice pa l.length ca] 24)) #[.int .i64 (k : Int), .int .i64 (a : Int), .int .i64 (e : Int), .slice pb l.length cb] 24
  have e1 : (w.alloc (.cells #[.int .i64 (k : Int), .int .i64 (a : Int), .int .i64 (e : Int), .slice pa l.length ca] 24)).heap.size = w.heap.size + 1 := by simp
  rw [e1] at nb
  have B0 := hide b0
  have NA := hide na
  have NB := hide nb
  clear na nb e1 b0
  go_enter Try.func10, Try.ntmps10
  go_upto_region 1 with fail
  generalize (w.alloc (.cells #[.int .i64 (k : Int), .int .i64 (a : Int), .int .i64 (e : Int), .slice pa l.length ca] 24)).alloc (.cells #[.int .i64 (k : Int), .int .i64 (a : Int), .int .i64 (e : Int), .slice pb l.length cb] 24) = w0 at *
  obtain ⟨c0, c1, c2, c3⟩ := Blk.cells4 (unhide NA)
  obtain ⟨d0, d1, d2, d3⟩ := Blk.cells4 (unhide NB)
  go_wp2_with fail
  clear c0 c1 c2 c3 d0 d1 d2 d3
  go_loopw [37] (fun i wr => ∃ j : Nat, j ≤ l.length ∧ i = .int .i64 j ∧ Hid (Below w0.heap.size w0 wr)) (fun i _ => l.length - (intOf i).toNat)
  case atStart => exact ⟨0, Nat.zero_le _, rfl, hide (Below.refl _ _)⟩
  case round =>
    obtain ⟨j, hj, rfl, HW⟩ := hrel
    by_cases hlt : j < l.length
    · have hne : l ≠ [] := fun e => by rw [e] at hlt; simp at hlt
      have bw := (unhide B0).trans ((unhide HW).mono (unhide B0).size)
      obtain ⟨_, _, _, _, _, e4, _, qa⟩ := ((unhide HA).below bw).kids
      injection e4 with e5 e6 e7
      subst e5 e7
      obtain ⟨ba, oa, rfl, hba, qa⟩ := qa hne
      obtain ⟨x0, x1, x2, x3, g0, g1, g2, g3, hLa⟩ := qa j hlt
      obtain ⟨_, _, _, _, _, e4, _, qb⟩ := ((unhide HBb).below bw).kids
      injection e4 with e5 e6 e7
      subst e5 e7
      obtain ⟨bb, ob, rfl, hbb, qb⟩ := qb hne
      obtain ⟨z0, z1, z2, z3, i0, i1, i2, i3, hLb⟩ := qb j hlt
      have hsj := unhide HS j hlt
      have KK : ∀ n, Hid _ := fun n => hide (unhide IH ok ok' (wr.drewN n) l[j] x0 x1 x2 x3 z0 z1 z2 z3 (hLa.below (below_drewN (Below.refl _ _) n)) (hLb.below (below_drewN (Below.refl _ _) n)) hsj)
      obtain ⟨k1, a1, e1, p1, n1, c1, rfl, rfl, rfl, rfl⟩ := hLa.form
      obtain ⟨k2, a2, e2, p2, n2, c2, rfl, rfl, rfl, rfl⟩ := hLb.form
      have q3 := Blk.cell (Blk.below (unhide NA) (unhide HW)) 3 _ rfl
      have r3 := Blk.cell (Blk.below (unhide NB) (unhide HW)) 3 _ rfl
      have i1' : (j : Int) < (l.length : Int) := by omega
      clear hLa hLb hsj bw qa qb
      go_upto_region 6 with fail
      go_cut [51] from 40 to 50 (fun s51 wx => s51 = .bool false ∧ Hid (Below w0.heap.size w0 wx))
      case first =>
        go_region_with (go_at_call 10
                        refine (unhide (KK 1)).mono ?_
                        rintro e w3 ⟨rfl, b3⟩
                        have B3 : Hid (Below w0.heap.size w0 w3) := hide ((below_drewN (unhide HW) 1).trans (b3.mono (unhide HW).size))
                        clear b3)
        all_goals
          go_wp2_with fail
          go_meet
          exact ⟨rfl, B3⟩
      case rest =>
      obtain ⟨rfl, HX⟩ := hcut
      clear KK q3 r3 g0 g1 g2 g3 i0 i1 i2 i3
      go_wp2
      go_roundw
      case rel => exact ⟨j + 1, hlt, by go_num, HX⟩
      case measure => simp only [intOf]; omega
    · go_wp2
      go_ret
      exact ⟨rfl, (unhide B0).trans ((unhide HW).mono (unhide B0).size)⟩
theorem same_any : ∀ (f : Nat) (ok ok' : Nat → Prop) (w : World) (t : T) (a0 a1 a2 a3 b0 b1 b2 b3 : Value), Lies ok f w [a0, a1, a2, a3] t → Lies ok' f w [b0, b1, b2, b3] t → Slim 20000 f t → Calls Try.prog 10 #[.agg #[a0, a1, a2, a3], .agg #[b0, b1, b2, b3]] w fun e w' => e = .returned (.bool true) ∧ Below w.heap.size w w'
  | 0, _, _, _, _, _, _, _, _, _, _, _, _, h, _, _ => h.elim
  | f + 1, ok, ok', w, t, a0, a1, a2, a3, b0, b1, b2, b3, ha, hb, hs => same_step f (same_any f) ok ok' w t a0 a1 a2 a3 b0 b1 b2 b3 ha hb hs
end Go.Proofs.Ytoikdjbgeebadaa.trees
