/- The walks of package tree: a reader is made; a document. -/
import Derived.Test.YtoikdjbgeebadaaTreeParseW
set_option linter.unusedVariables false
namespace Go.Proofs.Ytoikdjbgeebadaa.trees
open Go.RowKit
open toks

theorem tkIn_of {w : World} {a : Option Addr} {l : List Tk} (h : RowT w a l) (o : Obj) : TkIn (w.alloc o) w.heap.size a l := by
  intro h0
  have h' := h.below ((Below.refl _ w).alloc (Nat.le_refl _) o) h0
  obtain ⟨b, o', e, hb, hc⟩ := h h0
  obtain ⟨b2, o2, e2, _, hc2⟩ := h'
  rw [e] at e2
  injection e2 with e2
  injection e2 with e3 e4
  subst e3 e4
  exact ⟨b, o', e, hb, hc2⟩
set_option maxHeartbeats 1000000 in
set_option maxRecDepth 100000 in
theorem newReader_any (w : World) (s : ByteArray) (a : Option Addr) (cap : Nat) (l : List Tk) (hrow : RowT w a l) (g : Good s l) :
    Calls Try.prog 17 #[.string s, .slice a l.length cap] w fun e w' => ∃ j, e = .returned (.pointer (some ⟨w.heap.size, 0, none⟩)) ∧ Nxt l 0 j ∧ Rd w' w.heap.size s (.slice a l.length cap) j 0 0 0 ∧ TkIn w' w.heap.size a l ∧ Below w.heap.size w w' := by
  have rd0 : Rd (w.alloc (.cells #[.string s, .slice a l.length cap, .int .i64 0, .int .i64 0, .int .i64 0, .int .i64 0] 47)) w.heap.size s (.slice a l.length cap) 0 0 0 0 := blk_alloc w _ _
  have tk0 := tkIn_of hrow (.cells #[.string s, .slice a l.length cap, .int .i64 0, .int .i64 0, .int .i64 0, .int .i64 0] 47)
  have K := hide (goOn_any _ w.heap.size s a cap l 0 0 0 0 0 rd0 tk0 g (Nat.zero_le _))
  have TK := hide tk0
  have b0 := hide ((Below.refl _ w).alloc (Nat.le_refl _) (.cells #[.string s, .slice a l.length cap, .int .i64 0, .int .i64 0, .int .i64 0, .int .i64 0] 47))
  clear rd0 tk0 hrow g
  go_enter Try.func17, Try.ntmps17
  go_wp2_with fail
  refine (unhide K).mono ?_
  rintro e w2 ⟨j, rfl, h1, h2, h3⟩
  dsimp only
  have R : Hid (Nxt l 0 j ∧ Rd w2 w.heap.size s (.slice a l.length cap) j 0 0 0 ∧ TkIn w2 w.heap.size a l ∧ Below w.heap.size w w2) := hide ⟨h1, h2, (unhide TK).grown h3, (unhide b0).grown h3 (by simp) (fun k hk => by injection hk with hk; omega)⟩
  clear K h1 h2 h3 TK b0
  go_wp2
  go_ret
  exact ⟨j, rfl, unhide R⟩
/-- What a document is read as. -/
def docR (n : Nat) (ts : List Sym) : R :=
  match pd ts with
  | .inl e => .inl e
  | .inr (t, _) => .inr (nd 6 0 n [t], [])
theorem docR_bad {n : Nat} {ts : List Sym} {e : Nat × List Sym} (h : pv 20 ts = .inl e) : docR n ts = .inl e := by
  unfold docR pd
  rw [h]
theorem docR_more {n : Nat} {ts r : List Sym} {t : T} {y : Sym} (h : pv 20 ts = .inr (t, y :: r)) : docR n ts = .inl (4, y :: r) := by
  unfold docR pd
  rw [h]
theorem docR_good {n : Nat} {ts : List Sym} {t : T} (h : pv 20 ts = .inr (t, [])) : docR n ts = .inr (nd 6 0 n [t], []) := by
  unfold docR pd
  rw [h]
theorem lies_one {ok : Nat → Prop} {f : Nat} {w : World} {S : Nat} {k a e : Nat} {u0 u1 u2 u3 : Value} {v : T} {t : TypeId} (hS : Blk w S #[u0, u1, u2, u3] t) (hok : ok S) (hv : Lies ok f w [u0, u1, u2, u3] v) :
    Lies ok (f + 1) w [.int .i64 (k : Int), .int .i64 (a : Int), .int .i64 (e : Int), .slice (some ⟨S, 0, none⟩) 1 1] (nd k a e [v]) := by
  refine ⟨k, a, e, [v], some ⟨S, 0, none⟩, 1, rfl, rfl, Nat.le_refl _, fun _ => ⟨S, 0, rfl, hok, Blk.lt hS, fun j hj => ?_⟩⟩
  match j, hj with
  | 0, _ =>
    refine ⟨[u0, u1, u2, u3], rfl, fun m hm => ?_, hv⟩
    match m, hm with
    | 0, _ => exact Blk.cell hS 0 _ rfl
    | 1, _ => exact Blk.cell hS 1 _ rfl
    | 2, _ => exact Blk.cell hS 2 _ rfl
    | 3, _ => exact Blk.cell hS 3 _ rfl
set_option maxHeartbeats 2000000 in
set_option maxRecDepth 100000 in
theorem document_any (w : World) (B : Nat) (s : ByteArray) (a : Option Addr) (cap : Nat) (l : List Tk) (i : Nat) (pl er : Int) (ts : List Sym)
    (hr : Rd w B s (.slice a l.length cap) i 0 pl er) (ht : TkIn w B a l) (g : Good s l) (hat : At s.data.toList l i ts) :
    Calls Try.prog 18 #[(.pointer (some ⟨B, 0, none⟩))] w (Res B s a cap l 0 41 w (docR l.length ts)) := by
  have hB := Blk.lt hr
  have bz : Below w.heap.size w ((World.alloc w (.cells #[.int .i64 0, .int .i64 0, .int .i64 0, .slice none 0 0] 24))) := (Below.refl _ w).alloc (Nat.le_refl _) _
  have KV := hide (value_all B s a cap l g 20 0 rfl ((World.alloc w (.cells #[.int .i64 0, .int .i64 0, .int .i64 0, .slice none 0 0] 24))) i pl er ts (hr.below bz) (ht.below bz) hat)
  have HT := hide ht
  have HG := hide g
  have HZ := hide (blk_alloc w #[.int .i64 0, .int .i64 0, .int .i64 0, .slice none 0 0] 24)
  have HGZ := hide (grown_alloc (grown_refl w (some B)) (.cells #[.int .i64 0, .int .i64 0, .int .i64 0, .slice none 0 0] 24))
  have hz0 : ((World.alloc w (.cells #[.int .i64 0, .int .i64 0, .int .i64 0, .slice none 0 0] 24))).heap.size = w.heap.size + 1 := by simp
  have HB := hide hB
  have hl := g.len
  clear hr ht hat hB bz g
  suffices FIN : ∀ Post : Ending → World → Prop, Hid (∀ e w', Res B s a cap l 0 41 w (docR l.length ts) e w' → Post e w') → Calls Try.prog 18 #[(.pointer (some ⟨B, 0, none⟩))] w Post from FIN _ (hide fun _ _ h => h)
  intro Post HPost
  go_enter Try.func18, Try.ntmps18
  go_wp2_with fail
  generalize (World.alloc w (.cells #[.int .i64 0, .int .i64 0, .int .i64 0, .slice none 0 0] 24)) = w0 at *
  cases hq : pv 20 ts with
  | inl er1 =>
    obtain ⟨c, te⟩ := er1
    have RES := hide (docR_bad (n := l.length) hq)
    rw [hq] at KV
    clear hq
    refine (unhide KV).mono ?_
    rintro e w7 ⟨g7, rfl, ib, db, rb⟩
    dsimp only
    have g8 := grown_alloc g7 (.cells #[.int .i64 0, .int .i64 0, .int .i64 0, .slice none 0 0] 24)
    have zb := Blk.grown (unhide HZ) g8 (fun e => by injection e with e; have := unhide HB; omega)
    obtain ⟨z0, z1, z2, z3⟩ := Blk.cells4 zb
    obtain ⟨y0, y1, y2, y3⟩ := Blk.froz4 zb
    have FE := hide (pass_bad (d := 0) (f := 41) (unhide HB) (Nat.le_refl _) (unhide HGZ) g8 zb (Blk.alloc rb _))
    clear KV g7 g8 rb zb
    go_wp2
    obtain ⟨FE1, FC⟩ := unhide FE
    refine ret_put (v := .tuple #[(.agg #[.int .i64 0, .int .i64 0, .int .i64 0, .slice none 0 0]), .bool false]) FC (fun wF hF => by obtain ⟨f0, f1, f2, f3⟩ := hF; simp [results, Try.results18, go_sem, f0, f1, f2, f3]) rfl ?_
    refine unhide HPost _ _ ?_
    rw [unhide RES]
    exact FE1
  | inr tr =>
    obtain ⟨t, rest⟩ := tr
    have HQ := hide hq
    rw [hq] at KV
    clear hq
    refine (unhide KV).mono ?_
    rintro e w7 ⟨g7, u0, u1, u2, u3, rfl, hL, ib, plb, erb, rb, ab⟩
    dsimp only
    obtain ⟨k0, a0, e0, pk, nk, ck, rfl, rfl, rfl, rfl⟩ := hL.form
    have b8 : Below w7.heap.size w7 (w7.alloc (.cells #[.int .i64 (k0 : Int), .int .i64 (a0 : Int), .int .i64 (e0 : Int), .slice pk nk ck] 24)) := (Below.refl _ w7).alloc (Nat.le_refl _) _
    have rb8 := rb.below b8
    have c1 := Blk.cell rb8 1 _ rfl
    have c2 := Blk.cell rb8 2 _ rfl
    have g8 := grown_trans g7 (grown_below b8)
    have zb := Blk.grown (unhide HZ) g8 (fun e => by injection e with e; have := unhide HB; omega)
    have vb := blk_alloc w7 #[.int .i64 (k0 : Int), .int .i64 (a0 : Int), .int .i64 (e0 : Int), .slice pk nk ck] 24
    have hL8 := hL.below b8
    have RB8 := hide rb8
    have G8 := hide g8
    have ZB8 := hide zb
    have VB8 := hide vb
    have HL8 := hide hL8
    have hs8 : w0.heap.size ≤ w7.heap.size := g7.size
    cases rest with
    | cons y r =>
      have RES := hide (docR_more (n := l.length) (unhide HQ))
      obtain ⟨hi, _, _⟩ := at_two ab
      have i1 : (ib : Int) < (l.length : Int) := by omega
      have KR := fun n : Nat => hide (refuse_any ((w7.alloc (.cells #[.int .i64 (k0 : Int), .int .i64 (a0 : Int), .int .i64 (e0 : Int), .slice pk nk ck] 24)).drewN n) B s a cap l ib 0 plb erb (y :: r) 4 (by decide) (rb8.below (below_drewN (Below.refl _ _) n)) (((unhide HT).grown (grown_trans (unhide HGZ) g8)).below (below_drewN (Below.refl _ _) n)) (unhide HG) ab)
      clear KV g7 rb ab hL rb8 g8 zb vb hL8 b8 HQ HL8 VB8
      go_wp2_with fail
      generalize hw8 : w7.alloc (.cells #[.int .i64 (k0 : Int), .int .i64 (a0 : Int), .int .i64 (e0 : Int), .slice pk nk ck] 24) = w8 at *
      clear hw8
      go_quiet (fail)
      go_wp2_with fail
      refine (unhide (KR nq)).mono ?_
      rintro e w9 ⟨rfl, rd9, g9⟩
      dsimp only
      have g9' : w0.grownBy w9 (some B) := grown_trans (grown_trans (unhide G8) (grown_drewN (grown_refl w8 _) nq)) g9
      have zb := Blk.grown (unhide HZ) g9' (fun e => by injection e with e; have := unhide HB; omega)
      obtain ⟨z0, z1, z2, z3⟩ := Blk.cells4 zb
      obtain ⟨y0, y1, y2, y3⟩ := Blk.froz4 zb
      have FE := hide (pass_bad (d := 0) (f := 41) (unhide HB) (Nat.le_refl _) (unhide HGZ) g9' zb rd9)
      clear KR rd9 g9 g9' zb
      go_wp2
      obtain ⟨FE1, FC⟩ := unhide FE
      refine ret_put (v := .tuple #[(.agg #[.int .i64 0, .int .i64 0, .int .i64 0, .slice none 0 0]), .bool false]) FC (fun wF hF => by obtain ⟨f0, f1, f2, f3⟩ := hF; simp [results, Try.results18, go_sem, f0, f1, f2, f3]) rfl ?_
      refine unhide HPost _ _ ?_
      rw [unhide RES]
      exact FE1
    | nil =>
      have RES := hide (docR_good (n := l.length) (unhide HQ))
      have hib := at_nil ab
      have i1 : ¬ (ib : Int) < (l.length : Int) := by omega
      have d1 : decide ((ib : Int) < (l.length : Int)) = false := decide_eq_false i1
      have AB := hide ab
      clear KV g7 rb ab hL rb8 g8 zb vb hL8 b8 HQ hib
      go_wp2_with fail
      generalize hw8 : w7.alloc (.cells #[.int .i64 (k0 : Int), .int .i64 (a0 : Int), .int .i64 (e0 : Int), .slice pk nk ck] 24) = w8 at *
      clear hw8
      go_quiet (fail)
      obtain ⟨j0, j1, j2, j3⟩ := Blk.cells4 (unhide VB8)
      have ba : ∀ n : Nat, Below w8.heap.size w8 ((w8.drewN n).alloc (.cells #[.int .i64 (k0 : Int), .int .i64 (a0 : Int), .int .i64 (e0 : Int), .slice pk nk ck] 24)) := fun n => (below_drewN (Below.refl _ _) n).alloc (Nat.le_refl _) _
      have zn := fun n => Blk.below (unhide ZB8) (ba n)
      have z0 := fun n => Blk.cell (zn n) 0 _ rfl
      have z1 := fun n => Blk.cell (zn n) 1 _ rfl
      have z2 := fun n => Blk.cell (zn n) 2 _ rfl
      have z3 := fun n => Blk.cell (zn n) 3 _ rfl
      have y0 := fun n => Blk.froz (zn n) 0
      have y1 := fun n => Blk.froz (zn n) 1
      have y2 := fun n => Blk.froz (zn n) 2
      have y3 := fun n => Blk.froz (zn n) 3
      have d1' := fun n => Blk.cell ((unhide RB8).below (ba n)) 1 (.slice a l.length cap) rfl
      have bS := blk_alloc (w8.drewN (nq + 1)) #[.int .i64 (k0 : Int), .int .i64 (a0 : Int), .int .i64 (e0 : Int), .slice pk nk ck] 24
      have LO := lies_one (k := 6) (a := 0) (e := l.length) bS (show w0.heap.size ≤ w8.heap.size from (unhide G8).size) ((unhide HL8).below (ba (nq + 1)))
      have FE := hide (pass_good (d := 0) (f := 41) (unhide HB) (Nat.le_refl _) (by omega) (unhide HGZ) (grown_trans (unhide G8) (grown_below (ba (nq + 1)))) (zn (nq + 1)) LO ((unhide RB8).below (ba (nq + 1))) (unhide AB))
      clear zn ba bS LO
      go_wp2_with fail
      go_region
      clear z0 z1 z2 z3 y0 y1 y2 y3 d1' j0 j1 j2 j3 c1 c2
      go_wp2
      obtain ⟨FE1, FC⟩ := unhide FE
      refine ret_put (v := .tuple #[.agg #[.int .i64 6, .int .i64 0, .int .i64 (l.length : Int), .slice (some ⟨w8.heap.size, 0, none⟩) 1 1], .bool true]) FC (fun wF hF => by obtain ⟨f0, f1, f2, f3⟩ := hF; simp [results, Try.results18, go_sem, f0, f1, f2, f3]) rfl ?_
      refine unhide HPost _ _ ?_
      rw [unhide RES]
      exact FE1
end Go.Proofs.Ytoikdjbgeebadaa.trees
