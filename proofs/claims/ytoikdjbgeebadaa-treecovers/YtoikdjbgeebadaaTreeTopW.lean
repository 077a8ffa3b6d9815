/- The walk of package tree's Parse. -/
import Derived.Test.YtoikdjbgeebadaaTreeDocW
set_option linter.unusedVariables false
namespace Go.Proofs.Ytoikdjbgeebadaa.trees
open Go.RowKit
open toks

/-- What a text is parsed to. -/
def PR (s : ByteArray) (l : List Tk) (q : R) (w : World) (e : Ending) (w' : World) : Prop :=
  Below w.heap.size w w' ∧
  match q with
  | .inl (c, ts) => e = .returned (.tuple #[(.agg #[.int .i64 0, .int .i64 0, .int .i64 0, .slice none 0 0]), .int .i64 (placeOf s l ts : Int), .int .i64 (c : Int)])
  | .inr (t, _) => ∃ u0 u1 u2 u3, e = .returned (.tuple #[.agg #[u0, u1, u2, u3], .int .i64 0, .int .i64 0]) ∧ Lies (fun b => w.heap.size ≤ b) 41 w' [u0, u1, u2, u3] t
theorem below_put4 {n : Nat} {w w' : World} {R0 : Nat} (h : Below n w w') (hn : n ≤ R0) (u0 u1 u2 u3 : Value) : Below n w (put4 w' R0 u0 u1 u2 u3) :=
  (((h.setCell (p := ⟨R0, 0, none⟩) hn u0).setCell (p := ⟨R0, 1, none⟩) hn u1).setCell (p := ⟨R0, 2, none⟩) hn u2).setCell (p := ⟨R0, 3, none⟩) hn u3
theorem sols_at (s : ByteArray) {j : Nat} (h : Nxt (toksL s.data.toList) 0 j) : At s.data.toList (toksL s.data.toList) j (sols s.data.toList) := by
  have := h.at (L := s.data.toList)
  rw [List.drop_zero] at this
  exact this
theorem cells4_drew {w : World} {b : Nat} {u0 u1 u2 u3 : Value} (h : Cells4 w b u0 u1 u2 u3) : Cells4 w.drew b u0 u1 u2 u3 := ⟨h.c0, h.c1, h.c2, h.c3⟩
theorem ret_cells {P : Program} {fn : Func} {Post : Ending → World → Prop} {a : Act} {w : World} {R0 : Nat} {u0 u1 u2 u3 v : Value} (hc : Cells4 w R0 u0 u1 u2 u3) (hr : ∀ wF, Cells4 wF R0 u0 u1 u2 u3 → (results fn a.tmps).run P wF = .ok v wF) (hd : a.defers = []) (hP : Post (.returned v) w) : bodyPost P fn Post .ret a w :=
  bodyPost_ret (hr _ hc) hd hP
set_option maxHeartbeats 1000000 in
set_option maxRecDepth 100000 in
theorem parse_large (w : World) (s : ByteArray) (hs : 20000 < s.size) :
    Calls Try.prog 8 #[.string s] w fun e w' => e = .returned (.tuple #[(.agg #[.int .i64 0, .int .i64 0, .int .i64 0, .slice none 0 0]), .int .i64 0, .int .i64 2]) ∧ Below w.heap.size w w' := by
  have K1 := hide (cut_large s ((World.alloc w (.cells #[.int .i64 0, .int .i64 0, .int .i64 0, .slice none 0 0] 24))) hs)
  have zb := blk_alloc w #[.int .i64 0, .int .i64 0, .int .i64 0, .slice none 0 0] 24
  have bz : Below w.heap.size w ((World.alloc w (.cells #[.int .i64 0, .int .i64 0, .int .i64 0, .slice none 0 0] 24))) := (Below.refl _ w).alloc (Nat.le_refl _) _
  obtain ⟨z0, z1, z2, z3⟩ := Blk.cells4 zb
  obtain ⟨y0, y1, y2, y3⟩ := Blk.froz4 zb
  have FC := hide (Blk.cells4 (put4_blk zb (.int .i64 0) (.int .i64 0) (.int .i64 0) (.slice none 0 0)))
  have FB := hide (below_put4 bz (Nat.le_refl _) (.int .i64 0) (.int .i64 0) (.int .i64 0) (.slice none 0 0))
  clear hs zb bz
  go_enter Try.func8, Try.ntmps8
  go_wp2_with fail
  generalize (World.alloc w (.cells #[.int .i64 0, .int .i64 0, .int .i64 0, .slice none 0 0] 24)) = w0 at *
  refine (unhide K1).mono ?_
  rintro e w1 ⟨rfl, hw⟩
  rw [hw]
  dsimp only
  clear hw K1
  go_wp2
  refine ret_put (v := .tuple #[(.agg #[.int .i64 0, .int .i64 0, .int .i64 0, .slice none 0 0]), .int .i64 0, .int .i64 2]) (unhide FC) (fun wF hF => by obtain ⟨f0, f1, f2, f3⟩ := hF; simp [results, Try.results8, go_sem, f0, f1, f2, f3]) rfl ?_
  exact ⟨rfl, unhide FB⟩
set_option maxHeartbeats 2000000 in
set_option maxRecDepth 100000 in
theorem parse_any (w : World) (s : ByteArray) (hs : s.size ≤ 20000) (hM : MaxOk w) :
    Calls Try.prog 8 #[.string s] w (PR s (toksL s.data.toList) (docR (toksL s.data.toList).length (sols s.data.toList)) w) := by
  have bz : Below w.heap.size w ((World.alloc w (.cells #[.int .i64 0, .int .i64 0, .int .i64 0, .slice none 0 0] 24))) := (Below.refl _ w).alloc (Nat.le_refl _) _
  have K1 := hide (cut_any s ((World.alloc w (.cells #[.int .i64 0, .int .i64 0, .int .i64 0, .slice none 0 0] 24))) hs (hM.below (Nat.le_refl _) bz))
  have zb := hide (blk_alloc w #[.int .i64 0, .int .i64 0, .int .i64 0, .slice none 0 0] 24)
  have BZ := hide bz
  have hz0 : ((World.alloc w (.cells #[.int .i64 0, .int .i64 0, .int .i64 0, .slice none 0 0] 24))).heap.size = w.heap.size + 1 := by simp
  have g := hide (good s hs)
  have AT := hide (fun j => sols_at s (j := j))
  clear hM bz
  generalize sols s.data.toList = ts at *
  generalize toksL s.data.toList = l at *
  suffices FIN : ∀ Post : Ending → World → Prop, Hid (∀ e w', PR s l (docR l.length ts) w e w' → Post e w') → Calls Try.prog 8 #[.string s] w Post from FIN _ (hide fun _ _ h => h)
  intro Post HPost
  go_enter Try.func8, Try.ntmps8
  go_wp2_with fail
  generalize (World.alloc w (.cells #[.int .i64 0, .int .i64 0, .int .i64 0, .slice none 0 0] 24)) = w0 at *
  refine (unhide K1).mono ?_
  rintro e w1 ⟨v, rfl, ⟨a, cap, rfl, hcap, row⟩, b1⟩
  dsimp only
  have K2 := hide (newReader_any w1 s a cap l row (unhide g))
  have B1 := hide ((unhide BZ).trans (b1.mono (unhide BZ).size))
  have zb1 := hide (Blk.below (unhide zb) b1)
  have hs1 : w0.heap.size ≤ w1.heap.size := b1.size
  clear K1 row b1 zb BZ
  go_wp2_with fail
  refine (unhide K2).mono ?_
  rintro e w2 ⟨j, rfl, nx, rd, tk, b2⟩
  dsimp only
  have K3 := hide (document_any w2 w1.heap.size s a cap l j 0 0 ts rd tk (unhide g) (unhide AT j nx))
  have B2 := hide ((unhide B1).trans (b2.mono (unhide B1).size))
  have zb2 := hide (Blk.below (unhide zb1) b2)
  have hs2 : w1.heap.size ≤ w2.heap.size := b2.size
  clear K2 rd tk nx b2 B1 zb1 AT
  go_wp2_with fail
  refine (unhide K3).mono ?_
  generalize docR l.length ts = qq at *
  cases qq with
  | inl er1 =>
    obtain ⟨c, te⟩ := er1
    rintro e w3 ⟨g3, rfl, ib, db, rb⟩
    dsimp only
    have B3 := ((unhide B2).grown g3 (unhide B2).size (fun k hk => by injection hk with hk; omega)).alloc (Nat.le_trans (unhide B2).size g3.size) (.cells #[.int .i64 0, .int .i64 0, .int .i64 0, .slice none 0 0] 24)
    have zb3 := Blk.alloc (Blk.grown (unhide zb2) g3 (fun e => by injection e with e; omega)) (.cells #[.int .i64 0, .int .i64 0, .int .i64 0, .slice none 0 0] 24)
    have rb3 : Rd ((World.alloc w3 (.cells #[.int .i64 0, .int .i64 0, .int .i64 0, .slice none 0 0] 24))) w1.heap.size s (.slice a l.length cap) ib db _ _ := Blk.alloc rb _
    have c4 := Blk.cell rb3 4 _ rfl
    have c5 := Blk.cell rb3 5 _ rfl
    have HB3 := hide B3
    have HZ3 := hide zb3
    clear K3 g3 rb B3 zb3 rb3 B2 zb2
    go_wp2_with fail
    generalize (World.alloc w3 (.cells #[.int .i64 0, .int .i64 0, .int .i64 0, .slice none 0 0] 24)) = w4 at *
    obtain ⟨z0, z1, z2, z3⟩ := Blk.cells4 (unhide HZ3)
    obtain ⟨y0, y1, y2, y3⟩ := Blk.froz4 (unhide HZ3)
    have FC := hide (Blk.cells4 (put4_blk (unhide HZ3) (.int .i64 0) (.int .i64 0) (.int .i64 0) (.slice none 0 0)))
    have FB := hide (below_put4 (unhide HB3) (Nat.le_refl _) (.int .i64 0) (.int .i64 0) (.int .i64 0) (.slice none 0 0))
    go_region
    clear z0 z1 z2 z3 y0 y1 y2 y3 c4 c5
    go_wp2
    refine ret_cells (v := .tuple #[(.agg #[.int .i64 0, .int .i64 0, .int .i64 0, .slice none 0 0]), .int .i64 (placeOf s l te : Int), .int .i64 (c : Int)]) (cells4_drew (unhide FC)) (fun wF hF => by obtain ⟨f0, f1, f2, f3⟩ := hF; simp [results, Try.results8, go_sem, f0, f1, f2, f3]) rfl ?_
    exact unhide HPost _ _ ⟨(unhide FB).drew, rfl⟩
  | inr tr =>
    obtain ⟨t, rest⟩ := tr
    rintro e w3 ⟨g3, u0, u1, u2, u3, rfl, hL, ib, plb, erb, rb, ab⟩
    dsimp only
    obtain ⟨k0, a0, e0, pk, nk, ck, rfl, rfl, rfl, rfl⟩ := hL.form
    have b8 : Below w3.heap.size w3 (w3.alloc (.cells #[.int .i64 (k0 : Int), .int .i64 (a0 : Int), .int .i64 (e0 : Int), .slice pk nk ck] 24)) := (Below.refl _ w3).alloc (Nat.le_refl _) _
    have B3 := ((unhide B2).grown g3 (unhide B2).size (fun k hk => by injection hk with hk; omega)).alloc (Nat.le_trans (unhide B2).size g3.size) (.cells #[.int .i64 (k0 : Int), .int .i64 (a0 : Int), .int .i64 (e0 : Int), .slice pk nk ck] 24)
    have zb3 := Blk.alloc (Blk.grown (unhide zb2) g3 (fun e => by injection e with e; omega)) (.cells #[.int .i64 (k0 : Int), .int .i64 (a0 : Int), .int .i64 (e0 : Int), .slice pk nk ck] 24)
    obtain ⟨j0, j1, j2, j3⟩ := Blk.cells4 (blk_alloc w3 #[.int .i64 (k0 : Int), .int .i64 (a0 : Int), .int .i64 (e0 : Int), .slice pk nk ck] 24)
    obtain ⟨z0, z1, z2, z3⟩ := Blk.cells4 zb3
    obtain ⟨y0, y1, y2, y3⟩ := Blk.froz4 zb3
    have FC := hide (Blk.cells4 (put4_blk zb3 (.int .i64 (k0 : Int)) (.int .i64 (a0 : Int)) (.int .i64 (e0 : Int)) (.slice pk nk ck)))
    have FB := hide (below_put4 B3 (Nat.le_refl _) (.int .i64 (k0 : Int)) (.int .i64 (a0 : Int)) (.int .i64 (e0 : Int)) (.slice pk nk ck))
    have FL := hide ((put4_lies (R0 := w.heap.size) (hL.below b8) (fun b hb => by omega) (.int .i64 (k0 : Int)) (.int .i64 (a0 : Int)) (.int .i64 (e0 : Int)) (.slice pk nk ck)).weaken (ok' := fun b => w.heap.size ≤ b) (fun b hb => by omega))
    clear K3 g3 rb B3 zb3 B2 zb2 b8 hL ab
    go_wp2
    refine ret_put (v := .tuple #[.agg #[.int .i64 (k0 : Int), .int .i64 (a0 : Int), .int .i64 (e0 : Int), .slice pk nk ck], .int .i64 0, .int .i64 0]) (unhide FC) (fun wF hF => by obtain ⟨f0, f1, f2, f3⟩ := hF; simp [results, Try.results8, go_sem, f0, f1, f2, f3]) rfl ?_
    exact unhide HPost _ _ ⟨unhide FB, _, _, _, _, rfl, unhide FL⟩
end Go.Proofs.Ytoikdjbgeebadaa.trees
