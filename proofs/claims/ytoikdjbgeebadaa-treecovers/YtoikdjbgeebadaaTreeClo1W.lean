/- The walk of package tree's closures: they read a kid. -/
import Derived.Test.YtoikdjbgeebadaaTreeEntP
set_option linter.unusedVariables false
namespace Go.Proofs.Ytoikdjbgeebadaa.trees
open Go.RowKit
open toks

set_option maxHeartbeats 1000000 in
set_option maxRecDepth 100000 in
theorem kid_1 (w : World) (B P : Nat) (s : ByteArray) (a : Option Addr) (cap : Nat) (l : List Tk) (i d : Nat) (pl er : Int) (ts : List Sym) (q : List Sym → R) (f : Nat)
    (hr : Rd w B s (.slice a l.length cap) i d pl er) (ht : TkIn w B a l) (hat : At s.data.toList l i ts) (hP : w.cell? ⟨P, 0, none⟩ = some ((.pointer (some ⟨B, 0, none⟩))))
    (VAL : ∀ (u : World) (j : Nat) (pl er : Int) (ts : List Sym), Rd u B s (.slice a l.length cap) j d pl er → TkIn u B a l → At s.data.toList l j ts → Calls Try.prog 48 #[(.pointer (some ⟨B, 0, none⟩))] u (Res B s a cap l d f u (q ts))) :
    Calls Try.prog 47 #[(.pointer (some ⟨P, 0, none⟩))] w (Res B s a cap l d f w (q ts)) := by
  have hB := Blk.lt hr
  have bz : Below w.heap.size w ((World.alloc w (.cells #[.int .i64 0, .int .i64 0, .int .i64 0, .slice none 0 0] 24))) := (Below.refl _ w).alloc (Nat.le_refl _) _
  have KV := hide (VAL ((World.alloc w (.cells #[.int .i64 0, .int .i64 0, .int .i64 0, .slice none 0 0] 24))) i pl er ts (hr.below bz) (ht.below bz) hat)
  have cP : ((World.alloc w (.cells #[.int .i64 0, .int .i64 0, .int .i64 0, .slice none 0 0] 24))).cell? ⟨P, 0, none⟩ = some ((.pointer (some ⟨B, 0, none⟩))) := by
    rw [← hP]
    exact World.cell?_of_block (Below.heap_alloc _ _ _ (World.block_lt_of_cell? w _ hP))
  have HZ := hide (blk_alloc w #[.int .i64 0, .int .i64 0, .int .i64 0, .slice none 0 0] 24)
  have HGZ := hide (grown_alloc (grown_refl w (some B)) (.cells #[.int .i64 0, .int .i64 0, .int .i64 0, .slice none 0 0] 24))
  have hz0 : ((World.alloc w (.cells #[.int .i64 0, .int .i64 0, .int .i64 0, .slice none 0 0] 24))).heap.size = w.heap.size + 1 := by simp
  have HB := hide hB
  clear hr ht hat VAL hB bz hP
  suffices FIN : ∀ Post : Ending → World → Prop, Hid (∀ e w', Res B s a cap l d f w (q ts) e w' → Post e w') → Calls Try.prog 47 #[(.pointer (some ⟨P, 0, none⟩))] w Post from FIN _ (hide fun _ _ h => h)
  intro Post HPost
  go_enter Try.func47, Try.ntmps47
  go_wp2_with fail
  generalize (World.alloc w (.cells #[.int .i64 0, .int .i64 0, .int .i64 0, .slice none 0 0] 24)) = w0 at *
  clear cP
  generalize q ts = qq at *
  cases qq with
  | inl er1 =>
    obtain ⟨c, te⟩ := er1
    refine (unhide KV).mono ?_
    rintro e w7 ⟨g7, rfl, ib, db, rb⟩
    dsimp only
    have zb := Blk.grown (unhide HZ) g7 (fun e => by injection e with e; have := unhide HB; omega)
    obtain ⟨z0, z1, z2, z3⟩ := Blk.cells4 zb
    obtain ⟨y0, y1, y2, y3⟩ := Blk.froz4 zb
    have FE := hide (pass_bad (d := d) (f := f) (unhide HB) (Nat.le_refl _) (unhide HGZ) g7 zb rb)
    clear KV g7 rb zb
    go_wp2
    obtain ⟨FE1, FC⟩ := unhide FE
    refine ret_put (v := .tuple #[(.agg #[.int .i64 0, .int .i64 0, .int .i64 0, .slice none 0 0]), .bool false]) FC (fun wF hF => by obtain ⟨f0, f1, f2, f3⟩ := hF; simp [results, Try.results47, go_sem, f0, f1, f2, f3]) rfl ?_
    exact unhide HPost _ _ FE1
  | inr tr =>
    obtain ⟨v, r2⟩ := tr
    refine (unhide KV).mono ?_
    rintro e w7 ⟨g7, u0, u1, u2, u3, rfl, hL, ib, plb, erb, rb, ab⟩
    dsimp only
    obtain ⟨k0, a0, e0, pk, nk, ck, rfl, rfl, rfl, rfl, he0, f', rfl⟩ := hL.form'
    have zb := Blk.grown (unhide HZ) g7 (fun e => by injection e with e; have := unhide HB; omega)
    obtain ⟨z0, z1, z2, z3⟩ := Blk.cells4 zb
    obtain ⟨y0, y1, y2, y3⟩ := Blk.froz4 zb
    have FE := hide (pass_good (d := d) (unhide HB) (Nat.le_refl _) (by omega) (unhide HGZ) g7 zb hL rb ab)
    clear KV g7 rb zb hL ab he0
    go_wp2
    obtain ⟨FE1, FC⟩ := unhide FE
    refine ret_put (v := .tuple #[.agg #[.int .i64 (k0 : Int), .int .i64 (a0 : Int), .int .i64 (e0 : Int), .slice pk nk ck], .bool true]) FC (fun wF hF => by obtain ⟨f0, f1, f2, f3⟩ := hF; simp [results, Try.results47, go_sem, f0, f1, f2, f3]) rfl ?_
    exact unhide HPost _ _ FE1
end Go.Proofs.Ytoikdjbgeebadaa.trees
