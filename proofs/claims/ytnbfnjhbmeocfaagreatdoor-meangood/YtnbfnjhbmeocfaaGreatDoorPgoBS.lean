/- Of our texts, what this claim reaches. -/
import Derived.Test.YtnbfnjhbmeocfaaGreatDoorPgoBQ
import Derived.Test.YtnbfnjhbmeocfaaGreatDoorPgoBR
import Derived.Test.YtnbfnjhbmeocfaaGreatDoorPgoAA
import Derived.Test.YtnbfnjhbmeocfaaGreatDoorPgoAE
import Derived.Shelf.SlSortCmp.NoneTotal
set_option linter.unusedVariables false
namespace Go.Proofs.YtnbfnjhbmeocfaaGreatDoor.valus
open Go.RowKit Go.Shelf Go.Sort

theorem byteM_lt {x y : UInt8} : x < y ↔ (x.toNat : Int) < (y.toNat : Int) := by rw [UInt8.lt_iff_toNat_lt]; omega
theorem strsM_cmp : ∀ a b : List UInt8, Lib.compareBytes a b = ordI (cmpB a b)
  | [], [] => rfl
  | [], _ :: _ => rfl
  | _ :: _, [] => rfl
  | x :: r, y :: t => by
    have ih := strsM_cmp r t
    have d : Lib.compareBytes (x :: r) (y :: t) = if x < y then -1 else if y < x then 1 else Lib.compareBytes r t := rfl
    have e : cmpB (x :: r) (y :: t) = thenC (cmpI (x.toNat : Int) (y.toNat : Int)) (cmpB r t) := rfl
    rw [d, e, ih]
    unfold cmpI
    by_cases h1 : x < y
    · rw [if_pos h1, if_pos (byteM_lt.1 h1)]
      rfl
    · rw [if_neg h1]
      by_cases h2 : y < x
      · have := byteM_lt.1 h2
        rw [if_pos h2, if_neg (by omega), if_neg (by omega)]
        rfl
      · have a1 : ¬ (x.toNat : Int) < (y.toNat : Int) := fun h => h1 (byteM_lt.2 h)
        have a2 : ¬ (y.toNat : Int) < (x.toNat : Int) := fun h => h2 (byteM_lt.2 h)
        rw [if_neg h2, if_neg a1, if_pos (by omega)]
        rfl
abbrev Cel := ByteArray × (Int × Int × Nat × ByteArray) × (Option Addr × Nat × Nat) × (Option Addr × Nat × Nat)
def encC (x : Cel) : List Value := [.string x.1, .int .i64 x.2.1.1, .int .i64 x.2.1.2.1, .int .u64 (x.2.1.2.2.1 : Int), .string x.2.1.2.2.2, .slice x.2.2.1.1 x.2.2.1.2.1 x.2.2.1.2.2, .slice x.2.2.2.1 x.2.2.2.2.1 x.2.2.2.2.2]
theorem encC_one (x : Cel) : ∀ v ∈ encC x, Value.oneCell' v = true := fun v hv => by
  simp only [encC, List.mem_cons, List.not_mem_nil, or_false] at hv
  rcases hv with rfl | rfl | rfl | rfl | rfl | rfl | rfl <;> rfl
def cfC (x y : Cel) : Int := Lib.compareBytes x.1.data.toList y.1.data.toList
theorem ltC (x y : Cel) : ltOf cfC x y = decide (cmpB x.1.data.toList y.1.data.toList = .lt) := by
  unfold ltOf cfC
  rw [strsM_cmp]
  cases cmpB x.1.data.toList y.1.data.toList <;> rfl
theorem ordC : SWO (ltOf cfC) := by
  refine ⟨fun x => ?_, fun x y z h1 h2 => ?_, fun x y z h1 h2 => ?_⟩
  · rw [ltC]
    exact decide_eq_false (cmpB_irr _)
  · rw [ltC] at h1 h2 ⊢
    exact decide_eq_true (cmpB_trans (of_decide_eq_true h1) (of_decide_eq_true h2))
  · rw [ltC] at h1 h2 ⊢
    refine decide_eq_false fun h => ?_
    have n1 := of_decide_eq_false h1
    have n2 := of_decide_eq_false h2
    by_cases e1 : y.1.data.toList = x.1.data.toList
    · rw [e1] at n2
      exact n2 h
    · exact n2 (cmpB_trans (cmpB_gt n1 e1) h)
theorem cmpC_lays (w : World) (blk off size : Nat) : CmpLays Tryz.prog 115 #[] encC 7 cfC blk off size w := by
  intro m os dk hs x y
  obtain ⟨k1, ⟨a1, a2, a3, a4⟩, ⟨a5, a6, a7⟩, ⟨a8, a9, a10⟩⟩ := x
  obtain ⟨k2, ⟨b1, b2, b3, b4⟩, ⟨b5, b6, b7⟩, ⟨b8, b9, b10⟩⟩ := y
  refine (byKey_any (sortWorldK encC 7 w blk off m dk os) k1 a1 a2 (a3 : Int) a4 a5 a6 a7 a8 a9 a10 k2 b1 b2 (b3 : Int) b4 b5 b6 b7 b8 b9 b10).mono ?_
  rintro e w' ⟨rfl, rfl⟩
  exact ⟨rfl, 0, _, by rw [alloc_eq_grow, alloc_eq_grow, grow_grow]; rfl⟩
theorem perm_pairs {α β : Type} {l l' : List α} (h : l'.Perm l) : ∀ L : List (α × β), L.map Prod.fst = l → ∃ L' : List (α × β), L'.Perm L ∧ L'.map Prod.fst = l' := by
  induction h with
  | nil => exact fun L hL => ⟨[], by rw [List.map_eq_nil_iff.1 hL], rfl⟩
  | cons x h ih =>
    intro L hL
    cases L with
    | nil => simp at hL
    | cons p L =>
      rw [List.map_cons] at hL
      injection hL with h1 h2
      obtain ⟨L', p1, p2⟩ := ih L h2
      exact ⟨p :: L', p1.cons p, by rw [List.map_cons, h1, p2]⟩
  | swap x y l =>
    intro L hL
    match L, hL with
    | [], hL => simp at hL
    | [_], hL => simp at hL
    | p :: q :: L, hL =>
      rw [List.map_cons, List.map_cons] at hL
      injection hL with h1 h2
      injection h2 with h2 h3
      exact ⟨q :: p :: L, .swap p q L, by rw [List.map_cons, List.map_cons, h1, h2, h3]⟩
  | trans a b iha ihb =>
    intro L hL
    obtain ⟨L1, p1, e1⟩ := ihb L hL
    obtain ⟨L2, p2, e2⟩ := iha L1 e1
    exact ⟨L2, p2.trans p1, e2⟩
theorem qe_cells {f : Nat} {ok : Nat → Prop} {w : World} {us : List Value} {y : V} (h : QE f ok w us y) : ∃ c : Cel, us = encC c ∧ (opnE y).1 = c.1.data.toList := by
  obtain ⟨key, y', xs, rfl, rfl, _, hl⟩ := h
  cases f with
  | zero => exact hl.elim
  | succ f =>
    obtain ⟨k, n, b, s, L, E, pL, pE, cL, cE, _, rfl, _⟩ := hl
    exact ⟨(key, (k, n, b, s), (pL, L.length, cL), (pE, E.length, cE)), rfl, rfl⟩
theorem rows_pairs {Q : List Value → V → Prop} (hQ : ∀ us y, Q us y → ∃ c : Cel, us = encC c ∧ (opnE y).1 = c.1.data.toList) : ∀ (rows : List (List Value)) (F : List V), rows.length = F.length → (∀ (i : Nat) (us : List Value), rows[i]? = some us → ∃ y, F[i]? = some y ∧ Q us y) →
    ∃ L : List (Cel × V), rows = L.map (fun p => encC p.1) ∧ F = L.map Prod.snd ∧ ∀ p ∈ L, Q (encC p.1) p.2 ∧ (opnE p.2).1 = p.1.1.data.toList
  | [], [], _, _ => ⟨[], rfl, rfl, fun p hp => by simp at hp⟩
  | [], _ :: _, h, _ => by simp at h
  | _ :: _, [], h, _ => by simp at h
  | us :: rows, y :: F, hl, h => by
    obtain ⟨L, e1, e2, e3⟩ := rows_pairs hQ rows F (by simpa using hl) (fun i us hi => by
      obtain ⟨y, a, b⟩ := h (i + 1) us (by simpa using hi)
      exact ⟨y, by simpa using a, b⟩)
    obtain ⟨y', a, b⟩ := h 0 us rfl
    simp only [List.getElem?_cons_zero, Option.some.injEq] at a
    subst a
    obtain ⟨c, c1, c2⟩ := hQ us y b
    subst c1
    refine ⟨(c, y) :: L, by rw [List.map_cons, ← e1], by rw [List.map_cons, ← e2], fun p hp => ?_⟩
    rcases List.mem_cons.1 hp with rfl | hp
    · exact ⟨b, c2⟩
    · exact e3 p hp
theorem sortE_any (f n0 : Nat) (W : World) (p : Option Addr) (cp : Nat) (acc : List V) (h : OwnR 44 7 (QE f) n0 W (.slice p acc.length cp) acc) (hal : acc.length ≤ 3000000) :
    Calls Tryz.prog 114 #[.slice p acc.length cp, .func (.func 115) #[] #[]] W fun e w' => e = .returned (.tuple #[]) ∧ ∃ acc', acc'.Perm acc ∧ acc'.Pairwise (fun a b => ¬ cmpB (opnE b).1 (opnE a).1 = .lt) ∧ OwnR 44 7 (QE f) n0 w' (.slice p acc.length cp) acc' ∧ W.grownBy w' (Value.slice p acc.length cp).ownBlock := by
  by_cases h0 : acc = []
  · subst h0
    have c := AnyF.slices_SortFunc_none Tryz.sortE p cp (.func (.func 115) #[] #[]) W
    refine c.mono ?_
    rintro e w' ⟨rfl, rfl⟩
    exact ⟨rfl, [], .nil, .nil, h, rfl, rfl, rfl, Nat.le_refl _, fun _ _ _ => rfl⟩
  · have hlt := h.lt
    obtain ⟨rows, ⟨hrl, hin⟩, hrn, hr⟩ := h
    rcases hin with ⟨_, hz⟩ | ⟨g, cap, cur, e, hg0, hgb, hc1, hc2, hc3, hc4⟩
    · exact absurd (List.length_eq_zero_iff.1 hz) h0
    · injection e with e1 _ e3
      subst e1
      subst e3
      obtain ⟨L, l1, l2, l3⟩ := rows_pairs (Q := QE f (okR n0 W (.slice (some ⟨g, 0, none⟩) acc.length cp)) W) (fun us y hq => qe_cells hq) rows acc hrn (fun i us hi => (hr i us hi).2)
      have hLl : L.length = acc.length := by rw [l2, List.length_map]
      have hfl : rows.flatten = (L.map Prod.fst).flatMap encC := by rw [l1, List.flatMap_def, List.map_map]; rfl
      have hcl : (L.map Prod.fst).length = acc.length := by rw [List.length_map, hLl]
      have hown : W.ownsRow 0 44 7 (.slice (some ⟨g, 0, none⟩) (([] : List Cel).length + (L.map Prod.fst).length) cp) (([] : List Cel).length + (L.map Prod.fst).length) ((([] : List Cel) ++ L.map Prod.fst).flatMap encC) := by
        rw [List.length_nil, Nat.zero_add, List.nil_append, hcl, ← hfl]
        exact ⟨hrl, .inr ⟨g, cp, cur, rfl, Nat.zero_le _, hgb, hc1, hc2, hc3, hc4⟩⟩
      have hblk : g < W.heap.size := (hlt g rfl).2
      have hH := (own_turn encC 7 (by decide) (fun _ => rfl) [] (L.map Prod.fst) (L.map Prod.fst) rfl hown).1
      rw [List.length_nil, Nat.zero_mul] at hH
      have c := AnyQ.slices_SortFunc Tryz.sortE 7 Tryz.isAgg44 Tryz.sizeOf44 encC (fun _ => rfl) encC_one cfC ordC 115 #[] g 0 cp (L.map Prod.fst).toArray W (enters_of Tryz.func115 (by kernel_rfl) rfl) (cmpC_lays _ _ _ _) hH hblk (by simp; omega)
      rw [List.size_toArray, hcl] at c
      refine c.mono ?_
      rintro e w' ⟨rfl, d', n, os, hperm, hsort, rfl⟩
      have hds : d'.size = acc.length := by rw [hperm.1, List.size_toArray, hcl]
      have hpl : d'.toList.Perm (L.map Prod.fst) := by
        have := hperm.2.2
        have x1 : d'.extract 0 acc.length = d' := by rw [← hds]; simp
        have x2 : (L.map Prod.fst).toArray.extract 0 acc.length = (L.map Prod.fst).toArray := by
          have : acc.length = (L.map Prod.fst).toArray.size := by rw [List.size_toArray, hcl]
          rw [this, Array.extract_size]
        rw [x1, x2] at this
        simpa using this
      obtain ⟨L', hLp, hLf⟩ := perm_pairs hpl L rfl
      have hL'l : L'.length = acc.length := by rw [hLp.length_eq, hLl]
      obtain ⟨hO2, hG2⟩ := (own_turn encC 7 (by decide) (fun _ => rfl) [] (L.map Prod.fst) (L'.map Prod.fst) (by rw [List.length_map, hL'l, hcl]) hown).2 n
      rw [List.length_nil, Nat.zero_mul, Nat.zero_add, List.nil_append, hcl] at hO2
      rw [List.length_nil, Nat.zero_mul] at hG2
      have hd' : d' = (L'.map Prod.fst).toArray := by rw [hLf]
      rw [← hd'] at hO2 hG2
      have hgrow : ∀ X : World, X.grownBy (grow X os) none := fun X => ⟨rfl, rfl, rfl, by rw [size_grow]; omega, fun q hq _ => heap_grow_old X os hq⟩
      have hgw : W.grownBy (sortWorldK encC 7 W g 0 n d' os) (some g) := by
        have k := hgrow (putRowK encC 7 (Sort.ahead W n) g 0 d')
        exact ⟨k.os.trans hG2.os, k.tape.trans hG2.tape, k.output.trans hG2.output, Nat.le_trans hG2.size k.size, fun q hq hn => (k.block q (Nat.lt_of_lt_of_le hq hG2.size) (by simp)).trans (hG2.block q hq hn)⟩
      have hO3 := World.ownsRow.kept hO2 (hgrow _) (.inr (by simp [Value.ownBlock]))
      refine ⟨rfl, L'.map Prod.snd, ?_, ?_, ⟨L'.map (fun p => encC p.1), ?_, by simp, fun i us hi => ?_⟩, hgw⟩
      · rw [l2]
        exact hLp.map _
      · rw [List.pairwise_iff_getElem]
        intro i j hi hj hij
        have hi' : i < L'.length := by simpa using hi
        have hj' : j < L'.length := by simpa using hj
        have hs := hsort i j (Nat.zero_le _) hij (by omega)
        rw [ltC] at hs
        have hs := of_decide_eq_false hs
        rw [getElem!_pos d' i (by omega), getElem!_pos d' j (by omega)] at hs
        have q1 : d'[i]'(by omega) = L'[i].1 := by simp only [hd', List.getElem_toArray, List.getElem_map]
        have q2 : d'[j]'(by omega) = L'[j].1 := by simp only [hd', List.getElem_toArray, List.getElem_map]
        rw [q1, q2] at hs
        rw [List.getElem_map, List.getElem_map, (l3 _ (hLp.mem_iff.1 (List.getElem_mem hi'))).2, (l3 _ (hLp.mem_iff.1 (List.getElem_mem hj'))).2]
        exact hs
      · rw [List.length_map, hL'l]
        obtain ⟨q1, q2⟩ := hO3
        have hfl' : (L'.map (fun p => encC p.1)).flatten = (L'.map Prod.fst).flatMap encC := by rw [List.flatMap_def, List.map_map]; rfl
        rw [hfl']
        refine ⟨q1, ?_⟩
        rcases q2 with ⟨q3, _⟩ | ⟨g', cap', cur', e', _, r1, r2, r3, r4, r5⟩
        · cases q3
        · injection e' with e1 _ e3
          injection e1 with e1
          injection e1 with e1
          subst e1
          subst e3
          exact .inr ⟨g, cp, cur', rfl, hg0, r1, r2, r3, r4, r5⟩
      · rw [List.getElem?_map] at hi
        cases hx : L'[i]? with
        | none => rw [hx] at hi; simp at hi
        | some q =>
          rw [hx, Option.map_some, Option.some.injEq] at hi
          subst hi
          have hm := l3 q (hLp.mem_iff.1 (List.mem_of_getElem? hx))
          refine ⟨rfl, q.2, by rw [List.getElem?_map, hx]; rfl, QE_kept f _ _ _ _ _ _ hm.1 (fun b hb => ⟨hb.1, Nat.lt_of_lt_of_le hb.2.1 hgw.size, hb.2.2⟩) hgw.size (fun b hb hlt' => hgw.block b hlt' hb.2.2)⟩
end Go.Proofs.YtnbfnjhbmeocfaaGreatDoor.valus
set_option linter.unusedVariables false
namespace Go.Proofs.YtnbfnjhbmeocfaaGreatDoor.valus
open Go.RowKit Go.Shelf

theorem infoEntM : (Tryz.prog.info? 44).map (fun i => (i.zero, i.size, i.bytes)) = some (some (.agg #[.string ⟨#[]⟩, .int .i64 0, .int .i64 0, .int .u64 0, .string ⟨#[]⟩, .slice none 0 0, .slice none 0 0]), 7, 104) := by kernel_rfl
theorem onesE {f : Nat} {ok : Nat → Prop} {w : World} {us : List Value} {y : V} (h : QE f ok w us y) : ∀ u ∈ us, u.oneCell' = true := by
  obtain ⟨c, rfl, _⟩ := qe_cells h
  exact encC_one c
structure MT (R : Nat) (w wr : World) (n : Nat) (nk na ne : Int) (np : Option Addr) (nl nc : Nat) (acc : List V) (p : Option Addr) (cp m : Nat) (D : DataW Unit) : Prop where
  d : Blk wr (w.heap.size + 2) #[.int .i64 6, .int .i64 0, .int .u64 0, .string ⟨#[]⟩, .slice none 0 0, .slice p acc.length cp] 26
  o : OwnR 44 7 (QE n) (w.heap.size + 4) wr (.slice p acc.length cp) acc
  nd : Blk wr w.heap.size #[.int .i64 nk, .int .i64 na, .int .i64 ne, .slice np nl nc] 59
  r : Blk wr (w.heap.size + 1) #[.int .i64 0, .int .i64 0, .int .u64 0, .string ⟨#[]⟩, .slice none 0 0, .slice none 0 0] 26
  mp : KSet wr (w.heap.size + 3) m D
  b : Only R w wr
  s : w.heap.size + 4 ≤ wr.heap.size
  lt : R < w.heap.size
theorem MT.later {R : Nat} {w wr w2 : World} {n : Nat} {nk na ne : Int} {np : Option Addr} {nl nc : Nat} {acc : List V} {p : Option Addr} {cp m : Nat} {D : DataW Unit} (h : MT R w wr n nk na ne np nl nc acc p cp m D) (ho : Only R wr w2) : MT R w w2 n nk na ne np nl nc acc p cp m D := by
  have hs := h.s
  have hl := h.lt
  have nb : ∀ q, R < q → q < wr.heap.size → w2.heap[q]? = wr.heap[q]? := fun q h1 h2 => ho.block q h2 (fun e => by have := Option.some.inj e; omega)
  exact ⟨(nb _ (by omega) (by omega)).trans h.d, h.o.only (QE_kept n) (by omega) ho, (nb _ (by omega) (by omega)).trans h.nd, (nb _ (by omega) (by omega)).trans h.r, h.mp.kept ho (fun e => by have := Option.some.inj e; omega), h.b.trans ho, Nat.le_trans hs ho.size, hl⟩
theorem MT.key {R : Nat} {w wr w2 : World} {n : Nat} {nk na ne : Int} {np : Option Addr} {nl nc : Nat} {acc : List V} {p : Option Addr} {cp m : Nat} {D : DataW Unit} (h : MT R w wr n nk na ne np nl nc acc p cp m D) (ho : But2 R (w.heap.size + 3) wr w2) {m' : Nat} {D' : DataW Unit} (hM : KSet w2 (w.heap.size + 3) m' D') : MT R w w2 n nk na ne np nl nc acc p cp m' D' := by
  have hs := h.s
  have hl := h.lt
  have nb : ∀ q, R < q → q < wr.heap.size → q ≠ w.heap.size + 3 → w2.heap[q]? = wr.heap[q]? := fun q h1 h2 h3 => ho.block q h2 (by omega) h3
  have hlt := h.o.lt
  refine ⟨(nb _ (by omega) (by omega) (by omega)).trans h.d, ?_, (nb _ (by omega) (by omega) (by omega)).trans h.nd, (nb _ (by omega) (by omega) (by omega)).trans h.r, hM, ⟨ho.os.trans h.b.os, ho.tape.trans h.b.tape, ho.output.trans h.b.output, Nat.le_trans h.b.size ho.size, fun q hq hn => (ho.block q (Nat.lt_of_lt_of_le hq h.b.size) (fun e => hn (by rw [e])) (by omega)).trans (h.b.block q hq hn)⟩, Nat.le_trans hs ho.size, hl⟩
  obtain ⟨rows, hw, hl', hr⟩ := h.o
  refine ⟨rows, ⟨hw.1, ?_⟩, hl', fun i us hi => ?_⟩
  · rcases hw.2 with hz | ⟨g, cap, cur, e, hg0, hgb, rest⟩
    · exact .inl hz
    · have hg := hlt g (by rw [e]; rfl)
      exact .inr ⟨g, cap, cur, e, hg0, (nb g (by omega) hg.2 (by omega)).trans hgb, rest⟩
  · obtain ⟨h1, y, h2, h3⟩ := hr i us hi
    exact ⟨h1, y, h2, QE_kept n _ _ _ _ _ _ h3 (fun b hb => ⟨hb.1, Nat.lt_of_lt_of_le hb.2.1 ho.size, hb.2.2⟩) ho.size (fun b hb hlt' => nb b (by have := hb.1; omega) hlt' (by have := hb.1; omega))⟩
theorem MT.value {R : Nat} {w wr : World} {n : Nat} {nk na ne : Int} {np : Option Addr} {nl nc : Nat} {acc : List V} {p : Option Addr} {cp m : Nat} {D : DataW Unit} (h : MT R w wr n nk na ne np nl nc acc p cp m D) : LiesV (fun q => w.heap.size + 4 ≤ q ∧ q < wr.heap.size) (n + 1) wr [.int .i64 6, .int .i64 0, .int .u64 ((0 : Nat) : Int), .string ⟨#[]⟩, .slice none 0 0, .slice p acc.length cp] (mkV (6, 0, 0, []) [] acc) := by
  obtain ⟨p', cp', e, hc1, hc2, hrow⟩ := h.o.row (QE_kept n)
  injection e with e1 e2 e3
  subst e1
  subst e3
  refine ⟨6, 0, 0, ⟨#[]⟩, [], acc, none, p, 0, cp, rfl, rfl, ⟨by decide, by decide, by decide, Nat.zero_le _⟩, ⟨Nat.le_refl _, Nat.zero_le _, hc1, hc2⟩, fun h => absurd h (by simp), fun hn => ?_⟩
  obtain ⟨g, o, e1, e2, e3, e4⟩ := hrow hn
  refine ⟨g, o, e1, e2, e3, fun j hj => ?_⟩
  obtain ⟨us, u1, u2, y, y1, key, y', xs, q1, q2, q3, q4⟩ := e4 j hj
  exact ⟨us, u1, u2, key, y', xs, by rw [y1, q1], q2, q3, q4⟩
theorem MT.sorted {R : Nat} {w wr w2 : World} {n : Nat} {nk na ne : Int} {np : Option Addr} {nl nc : Nat} {acc acc' : List V} {p : Option Addr} {cp m : Nat} {D : DataW Unit} (h : MT R w wr n nk na ne np nl nc acc p cp m D) (hl : acc'.length = acc.length) (ho : OwnR 44 7 (QE n) (w.heap.size + 4) w2 (.slice p acc.length cp) acc') (hg : wr.grownBy w2 (Value.slice p acc.length cp).ownBlock) : MT R w w2 n nk na ne np nl nc acc' p cp m D := by
  have hs := h.s
  have hlw := h.lt
  have hlt := h.o.lt
  have nb : ∀ q, q < w.heap.size + 4 → w2.heap[q]? = wr.heap[q]? := fun q hq => hg.block q (by omega) (fun e => by have := (hlt q e.symm).1; omega)
  refine ⟨by rw [hl]; exact (nb _ (by omega)).trans h.d, by rw [hl]; exact ho, (nb _ (by omega)).trans h.nd, (nb _ (by omega)).trans h.r, h.mp.kept hg (fun e => by have := (hlt _ e.symm).1; omega), ⟨hg.os.trans h.b.os, hg.tape.trans h.b.tape, hg.output.trans h.b.output, Nat.le_trans h.b.size hg.size, fun q hq hn => (nb q (by omega)).trans (h.b.block q hq hn)⟩, Nat.le_trans hs hg.size, hlw⟩
theorem MT.push {R : Nat} {w wr w2 : World} {n : Nat} {nk na ne : Int} {np : Option Addr} {nl nc : Nat} {acc : List V} {p : Option Addr} {cp m : Nat} {D : DataW Unit} (h0 : MT R w wr n nk na ne np nl nc acc p cp m D) (hb : Only R wr w2) (key : ByteArray) (k nn : Int) (b : Nat) (z : ByteArray) (pL : Option Addr) (nL cL : Nat) (pE : Option Addr) (nE cE : Nat) (y : V) (hkey : key.size ≤ maxLen) (hl : LiesV (fun b => wr.heap.size ≤ b ∧ b < w2.heap.size) n w2 [.int .i64 k, .int .i64 nn, .int .u64 (b : Int), .string z, .slice pL nL cL, .slice pE nE cE] y) (hal : acc.length ≤ 3000000) :
    ∃ (p' : Option Addr) (cp' : Nat) (W' : World), (Builtin.append_ #[24, 24] 24 #[.slice p acc.length cp, .slice (some ⟨w2.heap.size + 1, 0, none⟩) 1 1]).run Tryz.prog ((w2.alloc (.cells #[.int .i64 k, .int .i64 nn, .int .u64 (b : Int), .string z, .slice pL nL cL, .slice pE nE cE] 26)).alloc (.cells #[.string key, .int .i64 k, .int .i64 nn, .int .u64 (b : Int), .string z, .slice pL nL cL, .slice pE nE cE] 44)) = .ok (.slice p' (acc.length + 1) cp') W' ∧
      Blk W' (w.heap.size + 2) #[.int .i64 6, .int .i64 0, .int .u64 0, .string ⟨#[]⟩, .slice none 0 0, .slice p acc.length cp] 26 ∧ MT R w (W'.setCell ⟨w.heap.size + 2, 5, none⟩ (.slice p' (acc.length + 1) cp')) n nk na ne np nl nc (acc ++ [ent key.data.toList y]) p' cp' m D ∧ (∀ q, q ≤ R → (W'.setCell ⟨w.heap.size + 2, 5, none⟩ (.slice p' (acc.length + 1) cp')).heap[q]? = w2.heap[q]?) := by
  obtain ⟨i0, hi, hz0, hz1, hz2⟩ := info_parts infoEntM
  have h2 := h0.o
  have bA : Below w2.heap.size w2 (w2.alloc (.cells #[.int .i64 k, .int .i64 nn, .int .u64 (b : Int), .string z, .slice pL nL cL, .slice pE nE cE] 26)) := (Below.refl _ w2).alloc (Nat.le_refl _) _
  have hA := (h0.later hb).later (only_of_belowM bA)
  have s0 := h0.s
  have s1 := hb.size
  have hRl := h0.lt
  have hq : QE n (okR (w.heap.size + 4) (w2.alloc (.cells #[.int .i64 k, .int .i64 nn, .int .u64 (b : Int), .string z, .slice pL nL cL, .slice pE nE cE] 26)) (.slice p acc.length cp)) (w2.alloc (.cells #[.int .i64 k, .int .i64 nn, .int .u64 (b : Int), .string z, .slice pL nL cL, .slice pE nE cE] 26)) [.string key, .int .i64 k, .int .i64 nn, .int .u64 (b : Int), .string z, .slice pL nL cL, .slice pE nE cE] (ent key.data.toList y) := ⟨key, y, _, rfl, rfl, hkey, LiesV.kept (fun b hb => ⟨by have := hb.1; omega, by have := hb.2; simp; omega, fun e => by have := (h2.lt b e.symm).2; have := hb.1; omega⟩) bA.size (fun b _ hlt' => bA.block b hlt') hl⟩
  obtain ⟨v', W', hrun, hO', hg⟩ := OwnR.push (tS := 24) (QE_kept n) Tryz.underlying24 hi hz0 hz1 hz2 rfl (by decide) (by decide) hA.o hA.s [.string key, .int .i64 k, .int .i64 nn, .int .u64 (b : Int), .string z, .slice pL nL cL, .slice pE nE cE] (ent key.data.toList y) rfl (onesE hq) hq (by omega) 24
  rw [World.size_alloc] at hrun
  have hv := fun g hg' => (hA.o.lt g hg').1
  have hbl : ∀ q, q < w.heap.size + 4 → W'.heap[q]? = (w2.alloc (.cells #[.int .i64 k, .int .i64 nn, .int .u64 (b : Int), .string z, .slice pL nL cL, .slice pE nE cE] 26)).heap[q]? := fun q hq' => (hg.block (by have := hA.s; omega) (fun e => by have := hv q e.symm; omega)).1
  obtain ⟨p', cp', rfl, _, _, _⟩ := hO'.row (QE_kept n)
  have hlen : (acc ++ [ent key.data.toList y]).length = acc.length + 1 := by simp
  rw [hlen] at hrun hO'
  have hd : Blk W' (w.heap.size + 2) #[.int .i64 6, .int .i64 0, .int .u64 0, .string ⟨#[]⟩, .slice none 0 0, .slice p acc.length cp] 26 := (hbl _ (by omega)).trans hA.d
  have hsz := hg.by'.size
  have hsA := hA.s
  have hmp : KSet W' (w.heap.size + 3) m D := hA.mp.kept (row := (Value.slice p acc.length cp).ownBlock) hg.by' (fun e => by have := hv _ e.symm; omega)
  refine ⟨p', cp', W', hrun, hd, ⟨?_, ?_, ?_, ?_, ?_, ?_, ?_, hRl⟩, ?_⟩
  · rw [hlen]
    exact hd.set 5 (.slice p' (acc.length + 1) cp')
  · rw [hlen]
    exact hO'.only (QE_kept n) (by omega) (only_set (w.heap.size + 2) W' 5 (.slice p' (acc.length + 1) cp'))
  · exact Blk.set_other (((hbl _ (by omega)).trans hA.nd : Blk W' _ _ _)) ⟨w.heap.size + 2, 5, none⟩ _ (by show w.heap.size ≠ w.heap.size + 2; omega)
  · exact Blk.set_other (((hbl _ (by omega)).trans hA.r : Blk W' _ _ _)) ⟨w.heap.size + 2, 5, none⟩ _ (by show w.heap.size + 1 ≠ w.heap.size + 2; omega)
  · exact hmp.kept (only_set (w.heap.size + 2) W' 5 (.slice p' (acc.length + 1) cp')) (fun e => by have := Option.some.inj e; omega)
  · have o1 := hA.b
    refine ⟨hg.by'.os.trans o1.os, hg.by'.tape.trans o1.tape, hg.by'.output.trans o1.output, ?_, fun q hq hne => ?_⟩
    · simp only [World.setCell, Array.size_modify]
      have := o1.size
      omega
    · exact ((Below.heap_setCell _ _ _ _ (by show q ≠ w.heap.size + 2; omega)).trans (hbl q (by omega))).trans (o1.block q hq hne)
  · simp only [World.setCell, Array.size_modify]
    omega
  · intro q hq
    exact ((Below.heap_setCell _ _ _ _ (by show q ≠ w.heap.size + 2; omega)).trans (hbl q (by omega))).trans (bA.block q (by omega))
end Go.Proofs.YtnbfnjhbmeocfaaGreatDoor.valus
set_option linter.unusedVariables false
namespace Go.Proofs.YtnbfnjhbmeocfaaGreatDoor.valus
open Go.RowKit Go.Shelf

def KeyR (s : ByteArray) (l : List toks.Tk) (keys : List (List UInt8)) (j : Nat) (x : List UInt8 ⊕ (Int × Int)) : Prop :=
  ∃ (h : j < l.length) (key : List UInt8) (ke : Int), KeyTo (s.extract l[j].fro l[j].til).data.toList l[j].kind key ke ∧
    ((ke = 0 ∧ key ∉ keys ∧ x = .inl key) ∨ (ke = 0 ∧ key ∈ keys ∧ x = .inr ((l[j].fro : Int), 6)) ∨ (ke ≠ 0 ∧ x = .inr ((l[j].fro : Int), ke)))
def Holds1 (D : DataW Unit) (keys : List (List UInt8)) : Prop := Maps.IsMap D ∧ ∀ k, Maps.has D (.string k) = decide (k ∈ keys)
theorem holds1_nil : Holds1 (.map []) [] := ⟨Maps.isMap_empty, fun k => by rw [Maps.has_eq]; rfl⟩
theorem Holds1.put {D : DataW Unit} {keys : List (List UInt8)} (h : Holds1 D keys) (key : List UInt8) : Holds1 (D.put (.string key) (.agg [])) (keys ++ [key]) := by
  refine ⟨h.1.put _ _, fun k => ?_⟩
  by_cases e : k = key
  · subst e
    rw [Maps.has_put_same (k := .string k) h.1 trivial]
    exact (decide_eq_true (by simp)).symm
  · rw [Maps.has_put_other (fun h : (Lit.string k) = Lit.string key => e (by injection h)), h.2 k]
    simp [e]
theorem resM_len (q : List UInt8) : (escs.resT (escs.unq q)).length ≤ q.length := by
  cases hu : escs.unq q with
  | inl e => simp [escs.resT]
  | inr p =>
    obtain ⟨rs, k⟩ := p
    obtain ⟨_, a, _, b, _⟩ := escs.unq_got hu
    simp only [escs.resT]
    omega
theorem newKey_any (w : World) (R : Nat) (s : ByteArray) (l : List toks.Tk) (pl er : Int) (h : MRd w R s l pl er) (k e : Int) (j : Nat) (hj : j < l.length) (hft : l[j].fro ≤ l[j].til ∧ l[j].til ≤ s.size) (hs : s.size ≤ 100000) (p : Option Addr) (n c : Nat) (M m : Nat) (D : DataW Unit) (hM : KSet w M m D) (hMR : R < M) (hm : m < 1000000) (hT : Tabs R w) (keys : List (List UInt8)) (hD : Holds1 D keys) :
    Calls Tryz.prog 113 #[.pointer (some ⟨R, 0, none⟩), .agg #[.int .i64 k, .int .i64 (j : Int), .int .i64 e, .slice p n c], .map (some M)] w fun e w' => (∃ kz : ByteArray, e = .returned (.tuple #[.string kz, .bool true]) ∧ KeyR s l keys j (.inl kz.data.toList) ∧ kz.size ≤ maxLen ∧ KSet w' M (m + 1) (D.put (.string kz.data.toList) (.agg [])) ∧ MRd w' R s l pl er ∧ But2 R M w w') ∨
      (∃ pq : Int × Int, e = .returned (.tuple #[.string ⟨#[]⟩, .bool false]) ∧ KeyR s l keys j (.inr pq) ∧ MRd w' R s l pq.1 pq.2 ∧ Only R w w') := by
  have hRw := h.lt
  have hxs : (s.extract l[j].fro l[j].til).size ≤ 100000 := by
    have : (s.extract l[j].fro l[j].til).size = min l[j].til s.size - l[j].fro := by simp
    omega
  have key0 : ∀ kz : ByteArray, kz.size ≤ 100000 → KeyTo (s.extract l[j].fro l[j].til).data.toList l[j].kind kz.data.toList 0 → (∀ v, Below w.heap.size w v → Calls Tryz.prog 175 #[.pointer (some ⟨R, 0, none⟩), .agg #[.int .i64 k, .int .i64 (j : Int), .int .i64 e, .slice p n c]] v fun e w' => e = .returned (.tuple #[.string kz, .int .i64 0]) ∧ Below v.heap.size v w') →
      Calls Tryz.prog 113 #[.pointer (some ⟨R, 0, none⟩), .agg #[.int .i64 k, .int .i64 (j : Int), .int .i64 e, .slice p n c], .map (some M)] w fun e w' => (∃ kz : ByteArray, e = .returned (.tuple #[.string kz, .bool true]) ∧ KeyR s l keys j (.inl kz.data.toList) ∧ kz.size ≤ maxLen ∧ KSet w' M (m + 1) (D.put (.string kz.data.toList) (.agg [])) ∧ MRd w' R s l pl er ∧ But2 R M w w') ∨
      (∃ pq : Int × Int, e = .returned (.tuple #[.string ⟨#[]⟩, .bool false]) ∧ KeyR s l keys j (.inr pq) ∧ MRd w' R s l pq.1 pq.2 ∧ Only R w w') := by
    intro kz hz hkt HKA
    have hz' : kz.size ≤ maxLen := by unfold maxLen; omega
    by_cases hin : kz.data.toList ∈ keys
    · exact (newKey_twice w R s l pl er h k e j hj p n c M m D hM kz hz' HKA (by rw [hD.2]; exact decide_eq_true hin)).mono fun e w' ⟨e1, e2, e3⟩ => .inr ⟨_, e1, ⟨hj, _, 0, hkt, .inr (.inl ⟨rfl, hin, rfl⟩)⟩, e2, e3⟩
    · exact (newKey_ok w R s l pl er h k e j p n c M m D hM hMR hm kz hz' HKA (by rw [hD.2]; exact decide_eq_false hin)).mono fun e w' ⟨e1, e2, e3, e4⟩ => .inl ⟨kz, e1, ⟨hj, _, 0, hkt, .inl ⟨rfl, hin, rfl⟩⟩, hz', e2, e3, e4⟩
  have keyX : ∀ (kz : ByteArray) (ke : Int), ke ≠ 0 → KeyTo (s.extract l[j].fro l[j].til).data.toList l[j].kind kz.data.toList ke → (∀ v, Below w.heap.size w v → Calls Tryz.prog 175 #[.pointer (some ⟨R, 0, none⟩), .agg #[.int .i64 k, .int .i64 (j : Int), .int .i64 e, .slice p n c]] v fun e w' => e = .returned (.tuple #[.string kz, .int .i64 ke]) ∧ Below v.heap.size v w') →
      Calls Tryz.prog 113 #[.pointer (some ⟨R, 0, none⟩), .agg #[.int .i64 k, .int .i64 (j : Int), .int .i64 e, .slice p n c], .map (some M)] w fun e w' => (∃ kz : ByteArray, e = .returned (.tuple #[.string kz, .bool true]) ∧ KeyR s l keys j (.inl kz.data.toList) ∧ kz.size ≤ maxLen ∧ KSet w' M (m + 1) (D.put (.string kz.data.toList) (.agg [])) ∧ MRd w' R s l pl er ∧ But2 R M w w') ∨
      (∃ pq : Int × Int, e = .returned (.tuple #[.string ⟨#[]⟩, .bool false]) ∧ KeyR s l keys j (.inr pq) ∧ MRd w' R s l pq.1 pq.2 ∧ Only R w w') := by
    intro kz ke hke hkt HKA
    exact (newKey_bad w R s l pl er h k e j hj p n c M kz ke hke HKA).mono fun e w' ⟨e1, e2, e3⟩ => .inr ⟨_, e1, ⟨hj, _, ke, hkt, .inr (.inr ⟨hke, rfl⟩)⟩, e2, e3⟩
  by_cases hk : l[j].kind = 4
  · cases hB : escs.bareL (s.extract l[j].fro l[j].til).data.toList with
    | true => exact key0 _ hxs (by unfold KeyTo; rw [if_pos hk, if_pos hB]; exact ⟨rfl, rfl⟩) (fun v hv => key_bare v R s l pl er (h.later hv) k e j hj hft hs p n c hk hB)
    | false => exact keyX ⟨#[]⟩ 4 (by decide) (by unfold KeyTo; rw [if_pos hk, if_neg (by rw [hB]; exact Bool.false_ne_true)]; exact ⟨rfl, rfl⟩) (fun v hv => key_notbare v R s l pl er (h.later hv) k e j hj hft hs p n c hk hB)
  · have HT : ∀ (zz : ByteArray) (ke : Int), zz = ⟨(escs.resT (escs.unq (s.extract l[j].fro l[j].til).data.toList)).toArray⟩ → escs.resE (escs.unq (s.extract l[j].fro l[j].til).data.toList) = ke → ∀ v, Below w.heap.size w v → Calls Tryz.prog 175 #[.pointer (some ⟨R, 0, none⟩), .agg #[.int .i64 k, .int .i64 (j : Int), .int .i64 e, .slice p n c]] v fun e w' => e = .returned (.tuple #[.string zz, .int .i64 ke]) ∧ Below v.heap.size v w' := fun zz ke h1 h2 v hv => key_text v R s l pl er (h.later hv) k e j hj hft hs p n c hk zz ke h1 h2 ((hT.only hRw (only_of_belowM hv)).1)
    by_cases hE : escs.resE (escs.unq (s.extract l[j].fro l[j].til).data.toList) = 0
    · refine key0 ⟨(escs.resT (escs.unq (s.extract l[j].fro l[j].til).data.toList)).toArray⟩ ?_ (by unfold KeyTo; rw [if_neg hk]; exact ⟨rfl, hE.symm⟩) (HT _ _ rfl hE)
      have := resM_len (s.extract l[j].fro l[j].til).data.toList
      have e2 : (s.extract l[j].fro l[j].til).data.toList.length = (s.extract l[j].fro l[j].til).size := rfl
      show (escs.resT _).toArray.size ≤ 100000
      rw [List.size_toArray]
      omega
    · exact keyX ⟨(escs.resT (escs.unq (s.extract l[j].fro l[j].til).data.toList)).toArray⟩ _ hE (by unfold KeyTo; rw [if_neg hk]; exact ⟨rfl, rfl⟩) (HT _ _ rfl rfl)
end Go.Proofs.YtnbfnjhbmeocfaaGreatDoor.valus
set_option linter.unusedVariables false
namespace Go.Proofs.YtnbfnjhbmeocfaaGreatDoor.valus
open Go.RowKit Go.Shelf
open trees (nd Lies)
def AscE (E : List V) : Prop := E.Pairwise (fun a b => cmpB (opnE a).1 (opnE b).1 = .lt)
def TabTo (kr : List (List UInt8) → Nat → List UInt8 ⊕ (Int × Int) → Prop) (Rl : trees.T → V ⊕ (Int × Int) → Prop) : List trees.T → List V → V ⊕ (Int × Int) → Prop
  | [], acc, x => ∃ E, E.Perm acc ∧ AscE E ∧ x = .inl (mkV (6, 0, 0, []) [] E)
  | t :: r, acc, x => ∃ ek ea ee kk ka ke v, t = nd ek ea ee [nd kk ka ke [], v] ∧
      ((∃ key, kr (acc.map (fun e => (opnE e).1)) ka (.inl key) ∧ ((∃ y, Rl v (.inl y) ∧ TabTo kr Rl r (acc ++ [ent key y]) x) ∨ ∃ pq, Rl v (.inr pq) ∧ x = .inr pq)) ∨ ∃ pq, kr (acc.map (fun e => (opnE e).1)) ka (.inr pq) ∧ x = .inr pq)
theorem asc_of {E : List V} (h : E.Pairwise (fun a b => ¬ cmpB (opnE b).1 (opnE a).1 = .lt)) (hn : (E.map (fun e => (opnE e).1)).Nodup) : AscE E := by
  unfold AscE
  rw [List.pairwise_iff_getElem] at h ⊢
  intro i j hi hj hij
  refine cmpB_gt (h i j hi hj hij) (fun e => ?_)
  have h2 := (List.nodup_iff_pairwise_ne.1 hn)
  rw [List.pairwise_iff_getElem] at h2
  have := h2 i j (by simpa using hi) (by simpa using hj) hij
  simp only [List.getElem_map] at this
  exact this e
theorem results_tab {w : World} {B : Nat} {u0 u1 u2 u3 u4 u5 : Value} {x : Bool} (tmps : Array Value) (h : Blk w B #[u0, u1, u2, u3, u4, u5] 26) (ht : tmps[4]? = some (.pointer (some ⟨B, 0, none⟩)) := by rfl) (hx : tmps[5]? = some (.bool x) := by rfl) : (results Tryz.f60 tmps).run Tryz.prog w = .ok (.tuple #[.agg #[u0, u1, u2, u3, u4, u5], .bool x]) w := by
  obtain ⟨c0, c1, c2, c3, c4, c5⟩ := h.cells6
  simp [results, Tryz.f60, ht, hx, go_sem, c0, c1, c2, c3, c4, c5]
set_option maxHeartbeats 8000000 in
set_option maxRecDepth 100000 in
theorem table_any (n R : Nat) (s : ByteArray) (l : List toks.Tk) (pl er : Int) (Rl : trees.T → V ⊕ (Int × Int) → Prop) (w : World) (hm : MRd w R s l pl er) (hT : Tabs R w) (hs : s.size ≤ 100000) (hgd : ∀ (j : Nat) (h : j < l.length), l[j].fro ≤ l[j].til ∧ l[j].til ≤ s.size) (na ne : Int) (np : Option Addr) (nc : Nat) (T : List trees.T) (hTl : T.length ≤ nc ∧ T.length ≤ 900000)
    (hrow : T ≠ [] → ∃ b o, np = some ⟨b, o, none⟩ ∧ b < R ∧ ∀ (j : Nat) (h : j < T.length), ∃ us : List Value, us.length = 4 ∧ (∀ i, i < 4 → w.cell? ⟨b, o + j * 4 + i, none⟩ = us[i]?) ∧ Lies (fun b => b < R) (n + 1) w us T[j]) (hk : ∀ t ∈ T, ∃ ek ea ee kk ka ke v, t = nd ek ea ee [nd kk ka ke [], v] ∧ ka < l.length ∧ ReadK n R s l v (Rl v)) :
    Calls Tryz.prog 60 #[.pointer (some ⟨R, 0, none⟩), .agg #[.int .i64 3, .int .i64 na, .int .i64 ne, .slice np T.length nc]] w (MOut (n + 1) R s l pl er (TabTo (KeyR s l) Rl T []) w) := by
  have hRw := hm.lt
  have b0 : Below w.heap.size w ((((w.alloc (.cells #[.int .i64 3, .int .i64 na, .int .i64 ne, .slice np T.length nc] 59)).alloc (.cells #[.int .i64 0, .int .i64 0, .int .u64 0, .string ⟨#[]⟩, .slice none 0 0, .slice none 0 0] 26)).alloc (.cells #[.int .i64 6, .int .i64 0, .int .u64 0, .string ⟨#[]⟩, .slice none 0 0, .slice none 0 0] 26)).alloc (.map #[] 0)) := ((((Below.refl _ w).alloc (Nat.le_refl _) _).alloc (by simp) _).alloc (by simp; omega) _).alloc (by simp; omega) _
  have s0 : ((((w.alloc (.cells #[.int .i64 3, .int .i64 na, .int .i64 ne, .slice np T.length nc] 59)).alloc (.cells #[.int .i64 0, .int .i64 0, .int .u64 0, .string ⟨#[]⟩, .slice none 0 0, .slice none 0 0] 26)).alloc (.cells #[.int .i64 6, .int .i64 0, .int .u64 0, .string ⟨#[]⟩, .slice none 0 0, .slice none 0 0] 26)).alloc (.map #[] 0)).heap.size = w.heap.size + 4 := by simp
  have hn0 : Blk ((((w.alloc (.cells #[.int .i64 3, .int .i64 na, .int .i64 ne, .slice np T.length nc] 59)).alloc (.cells #[.int .i64 0, .int .i64 0, .int .u64 0, .string ⟨#[]⟩, .slice none 0 0, .slice none 0 0] 26)).alloc (.cells #[.int .i64 6, .int .i64 0, .int .u64 0, .string ⟨#[]⟩, .slice none 0 0, .slice none 0 0] 26)).alloc (.map #[] 0)) w.heap.size #[.int .i64 3, .int .i64 na, .int .i64 ne, .slice np T.length nc] 59 := (((blk_alloc w _ _).alloc _).alloc _).alloc _
  have hr0 : Blk ((((w.alloc (.cells #[.int .i64 3, .int .i64 na, .int .i64 ne, .slice np T.length nc] 59)).alloc (.cells #[.int .i64 0, .int .i64 0, .int .u64 0, .string ⟨#[]⟩, .slice none 0 0, .slice none 0 0] 26)).alloc (.cells #[.int .i64 6, .int .i64 0, .int .u64 0, .string ⟨#[]⟩, .slice none 0 0, .slice none 0 0] 26)).alloc (.map #[] 0)) (w.heap.size + 1) #[.int .i64 0, .int .i64 0, .int .u64 0, .string ⟨#[]⟩, .slice none 0 0, .slice none 0 0] 26 := by
    have h := ((blk_alloc (w.alloc (.cells #[.int .i64 3, .int .i64 na, .int .i64 ne, .slice np T.length nc] 59)) #[.int .i64 0, .int .i64 0, .int .u64 0, .string ⟨#[]⟩, .slice none 0 0, .slice none 0 0] 26).alloc (.cells #[.int .i64 6, .int .i64 0, .int .u64 0, .string ⟨#[]⟩, .slice none 0 0, .slice none 0 0] 26)).alloc (.map #[] 0)
    rwa [World.size_alloc] at h
  have hd0 : Blk ((((w.alloc (.cells #[.int .i64 3, .int .i64 na, .int .i64 ne, .slice np T.length nc] 59)).alloc (.cells #[.int .i64 0, .int .i64 0, .int .u64 0, .string ⟨#[]⟩, .slice none 0 0, .slice none 0 0] 26)).alloc (.cells #[.int .i64 6, .int .i64 0, .int .u64 0, .string ⟨#[]⟩, .slice none 0 0, .slice none 0 0] 26)).alloc (.map #[] 0)) (w.heap.size + 2) #[.int .i64 6, .int .i64 0, .int .u64 0, .string ⟨#[]⟩, .slice none 0 0, .slice none 0 0] 26 := by
    have h := (blk_alloc ((w.alloc (.cells #[.int .i64 3, .int .i64 na, .int .i64 ne, .slice np T.length nc] 59)).alloc (.cells #[.int .i64 0, .int .i64 0, .int .u64 0, .string ⟨#[]⟩, .slice none 0 0, .slice none 0 0] 26)) #[.int .i64 6, .int .i64 0, .int .u64 0, .string ⟨#[]⟩, .slice none 0 0, .slice none 0 0] 26).alloc (.map #[] 0)
    rwa [World.size_alloc, World.size_alloc] at h
  have hM0 : KSet ((((w.alloc (.cells #[.int .i64 3, .int .i64 na, .int .i64 ne, .slice np T.length nc] 59)).alloc (.cells #[.int .i64 0, .int .i64 0, .int .u64 0, .string ⟨#[]⟩, .slice none 0 0, .slice none 0 0] 26)).alloc (.cells #[.int .i64 6, .int .i64 0, .int .u64 0, .string ⟨#[]⟩, .slice none 0 0, .slice none 0 0] 26)).alloc (.map #[] 0)) (w.heap.size + 3) 0 (.map []) := by
    have h := World.ownsMap_made (((w.alloc (.cells #[.int .i64 3, .int .i64 na, .int .i64 ne, .slice np T.length nc] 59)).alloc (.cells #[.int .i64 0, .int .i64 0, .int .u64 0, .string ⟨#[]⟩, .slice none 0 0, .slice none 0 0] 26)).alloc (.cells #[.int .i64 6, .int .i64 0, .int .u64 0, .string ⟨#[]⟩, .slice none 0 0, .slice none 0 0] 26)) Tryz.prog 9 (unitElem (H := Unit))
    rwa [World.size_alloc, World.size_alloc, World.size_alloc] at h
  have ST : Hid (MT R w ((((w.alloc (.cells #[.int .i64 3, .int .i64 na, .int .i64 ne, .slice np T.length nc] 59)).alloc (.cells #[.int .i64 0, .int .i64 0, .int .u64 0, .string ⟨#[]⟩, .slice none 0 0, .slice none 0 0] 26)).alloc (.cells #[.int .i64 6, .int .i64 0, .int .u64 0, .string ⟨#[]⟩, .slice none 0 0, .slice none 0 0] 26)).alloc (.map #[] 0)) n 3 na ne np T.length nc [] none 0 0 (.map []) ∧ MRd ((((w.alloc (.cells #[.int .i64 3, .int .i64 na, .int .i64 ne, .slice np T.length nc] 59)).alloc (.cells #[.int .i64 0, .int .i64 0, .int .u64 0, .string ⟨#[]⟩, .slice none 0 0, .slice none 0 0] 26)).alloc (.cells #[.int .i64 6, .int .i64 0, .int .u64 0, .string ⟨#[]⟩, .slice none 0 0, .slice none 0 0] 26)).alloc (.map #[] 0)) R s l pl er) := hide ⟨⟨hd0, OwnR.nil _ _ _ _ _, hn0, hr0, hM0, only_of_belowM b0, by omega, hRw⟩, hm.later b0⟩
  have a3 := hn0.cell 3 _ rfl
  simp only [List.getElem_toArray, List.getElem_cons_zero, List.getElem_cons_succ] at a3
  have HROW := hide hrow
  have HK := hide hk
  have HT := hide (And.intro hT (And.intro hm (And.intro hRw (And.intro hs hgd))))
  have hn63 : T.length ≤ 900000 := hTl.2
  clear b0 s0 hn0 hr0 hd0 hM0 hrow hk hT hm hRw hTl hs hgd
  have hmk : ∀ W : World, (Instr.makeMap 180 none).run Tryz.prog W = .ok (.map (some W.heap.size)) (W.alloc (.map #[] 0)) := fun W => rfl
  go_enter Tryz.func60, Tryz.ntmps60
  go_wp2
  clear a3 hmk
  go_loopw [18] (fun a wr => ∃ (j : Nat) (acc : List V) (p : Option Addr) (cp : Nat) (D : DataW Unit), a = .int .i64 j ∧ j ≤ T.length ∧ Hid (acc.length = j ∧ (∀ x, TabTo (KeyR s l) Rl (T.drop j) acc x → TabTo (KeyR s l) Rl T [] x) ∧ (acc.map (fun e => (opnE e).1)).Nodup ∧ Holds1 D (acc.map (fun e => (opnE e).1)) ∧ MT R w wr n 3 na ne np T.length nc acc p cp j D ∧ MRd wr R s l pl er)) (fun a _ => T.length - (intOf a).toNat)
  case atStart => exact ⟨0, [], none, 0, .map [], rfl, Nat.zero_le _, hide ⟨rfl, fun x h => h, List.nodup_nil, holds1_nil, ST.out.1, ST.out.2⟩⟩
  case round =>
    obtain ⟨j, acc, p, cp, D, rfl, hj, hh⟩ := hrel
    obtain ⟨hal, hup, hnd, hD, hst, hmr⟩ := hh.out
    obtain ⟨hT0, hm0, hRw, hs, hgd⟩ := HT.out
    clear hh ST
    by_cases hlt : j < T.length
    · have hltI : (j : Int) < (T.length : Int) := by omega
      obtain ⟨bk, o, rfl, hbR, hcell⟩ := HROW.out (fun e => by rw [e] at hlt; cases hlt)
      obtain ⟨us, hus, hce, hly⟩ := hcell j hlt
      have hlw : Lies (fun b => b < R) (n + 1) wr us T[j] := hly.kept hst.b.size (fun q hq hq2 => hst.b.block q hq2 (fun e => by have := Option.some.inj e; omega))
      obtain ⟨ek, ea, ee, kk', ka, ke', v, hTj, hka, hRK⟩ := HK.out T[j] (List.getElem_mem hlt)
      have hfrm : ∃ (tk ta te : Int) (kb ko tc : Nat) (kk ke : Int) (kp : Option Addr) (kn kc : Nat) (vk va ve : Int) (vp : Option Addr) (vl vc : Nat), us = [.int .i64 tk, .int .i64 ta, .int .i64 te, .slice (some ⟨kb, ko, none⟩) 2 tc] ∧ kb < R ∧ Lies (fun b => b < R) n wr [.int .i64 vk, .int .i64 va, .int .i64 ve, .slice vp vl vc] v ∧ (∀ i, i < 4 → wr.cell? ⟨kb, ko + i, none⟩ = [Value.int .i64 kk, .int .i64 (ka : Int), .int .i64 ke, .slice kp kn kc][i]?) ∧ (∀ i, i < 4 → wr.cell? ⟨kb, ko + 4 + i, none⟩ = [Value.int .i64 vk, .int .i64 va, .int .i64 ve, .slice vp vl vc][i]?) := by
        obtain ⟨a1, a2, a3, a4, a5, a6, b1, rfl, _, b4⟩ := hlw
        rw [hTj] at b1
        obtain ⟨_, _, _, rfl⟩ := trees.nd_inj b1
        obtain ⟨kb, ko, rfl, hkb, hklt, hkc⟩ := b4 (by simp)
        obtain ⟨u0, _, u2, u3⟩ := hkc 0 (by simp)
        obtain ⟨v0, _, v2, v3⟩ := hkc 1 (by simp)
        simp only [List.getElem_cons_zero, List.getElem_cons_succ] at u3 v3
        cases n with
        | zero => exact u3.elim
        | succ n =>
          have v3' := v3
          obtain ⟨c1, c2, c3, c4, c5, c6, d1, rfl, _, _⟩ := u3
          obtain ⟨e1, e2, e3, e4, e5, e6, f1, rfl, _, _⟩ := v3
          obtain ⟨_, rfl, _, _⟩ := trees.nd_inj d1
          refine ⟨_, _, _, kb, ko, _, (c1 : Int), (c3 : Int), c5, c4.length, c6, (e1 : Int), (e2 : Int), (e3 : Int), e5, e4.length, e6, rfl, hkb, v3', fun i hi => ?_, fun i hi => ?_⟩
          · have := u2 i hi
            rwa [Nat.zero_mul, Nat.add_zero] at this
          · have := v2 i hi
            rwa [Nat.one_mul] at this
      obtain ⟨tk, ta, te, kb, ko, tc, kk, ke, kp, kn, kc, vk, va, ve, vp, vl, vc, rfl, hkb, hlv0, hkey, hval⟩ := hfrm
      have hcw : ∀ i, i < 4 → wr.cell? ⟨bk, o + j * 4 + i, none⟩ = [Value.int .i64 tk, .int .i64 ta, .int .i64 te, .slice (some ⟨kb, ko, none⟩) 2 tc][i]? := fun i hi => (World.cell?_of_block (a := ⟨bk, o + j * 4 + i, none⟩) (hst.b.block bk (by omega) (fun e => by have := Option.some.inj e; omega))).trans (hce i hi)
      have k0 : wr.cell? ⟨bk, o + j * 4, none⟩ = some (.int .i64 tk) := hcw 0 (by omega)
      have k1 : wr.cell? ⟨bk, o + j * 4 + 1, none⟩ = some (.int .i64 ta) := hcw 1 (by omega)
      have k2 : wr.cell? ⟨bk, o + j * 4 + 2, none⟩ = some (.int .i64 te) := hcw 2 (by omega)
      have k3 : wr.cell? ⟨bk, o + j * 4 + 3, none⟩ = some (.slice (some ⟨kb, ko, none⟩) 2 tc) := hcw 3 (by omega)
      have hRr := hmr.lt
      have bA : Below wr.heap.size wr (wr.alloc (.cells #[.int .i64 tk, .int .i64 ta, .int .i64 te, .slice (some ⟨kb, ko, none⟩) 2 tc] 59)) := (Below.refl _ wr).alloc (Nat.le_refl _) _
      have hB5 := blk_alloc wr #[.int .i64 tk, .int .i64 ta, .int .i64 te, .slice (some ⟨kb, ko, none⟩) 2 tc] 59
      have hst4 := hst.later (only_of_belowM bA)
      have hmr4 := hmr.later bA
      have hT4 := (hT0.only hRw hst.b).only hRr (only_of_belowM bA)
      have hlv4 : Lies (fun b => b < R) n (wr.alloc (.cells #[.int .i64 tk, .int .i64 ta, .int .i64 te, .slice (some ⟨kb, ko, none⟩) 2 tc] 59)) [.int .i64 vk, .int .i64 va, .int .i64 ve, .slice vp vl vc] v := hlv0.kept bA.size (fun q hq hq2 => bA.block q hq2)
      have hkR : kb < wr.heap.size := by omega
      have hkey4 : ∀ i, i < 4 → (wr.alloc (.cells #[.int .i64 tk, .int .i64 ta, .int .i64 te, .slice (some ⟨kb, ko, none⟩) 2 tc] 59)).cell? ⟨kb, ko + i, none⟩ = [Value.int .i64 kk, .int .i64 (ka : Int), .int .i64 ke, .slice kp kn kc][i]? := fun i hi => (bA.cell (p := ⟨kb, ko + i, none⟩) hkR).trans (hkey i hi)
      have hval4 : ∀ i, i < 4 → (wr.alloc (.cells #[.int .i64 tk, .int .i64 ta, .int .i64 te, .slice (some ⟨kb, ko, none⟩) 2 tc] 59)).cell? ⟨kb, ko + 4 + i, none⟩ = [Value.int .i64 vk, .int .i64 va, .int .i64 ve, .slice vp vl vc][i]? := fun i hi => (bA.cell (p := ⟨kb, ko + 4 + i, none⟩) hkR).trans (hval i hi)
      have hWs : (wr.alloc (.cells #[.int .i64 tk, .int .i64 ta, .int .i64 te, .slice (some ⟨kb, ko, none⟩) 2 tc] 59)).heap.size = wr.heap.size + 1 := by simp
      have hs4 := hst.s
      have C := newKey_any (wr.alloc (.cells #[.int .i64 tk, .int .i64 ta, .int .i64 te, .slice (some ⟨kb, ko, none⟩) 2 tc] 59)) R s l pl er hmr4 kk ke ka hka (hgd ka hka) hs kp kn kc (w.heap.size + 3) j D hst4.mp (by omega) (by omega) hT4 (acc.map (fun e => (opnE e).1)) hD
      have HC := hide C
      have HDR := hide (List.drop_eq_getElem_cons hlt)
      have HB : Hid (MT R w (wr.alloc (.cells #[.int .i64 tk, .int .i64 ta, .int .i64 te, .slice (some ⟨kb, ko, none⟩) 2 tc] 59)) n 3 na ne (some ⟨bk, o, none⟩) T.length nc acc p cp j D ∧ Lies (fun b => b < R) n (wr.alloc (.cells #[.int .i64 tk, .int .i64 ta, .int .i64 te, .slice (some ⟨kb, ko, none⟩) 2 tc] 59)) [.int .i64 vk, .int .i64 va, .int .i64 ve, .slice vp vl vc] v ∧ Tabs R (wr.alloc (.cells #[.int .i64 tk, .int .i64 ta, .int .i64 te, .slice (some ⟨kb, ko, none⟩) 2 tc] 59)) ∧ Blk (wr.alloc (.cells #[.int .i64 tk, .int .i64 ta, .int .i64 te, .slice (some ⟨kb, ko, none⟩) 2 tc] 59)) wr.heap.size #[.int .i64 tk, .int .i64 ta, .int .i64 te, .slice (some ⟨kb, ko, none⟩) 2 tc] 59 ∧ (∀ i, i < 4 → (wr.alloc (.cells #[.int .i64 tk, .int .i64 ta, .int .i64 te, .slice (some ⟨kb, ko, none⟩) 2 tc] 59)).cell? ⟨kb, ko + 4 + i, none⟩ = [Value.int .i64 vk, .int .i64 va, .int .i64 ve, .slice vp vl vc][i]?) ∧ kb < R ∧ R < w.heap.size ∧ w.heap.size + 4 ≤ wr.heap.size ∧ (wr.alloc (.cells #[.int .i64 tk, .int .i64 ta, .int .i64 te, .slice (some ⟨kb, ko, none⟩) 2 tc] 59)).heap.size = wr.heap.size + 1) := hide ⟨hst4, hlv4, hT4, hB5, hval4, hkb, hRw, hs4, hWs⟩
      have HP := hide (And.intro hTj (And.intro hRK (And.intro hal (And.intro hup (And.intro hnd hD)))))
      have n3 := hB5.cell 3 _ rfl
      simp only [List.getElem_toArray, List.getElem_cons_zero, List.getElem_cons_succ] at n3
      have q0 : (wr.alloc (.cells #[.int .i64 tk, .int .i64 ta, .int .i64 te, .slice (some ⟨kb, ko, none⟩) 2 tc] 59)).cell? ⟨kb, ko, none⟩ = some (.int .i64 kk) := hkey4 0 (by omega)
      have q1 : (wr.alloc (.cells #[.int .i64 tk, .int .i64 ta, .int .i64 te, .slice (some ⟨kb, ko, none⟩) 2 tc] 59)).cell? ⟨kb, ko + 1, none⟩ = some (.int .i64 (ka : Int)) := hkey4 1 (by omega)
      have q2 : (wr.alloc (.cells #[.int .i64 tk, .int .i64 ta, .int .i64 te, .slice (some ⟨kb, ko, none⟩) 2 tc] 59)).cell? ⟨kb, ko + 2, none⟩ = some (.int .i64 ke) := hkey4 2 (by omega)
      have q3 : (wr.alloc (.cells #[.int .i64 tk, .int .i64 ta, .int .i64 te, .slice (some ⟨kb, ko, none⟩) 2 tc] 59)).cell? ⟨kb, ko + 3, none⟩ = some (.slice kp kn kc) := hkey4 3 (by omega)
      clear C hst4 hst hup hmr hmr4 hlw hly hcell hce hcw hus hbR hal hT0 hm0 hRw bA hRr hlv0 hlv4 hkey hval hkey4 hval4 hkR hkb hB5 hT4 hs4 hWs hs hgd hD hnd hTj hRK hka
      go_upto_region 7 with (go_at_call 113; refine (unhide HC).mono ?_; rintro e1 w2 (⟨kz, rfl, hKR, hkz, hM2, hm2, o2⟩ | ⟨pq, rfl, hKR, hm2, o2⟩))
      · obtain ⟨hst4, hlv4, hT4, hB5, hval4, hkb, hRw, hs4, hWs⟩ := HB.out
        have hst2 := hst4.key o2 hM2
        have nb : ∀ q, q < wr.heap.size + 1 → q ≠ R → q ≠ w.heap.size + 3 → w2.heap[q]? = (wr.alloc (.cells #[.int .i64 tk, .int .i64 ta, .int .i64 te, .slice (some ⟨kb, ko, none⟩) 2 tc] 59)).heap[q]? := fun q h1 h2 h3 => o2.block q (by omega) h2 h3
        have hB2 : Blk w2 wr.heap.size #[.int .i64 tk, .int .i64 ta, .int .i64 te, .slice (some ⟨kb, ko, none⟩) 2 tc] 59 := (nb _ (by omega) (by omega) (by omega)).trans hB5
        have hval2 : ∀ i, i < 4 → w2.cell? ⟨kb, ko + 4 + i, none⟩ = [Value.int .i64 vk, .int .i64 va, .int .i64 ve, .slice vp vl vc][i]? := fun i hi => (World.cell?_of_block (a := ⟨kb, ko + 4 + i, none⟩) (nb kb (by omega) (by omega) (by omega))).trans (hval4 i hi)
        have hlv2 : Lies (fun b => b < R) n w2 [.int .i64 vk, .int .i64 va, .int .i64 ve, .slice vp vl vc] v := hlv4.kept o2.size (fun q hq hq2 => nb q (by omega) (by omega) (by omega))
        have hT2 : Tabs R w2 := by
          obtain ⟨⟨h1, h2⟩, h3, h4⟩ := hT4
          have hb : ∀ q, q < R → w2.heap[q]? = (wr.alloc (.cells #[.int .i64 tk, .int .i64 ta, .int .i64 te, .slice (some ⟨kb, ko, none⟩) 2 tc] 59)).heap[q]? := fun q hq => nb q (by omega) (by omega) (by omega)
          refine ⟨⟨fun c hc => (World.cell?_of_block (a := ⟨1, c, none⟩) (hb _ h3)).trans (h1 c hc), fun i hi => ?_⟩, h3, h4⟩
          obtain ⟨a1, a2⟩ := h2 i hi
          exact ⟨(World.cell?_of_block (a := ⟨2, 2 * i, none⟩) (hb _ h4)).trans a1, (World.cell?_of_block (a := ⟨2, 2 * i + 1, none⟩) (hb _ h4)).trans a2⟩
        have C := HP.out.2.1 w2 pl er _ _ _ _ hm2 hlv2 hT2
        have HC2 := hide C
        have HS2 := hide hst2
        have m3 := hB2.cell 3 _ rfl
        simp only [List.getElem_toArray, List.getElem_cons_zero, List.getElem_cons_succ] at m3
        have v0 : w2.cell? ⟨kb, ko + 4, none⟩ = some (.int .i64 vk) := hval2 0 (by omega)
        have v1 : w2.cell? ⟨kb, ko + 5, none⟩ = some (.int .i64 va) := hval2 1 (by omega)
        have v2 : w2.cell? ⟨kb, ko + 6, none⟩ = some (.int .i64 ve) := hval2 2 (by omega)
        have v3 : w2.cell? ⟨kb, ko + 7, none⟩ = some (.slice vp vl vc) := hval2 3 (by omega)
        have HRW := hide hRw
        have v1' : w2.cell? ⟨kb, ko + 4 + 1, none⟩ = some (.int .i64 va) := v1
        have v2' : w2.cell? ⟨kb, ko + 4 + 2, none⟩ = some (.int .i64 ve) := v2
        have v3' : w2.cell? ⟨kb, ko + 4 + 3, none⟩ = some (.slice vp vl vc) := v3
        have HKZ := hide (And.intro hKR hkz)
        clear C hst2 hst4 hlv4 hT4 hB5 hval4 hkb hRw hs4 hWs nb hB2 hval2 hlv2 hT2 o2 hM2 hm2 HC HB hKR hkz n3 q0 q1 q2 q3 k0 k1 k2 k3
        go_upto_region 10 with (go_at_call 30; refine (unhide HC2).mono ?_; rintro e1 w3 ⟨hres, o3⟩; rcases hres with ⟨yk, nn, b, z, pL, nL, cL, pE, nE, cE, y, rfl, hRel, hly, hm3⟩ | ⟨pq, rfl, hRel, hm3⟩)
        · obtain ⟨hTj, hRK, hal, hup, hnd, hD⟩ := HP.out
          obtain ⟨hKR, hkz⟩ := HKZ.out
          obtain ⟨p', cp', W', hrun, hdW, hnx, hkp⟩ := HS2.out.push o3 kz yk nn b z pL nL cL pE nE cE y hkz hly (by omega)
          have hA := (HS2.out.later o3).later (only_of_belowM ((Below.refl _ w3).alloc (Nat.le_refl _) (.cells #[.int .i64 yk, .int .i64 nn, .int .u64 (b : Int), .string z, .slice pL nL cL, .slice pE nE cE] 26)))
          have d4 := hA.d.cell 5 _ rfl
          have hX := blk_alloc w3 #[.int .i64 yk, .int .i64 nn, .int .u64 (b : Int), .string z, .slice pL nL cL, .slice pE nE cE] 26
          have x0 := hX.cell 0 _ rfl
          have x1 := hX.cell 1 _ rfl
          have x2 := hX.cell 2 _ rfl
          have x3 := hX.cell 3 _ rfl
          have x4 := hX.cell 4 _ rfl
          have x5 := hX.cell 5 _ rfl
          have hA2 := hA.d.alloc (.cells #[.string kz, .int .i64 yk, .int .i64 nn, .int .u64 (b : Int), .string z, .slice pL nL cL, .slice pE nE cE] 44)
          have f4 := hA2.cell 5 _ rfl
          have w4 := hdW.cell 5 _ rfl
          have w4' := Blk.froz hdW 5
          simp only [List.getElem_toArray, List.getElem_cons_zero, List.getElem_cons_succ] at d4 f4 w4
          have hmap : (acc ++ [ent kz.data.toList y]).map (fun e => (opnE e).1) = acc.map (fun e => (opnE e).1) ++ [kz.data.toList] := by rw [List.map_append]; rfl
          have hnd2 : ((acc ++ [ent kz.data.toList y]).map (fun e => (opnE e).1)).Nodup := by
            rw [hmap, List.nodup_append]
            refine ⟨hnd, by simp, ?_⟩
            obtain ⟨_, key, ke, _, hh⟩ := hKR
            intro a ha c hc e
            rw [List.mem_singleton] at hc
            rcases hh with ⟨_, hno, e2⟩ | ⟨_, _, e2⟩ | ⟨_, e2⟩
            · injection e2 with e2
              rw [← e2, ← hc, ← e] at hno
              exact hno ha
            · cases e2
            · cases e2
          have NX : Hid ((acc ++ [ent kz.data.toList y]).length = j + 1 ∧ (∀ x, TabTo (KeyR s l) Rl (T.drop (j + 1)) (acc ++ [ent kz.data.toList y]) x → TabTo (KeyR s l) Rl T [] x) ∧ ((acc ++ [ent kz.data.toList y]).map (fun e => (opnE e).1)).Nodup ∧ Holds1 (D.put (.string kz.data.toList) (.agg [])) ((acc ++ [ent kz.data.toList y]).map (fun e => (opnE e).1)) ∧ MT R w (W'.setCell ⟨w.heap.size + 2, 5, none⟩ (.slice p' (acc.length + 1) cp')) n 3 na ne (some ⟨bk, o, none⟩) T.length nc (acc ++ [ent kz.data.toList y]) p' cp' (j + 1) (D.put (.string kz.data.toList) (.agg [])) ∧ MRd (W'.setCell ⟨w.heap.size + 2, 5, none⟩ (.slice p' (acc.length + 1) cp')) R s l pl er) := hide ⟨by simp; omega, fun x hx => hup x (by rw [HDR.out]; exact ⟨_, _, _, _, _, _, _, hTj, .inl ⟨_, hKR, .inl ⟨y, hRel, hx⟩⟩⟩), hnd2, by rw [hmap]; exact hD.put _, hnx, by
            obtain ⟨a, cap, g1, g2, g3, g4⟩ := hm3
            exact ⟨a, cap, (hkp R (Nat.le_refl R)).trans g1, g2, g3, g4.kept (fun q hq => hkp q (Nat.le_of_lt hq))⟩⟩
          clear hnx hkp hA hA2 hdW hX HC2 HS2 hly hm3 o3 hRel HDR v0 v1 v2 v3 v1' v2' v3' m3 hKR hkz hmap hTj hRK hup hnd hnd2 hD HKZ HP hal
          go_wp2_with (at_builtin; refine Lib.wpList_append_run _ rfl _ _ _ _ rfl _ _ rfl rfl _ _ hrun ?_)
          go_roundw
          case rel => exact ⟨j + 1, acc ++ [ent kz.data.toList y], p', cp', D.put (.string kz.data.toList) (.agg []), by go_num, hlt, NX⟩
          case measure => simp only [intOf]; omega
        · obtain ⟨hTj, hRK, hal, hup, hnd, hD⟩ := HP.out
          obtain ⟨hKR, hkz⟩ := HKZ.out
          have bB : Below w3.heap.size w3 (w3.alloc (.cells #[.int .i64 0, .int .i64 0, .int .u64 0, .string ⟨#[]⟩, .slice none 0 0, .slice none 0 0] 26)) := (Below.refl _ w3).alloc (Nat.le_refl _) _
          have hA := (HS2.out.later o3).later (only_of_belowM bB)
          have hr5 := hA.r
          have hsA := hA.s
          have FIN := hide (And.intro (hup (.inr pq) (by rw [HDR.out]; exact ⟨_, _, _, _, _, _, _, hTj, .inl ⟨_, hKR, .inr ⟨pq, hRel, rfl⟩⟩⟩)) (And.intro (hm3.later bB) (And.intro hA.b (And.intro HRW.out hsA))))
          clear hA hsA bB HC2 HS2 o3 hRel hm3 HDR v0 v1 v2 v3 v1' v2' v3' m3 hKR hkz hTj hRK hup hnd hD HKZ HP hal
          generalize w3.alloc (.cells #[.int .i64 0, .int .i64 0, .int .u64 0, .string ⟨#[]⟩, .slice none 0 0, .slice none 0 0] 26) = X at *
          go_upto_region 11 with fail
          have hY := put6_blk hr5 (.int .i64 0) (.int .i64 0) (.int .u64 0) (.string ⟨#[]⟩) (.slice none 0 0) (.slice none 0 0)
          have HY := hide hY
          have HF := hide (below_put6 (Below.refl (w.heap.size + 1) X) (b := w.heap.size + 1) (Nat.le_refl _) (.int .i64 0) (.int .i64 0) (.int .u64 0) (.string ⟨#[]⟩) (.slice none 0 0) (.slice none 0 0))
          have x0 := hr5.cell 0 _ rfl
          have x1 := hr5.cell 1 _ rfl
          have x2 := hr5.cell 2 _ rfl
          have x3 := hr5.cell 3 _ rfl
          have x4 := hr5.cell 4 _ rfl
          have x5 := hr5.cell 5 _ rfl
          have z0 := Blk.froz hr5 0
          have z1 := Blk.froz hr5 1
          have z2 := Blk.froz hr5 2
          have z3 := Blk.froz hr5 3
          have z4 := Blk.froz hr5 4
          have z5 := Blk.froz hr5 5
          clear hY
          go_wp2
          have hY := HY.out
          have hF := HF.out
          clear HY HF x0 x1 x2 x3 x4 x5 z0 z1 z2 z3 z4 z5 
          generalize hXX : put6 X (w.heap.size + 1) (.int .i64 0) (.int .i64 0) (.int .u64 0) (.string ⟨#[]⟩) (.slice none 0 0) (.slice none 0 0) = Y at hY hF
          simp only [put6] at hXX
          rw [hXX]
          clear hXX
          refine bodyPost_ret (results_tab _ hY) rfl ?_
          obtain ⟨hLT, hmX, oX, hRw, hsX⟩ := FIN.out
          obtain ⟨a, cap, g1, g2, g3, g4⟩ := hmX
          refine ⟨.inr ⟨pq, rfl, hLT, ⟨a, cap, (hF.block R (by omega)).trans g1, g2, g3, g4.kept (fun q hq => hF.block q (by omega))⟩⟩, ?_⟩
          exact ⟨hF.os.trans oX.os, hF.tape.trans oX.tape, hF.output.trans oX.output, Nat.le_trans oX.size hF.size, fun q hq hne => (hF.block q (by omega)).trans (oX.block q hq hne)⟩
      · obtain ⟨hst4, hlv4, hT4, hB5, hval4, hkb, hRw, hs4, hWs⟩ := HB.out
        obtain ⟨hTj, hRK, hal, hup, hnd, hD⟩ := HP.out
        have hA := hst4.later o2
        have hr5 := hA.r
        have hsA := hA.s
        have FIN := hide (And.intro (hup (.inr pq) (by rw [HDR.out]; exact ⟨_, _, _, _, _, _, _, hTj, .inr ⟨pq, hKR, rfl⟩⟩)) (And.intro hm2 (And.intro hA.b (And.intro hRw hsA))))
        clear hA hsA hst4 hlv4 hT4 hB5 hval4 hkb hRw hs4 hWs HC HB o2 hm2 hKR HDR n3 q0 q1 q2 q3 k0 k1 k2 k3 hTj hRK hup hnd hD HP hal
        have eX : ∃ X, X = w2 := ⟨_, rfl⟩
        obtain ⟨X, hXw⟩ := eX
        rw [← hXw] at hr5 FIN ⊢
        clear hXw
        go_upto_region 8 with fail
        have hY := put6_blk hr5 (.int .i64 0) (.int .i64 0) (.int .u64 0) (.string ⟨#[]⟩) (.slice none 0 0) (.slice none 0 0)
        have HY := hide hY
        have HF := hide (below_put6 (Below.refl (w.heap.size + 1) X) (b := w.heap.size + 1) (Nat.le_refl _) (.int .i64 0) (.int .i64 0) (.int .u64 0) (.string ⟨#[]⟩) (.slice none 0 0) (.slice none 0 0))
        have x0 := hr5.cell 0 _ rfl
        have x1 := hr5.cell 1 _ rfl
        have x2 := hr5.cell 2 _ rfl
        have x3 := hr5.cell 3 _ rfl
        have x4 := hr5.cell 4 _ rfl
        have x5 := hr5.cell 5 _ rfl
        have z0 := Blk.froz hr5 0
        have z1 := Blk.froz hr5 1
        have z2 := Blk.froz hr5 2
        have z3 := Blk.froz hr5 3
        have z4 := Blk.froz hr5 4
        have z5 := Blk.froz hr5 5
        clear hY
        go_wp2
        have hY := HY.out
        have hF := HF.out
        clear HY HF x0 x1 x2 x3 x4 x5 z0 z1 z2 z3 z4 z5 
        generalize hXX : put6 X (w.heap.size + 1) (.int .i64 0) (.int .i64 0) (.int .u64 0) (.string ⟨#[]⟩) (.slice none 0 0) (.slice none 0 0) = Y at hY hF
        simp only [put6] at hXX
        rw [hXX]
        clear hXX
        refine bodyPost_ret (results_tab _ hY) rfl ?_
        obtain ⟨hLT, hmX, oX, hRw, hsX⟩ := FIN.out
        obtain ⟨a, cap, g1, g2, g3, g4⟩ := hmX
        refine ⟨.inr ⟨pq, rfl, hLT, ⟨a, cap, (hF.block R (by omega)).trans g1, g2, g3, g4.kept (fun q hq => hF.block q (by omega))⟩⟩, ?_⟩
        exact ⟨hF.os.trans oX.os, hF.tape.trans oX.tape, hF.output.trans oX.output, Nat.le_trans oX.size hF.size, fun q hq hne => (hF.block q (by omega)).trans (oX.block q hq hne)⟩
    · obtain rfl : j = T.length := by omega
      have hls : acc.length ≤ 3000000 := by omega
      have C := sortE_any n (w.heap.size + 4) wr p cp acc hst.o hls
      have HC := hide C
      have hd5 := hst.d.cell 5 _ rfl
      simp only [List.getElem_toArray, List.getElem_cons_zero, List.getElem_cons_succ] at hd5
      have HST := hide (And.intro hst (And.intro hmr (And.intro hup (And.intro hnd hRw))))
      obtain ⟨al, hall⟩ : ∃ al, al = acc.length := ⟨_, rfl⟩
      have HAL := hide hall
      rw [← hall] at hd5 HC
      clear C hup hmr hst hal hT0 hm0 hRw hlt hj HROW HK HT hnd hD hs hgd hls hall
      go_upto_region 15 with (go_at_call 114; refine (unhide HC).mono ?_; rintro e1 w5 ⟨rfl, E, hE1, hE2, hE3, hE4⟩)
      obtain ⟨hst, hmr, hup, hnd, hRw⟩ := HST.out
      have hall := HAL.out
      subst hall
      have hEl := hE1.length_eq
      have hst5 := hst.sorted hEl hE3 hE4
      have hr5 := hst5.r
      have hD5 := hst5.d
      rw [hEl] at hD5
      have hv5 := hst5.value
      rw [hEl] at hv5
      have hmr5 : MRd w5 R s l pl er := by
        obtain ⟨a, cap, g1, g2, g3, g4⟩ := hmr
        have hlt5 := hst.o.lt
        have hss := hst.s
        have nb : ∀ q, q < w.heap.size → w5.heap[q]? = wr.heap[q]? := fun q hq => hE4.block q (by omega) (fun e => by have := (hlt5 q e.symm).1; omega)
        exact ⟨a, cap, (nb R hRw).trans g1, g2, g3, g4.kept (fun q hq => nb q (by omega))⟩
      have FIN := hide (And.intro (hup (.inl (mkV (6, 0, 0, []) [] E)) (by rw [List.drop_length]; exact ⟨E, hE1, asc_of hE2 ((hE1.map _).nodup_iff.2 hnd), rfl⟩)) (And.intro hmr5 (And.intro hst5.b (And.intro hRw (And.intro hst5.s hv5)))))
      obtain ⟨al, hall⟩ : ∃ al, al = acc.length := ⟨_, rfl⟩
      rw [← hall] at hD5 FIN
      clear hst hmr hup hnd hRw hE1 hE2 hE3 hE4 hst5 hmr5 hd5 HC HST HAL hEl hv5 hall
      have hY := put6_blk hr5 (.int .i64 6) (.int .i64 0) (.int .u64 0) (.string ⟨#[]⟩) (.slice none 0 0) (.slice p al cp)
      have HY := hide hY
      have HF := hide (below_put6 (Below.refl (w.heap.size + 1) w5) (b := w.heap.size + 1) (Nat.le_refl _) (.int .i64 6) (.int .i64 0) (.int .u64 0) (.string ⟨#[]⟩) (.slice none 0 0) (.slice p al cp))
      have x0 := hr5.cell 0 _ rfl
      have x1 := hr5.cell 1 _ rfl
      have x2 := hr5.cell 2 _ rfl
      have x3 := hr5.cell 3 _ rfl
      have x4 := hr5.cell 4 _ rfl
      have x5 := hr5.cell 5 _ rfl
      have z0 := Blk.froz hr5 0
      have z1 := Blk.froz hr5 1
      have z2 := Blk.froz hr5 2
      have z3 := Blk.froz hr5 3
      have z4 := Blk.froz hr5 4
      have z5 := Blk.froz hr5 5
      have q0 := hD5.cell 0 _ rfl
      have q1 := hD5.cell 1 _ rfl
      have q2 := hD5.cell 2 _ rfl
      have q3 := hD5.cell 3 _ rfl
      have q4 := hD5.cell 4 _ rfl
      have q5 := hD5.cell 5 _ rfl
      clear hY
      go_wp2
      have hY := HY.out
      have hF := HF.out
      clear HY HF x0 x1 x2 x3 x4 x5 z0 z1 z2 z3 z4 z5 q0 q1 q2 q3 q4 q5
      have HOT := hide (fun q (hq : w.heap.size + 4 ≤ q) => put6_otherM w5 (w.heap.size + 1) q (by omega) (.int .i64 6) (.int .i64 0) (.int .u64 0) (.string ⟨#[]⟩) (.slice none 0 0) (.slice p al cp))
      generalize hXX : put6 w5 (w.heap.size + 1) (.int .i64 6) (.int .i64 0) (.int .u64 0) (.string ⟨#[]⟩) (.slice none 0 0) (.slice p al cp) = Y at hY hF HOT
      simp only [put6] at hXX
      rw [hXX]
      clear hXX
      refine bodyPost_ret (results_tab _ hY) rfl ?_
      obtain ⟨hLT, hmX, oX, hRw, hsX, hV⟩ := FIN.out
      obtain ⟨a, cap, g1, g2, g3, g4⟩ := hmX
      have hsz := hF.size
      refine ⟨.inl ⟨6, 0, 0, ⟨#[]⟩, none, 0, 0, p, al, cp, _, rfl, hLT, ?_, ⟨a, cap, (hF.block R (by omega)).trans g1, g2, g3, g4.kept (fun q hq => hF.block q (by omega))⟩⟩, ?_⟩
      · exact hV.kept (fun q hq => ⟨by omega, by omega⟩) hsz (fun q hq _ => HOT.out q (by omega))
      · exact ⟨hF.os.trans oX.os, hF.tape.trans oX.tape, hF.output.trans oX.output, Nat.le_trans oX.size hF.size, fun q hq hne => (hF.block q (by omega)).trans (oX.block q hq hne)⟩
end Go.Proofs.YtnbfnjhbmeocfaaGreatDoor.valus
