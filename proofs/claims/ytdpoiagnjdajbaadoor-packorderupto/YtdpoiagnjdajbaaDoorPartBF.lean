/- The law PackOrder. -/
import Derived.Test.YtdpoiagnjdajbaaDoorPartBA
import Derived.Test.YtdpoiagnjdajbaaDoorPartBE
import Derived.Test.YtdpoiagnjdajbaaDoorPartAM
import Derived.Deep.RegionHeld3
import Derived.Deep.QuietTactic
import Derived.BigQuiet
set_option linter.unusedVariables false
namespace Go.Proofs.YtdpoiagnjdajbaaDoor.valus
open Go.RowKit Go.Shelf

/-- Two values in their boxes, and nothing below turned. -/
structure Hold2 (w : World) (N : Nat) (x0 x1 x2 x3 x4 x5 y0 y1 y2 y3 y4 y5 : Value) (u : World) : Prop where
  bel : Below N w u
  lt : N + 1 < u.heap.size
  c0 : u.cell? ⟨N, 0, none⟩ = some x0
  c1 : u.cell? ⟨N, 1, none⟩ = some x1
  c2 : u.cell? ⟨N, 2, none⟩ = some x2
  c3 : u.cell? ⟨N, 3, none⟩ = some x3
  c4 : u.cell? ⟨N, 4, none⟩ = some x4
  c5 : u.cell? ⟨N, 5, none⟩ = some x5
  d0 : u.cell? ⟨N + 1, 0, none⟩ = some y0
  d1 : u.cell? ⟨N + 1, 1, none⟩ = some y1
  d2 : u.cell? ⟨N + 1, 2, none⟩ = some y2
  d3 : u.cell? ⟨N + 1, 3, none⟩ = some y3
  d4 : u.cell? ⟨N + 1, 4, none⟩ = some y4
  d5 : u.cell? ⟨N + 1, 5, none⟩ = some y5
theorem Hold2.below {w : World} {N : Nat} {x0 x1 x2 x3 x4 x5 y0 y1 y2 y3 y4 y5 : Value} {u u' : World} (h : Hold2 w N x0 x1 x2 x3 x4 x5 y0 y1 y2 y3 y4 y5 u) (hb : Below u.heap.size u u') : Hold2 w N x0 x1 x2 x3 x4 x5 y0 y1 y2 y3 y4 y5 u' := by
  have l1 := h.lt
  have k : ∀ j, u'.cell? ⟨N, j, none⟩ = u.cell? ⟨N, j, none⟩ := fun j => hb.cell (p := ⟨N, j, none⟩) (by simp only; omega)
  have k' : ∀ j, u'.cell? ⟨N + 1, j, none⟩ = u.cell? ⟨N + 1, j, none⟩ := fun j => hb.cell (p := ⟨N + 1, j, none⟩) (by simp only; omega)
  exact ⟨h.bel.trans (hb.mono (by omega)), Nat.lt_of_lt_of_le h.lt hb.size, (k 0).trans h.c0, (k 1).trans h.c1, (k 2).trans h.c2, (k 3).trans h.c3, (k 4).trans h.c4, (k 5).trans h.c5, (k' 0).trans h.d0, (k' 1).trans h.d1, (k' 2).trans h.d2, (k' 3).trans h.d3, (k' 4).trans h.d4, (k' 5).trans h.d5⟩
theorem two_boxes (w : World) (x0 x1 x2 x3 x4 x5 y0 y1 y2 y3 y4 y5 : Value) : Hold2 w w.heap.size x0 x1 x2 x3 x4 x5 y0 y1 y2 y3 y4 y5 ((w.alloc (.cells #[x0, x1, x2, x3, x4, x5] 26)).alloc (.cells #[y0, y1, y2, y3, y4, y5] 26)) := by
  have hb := ((blk_alloc w #[x0, x1, x2, x3, x4, x5] 26).alloc (.cells #[y0, y1, y2, y3, y4, y5] 26))
  have hb' := blk_alloc (w.alloc (.cells #[x0, x1, x2, x3, x4, x5] 26)) #[y0, y1, y2, y3, y4, y5] 26
  rw [World.size_alloc] at hb'
  exact ⟨(((Below.refl _ w).alloc (Nat.le_refl _) _).alloc (by simp) _), by simp, hb.cell 0 _ rfl, hb.cell 1 _ rfl, hb.cell 2 _ rfl, hb.cell 3 _ rfl, hb.cell 4 _ rfl, hb.cell 5 _ rfl, hb'.cell 0 _ rfl, hb'.cell 1 _ rfl, hb'.cell 2 _ rfl, hb'.cell 3 _ rfl, hb'.cell 4 _ rfl, hb'.cell 5 _ rfl⟩

set_option maxHeartbeats 4000000 in
set_option maxRecDepth 100000 in
/-- The statements' 'same'. -/
theorem sameK_any (f : Nat) (w : World) (t u : V) (a0 a1 a2 a3 a4 a5 b0 b1 b2 b3 b4 b5 : Value) (hl : LiesV (fun b => b < w.heap.size) f w [a0, a1, a2, a3, a4, a5] t) (hl' : LiesV (fun b => b < w.heap.size) f w [b0, b1, b2, b3, b4, b5] u) (hn : nodesV f t ≤ 3000000) (r : Bool) (hr : r = decide (cmpV f t u = .eq)) :
    Calls Tryd.prog 18 #[.agg #[a0, a1, a2, a3, a4, a5], .agg #[b0, b1, b2, b3, b4, b5]] w fun e w' => e = .returned (.bool r) ∧ Below w.heap.size w w' := by
  obtain ⟨k, n, b, s, pL, nL, cL, pV, nV, cV, rfl, rfl, rfl, rfl, rfl, rfl⟩ := hl.form
  obtain ⟨k', n', b', s', qL, mL, dL, qV, mV, dV, rfl, rfl, rfl, rfl, rfl, rfl⟩ := hl'.form
  have hH := two_boxes w (.int .i64 k) (.int .i64 n) (.int .u64 (b : Int)) (.string s) (.slice pL nL cL) (.slice pV nV cV) (.int .i64 k') (.int .i64 n') (.int .u64 (b' : Int)) (.string s') (.slice qL mL dL) (.slice qV mV dV)
  have hb := hH.bel
  have K := hide (callsIn_wide.1 (compare_any f _ t u _ _ _ _ _ _ _ _ _ _ _ _ (hl.kept (fun b h => Nat.lt_of_lt_of_le h hb.size) hb.size (fun b h _ => hb.block b h)) (hl'.kept (fun b h => Nat.lt_of_lt_of_le h hb.size) hb.size (fun b h _ => hb.block b h)) hn))
  obtain ⟨_, _, s0, s1, s2, s3, s4, s5, s6, s7, s8, s9, s10, s11⟩ := hH
  have HB := hide hb
  have hz : ∀ z, z = ordI (cmpV f t u) → (z == 0) = r := fun z h => by
    rw [hr, h]
    cases cmpV f t u <;> rfl
  have hz' := hz _ rfl
  have HR := hide hr
  clear hl hl' hb hz hr
  generalize ordI (cmpV f t u) = z at *
  go_enter Tryd.func18, Tryd.ntmps18
  go_wp2_with (go_at_call 17; refine (unhide K).mono ?_; rintro e w3 ⟨rfl, b3⟩)
  go_ret
  refine ⟨?_, HB.out.trans (b3.mono HB.out.size)⟩
  first | rw [hz'] | (rw [← hz']; rfl)

def zeroT : V := mkV (0, 0, 0, []) [] []
theorem zero_one : oneV zeroT = 0 := by
  unfold oneV zeroT
  rw [opn_mk]
  have hk : KindOk 0 0 0 ([] : List UInt8) ([] : List V).length ([] : List V).length := ⟨⟨by omega, by omega⟩, .inl rfl, fun h => .inl rfl, .inl rfl, .inl rfl, .inl rfl, .inl rfl, fun h => absurd h (by decide)⟩
  simp only
  rw [if_neg (fun h => h hk), if_neg (by simp), if_neg (by decide)]
  rfl
theorem zero_good : faultV oneV zeroT = 0 := fault_zero.2 ⟨1999, by
  show (if oneV zeroT = 0 then recL (recV oneV 19) 1999 (parts zeroT) else .inl (oneV zeroT)) = .inr 1999
  rw [if_pos zero_one]
  rfl⟩
theorem zero_lies (ok : Nat → Prop) (w : World) : LiesV ok 1 w [.int .i64 0, .int .i64 0, .int .u64 0, .string ⟨#[]⟩, .slice none 0 0, .slice none 0 0] zeroT :=
  ⟨0, 0, 0, ⟨#[]⟩, [], [], none, none, 0, 0, rfl, rfl, ⟨⟨by omega, by omega⟩, ⟨by omega, by omega⟩, by omega, by decide⟩, ⟨Nat.le_refl _, Nat.zero_le _, Nat.le_refl _, Nat.zero_le _⟩, fun h => absurd rfl h, fun h => absurd rfl h⟩
set_option maxHeartbeats 4000000 in
set_option maxRecDepth 100000 in
theorem packs_any (w : World) (hT : Lib.Utf8Tabs 1 2 w) (m : Int) (hm : w.cell? ⟨0, 0, none⟩ = some (.int .i64 m)) :
    Calls Tryd.prog 13 #[] w fun e w' => e = .returned (.bool true) ∧ Below w.heap.size w w' := by
  have K := pack_any 1 w zeroT _ _ _ _ _ _ (zero_lies _ w) (by decide) hT m hm
  have HK : Hid (Calls Tryd.prog 7 #[.agg #[.int .i64 0, .int .i64 0, .int .u64 0, .string ⟨#[]⟩, .slice none 0 0, .slice none 0 0]] w fun e w' => (∃ g cap, e = .returned (.tuple #[.slice (some ⟨g, 0, none⟩) 1 cap, .int .i64 0])) ∧ Below w.heap.size w w') := hide (K.mono fun e w' ⟨h1, h2⟩ => ⟨by
    rcases h1 with ⟨_, v', h3, h4⟩ | ⟨h3, _⟩
    · obtain ⟨g, cap, hv, _, _⟩ := h4.form (by decide)
      exact ⟨g, cap, by rw [h3, hv]; rfl⟩
    · exact absurd zero_good h3, h2⟩)
  clear K hT hm
  go_enter Tryd.func13, Tryd.ntmps13
  go_wp2_with (go_at_call 7; refine (unhide HK).mono ?_; rintro e w3 ⟨⟨g, cap, rfl⟩, b3⟩)
  go_ret
  exact ⟨rfl, b3⟩

set_option maxHeartbeats 8000000 in
set_option maxRecDepth 100000 in
theorem lawOrder (f : Nat) (w : World) (t u : V) (a0 a1 a2 a3 a4 a5 b0 b1 b2 b3 b4 b5 : Value) (hl : LiesV (fun b => b < w.heap.size) f w [a0, a1, a2, a3, a4, a5] t) (hl' : LiesV (fun b => b < w.heap.size) f w [b0, b1, b2, b3, b4, b5] u) (hn : nodesV f t ≤ 1048576) (hn' : nodesV f u ≤ 1048576) (hT : Lib.Utf8Tabs 1 2 w) (m : Int) (hm : w.cell? ⟨0, 0, none⟩ = some (.int .i64 m)) :
    Calls Tryd.prog 5 #[.agg #[a0, a1, a2, a3, a4, a5], .agg #[b0, b1, b2, b3, b4, b5]] w fun e w' => e = .returned (.bool true) ∧ Below w.heap.size w w' := by
  have hGl := World.block_lt_of_cell? w _ hm
  obtain ⟨k, n, b, s, pL, nL, cL, pV, nV, cV, rfl, rfl, rfl, rfl, rfl, rfl⟩ := hl.form
  obtain ⟨k', n', b', s', qL, mL, dL, qV, mV, dV, rfl, rfl, rfl, rfl, rfl, rfl⟩ := hl'.form
  obtain ⟨H, hH⟩ : ∃ H : World → Prop, H = Hold2 w w.heap.size (.int .i64 k) (.int .i64 n) (.int .u64 (b : Int)) (.string s) (.slice pL nL cL) (.slice pV nV cV) (.int .i64 k') (.int .i64 n') (.int .u64 (b' : Int)) (.string s') (.slice qL mL dL) (.slice qV mV dV) := ⟨_, rfl⟩
  have hbel : ∀ v, H v → Below w.heap.size w v := fun v h => by rw [hH] at h; exact h.bel
  have hbw : ∀ v v', H v → Below v.heap.size v v' → H v' := fun v v' h hb => by rw [hH] at h ⊢; exact h.below hb
  have up : ∀ {v}, H v → LiesV (fun b => b < v.heap.size) f v [.int .i64 k, .int .i64 n, .int .u64 (b : Int), .string s, .slice pL nL cL, .slice pV nV cV] t := fun h => hl.kept (fun b h' => Nat.lt_of_lt_of_le h' (hbel _ h).size) (hbel _ h).size (fun b h' _ => (hbel _ h).block b h')
  have up' : ∀ {v}, H v → LiesV (fun b => b < v.heap.size) f v [.int .i64 k', .int .i64 n', .int .u64 (b' : Int), .string s', .slice qL mL dL, .slice qV mV dV] u := fun h => hl'.kept (fun b h' => Nat.lt_of_lt_of_le h' (hbel _ h).size) (hbel _ h).size (fun b h' _ => (hbel _ h).block b h')
  have upm : ∀ {v}, H v → v.cell? ⟨0, 0, none⟩ = some (.int .i64 m) := fun h => ((hbel _ h).cell (p := ⟨0, 0, none⟩) hGl).trans hm
  have K0 : ∀ v, Hid (H v → Calls Tryd.prog 13 #[] v fun e w' => e = .returned (.bool true) ∧ H w') := fun v h => (packs_any v (Utf8Tabs_below hT (hbel _ h)) m (upm h)).mono fun e w' ⟨e1, e2⟩ => ⟨e1, hbw v w' h e2⟩
  have KA : ∀ v, H v → Calls Tryd.prog 7 #[.agg #[.int .i64 k, .int .i64 n, .int .u64 (b : Int), .string s, .slice pL nL cL, .slice pV nV cV]] v fun e w' => PackRes v.heap.size f t e w' ∧ Below v.heap.size v w' := fun v h => pack_any f v t _ _ _ _ _ _ (up h) (by omega) (Utf8Tabs_below hT (hbel _ h)) m (upm h)
  have KB : ∀ v, H v → Calls Tryd.prog 7 #[.agg #[.int .i64 k', .int .i64 n', .int .u64 (b' : Int), .string s', .slice qL mL dL, .slice qV mV dV]] v fun e w' => PackRes v.heap.size f u e w' ∧ Below v.heap.size v w' := fun v h => pack_any f v u _ _ _ _ _ _ (up' h) (by omega) (Utf8Tabs_below hT (hbel _ h)) m (upm h)
  have hA : H ((w.alloc (.cells #[.int .i64 k, .int .i64 n, .int .u64 (b : Int), .string s, .slice pL nL cL, .slice pV nV cV] 26)).alloc (.cells #[.int .i64 k', .int .i64 n', .int .u64 (b' : Int), .string s', .slice qL mL dL, .slice qV mV dV] 26)) := by rw [hH]; exact two_boxes w _ _ _ _ _ _ _ _ _ _ _ _
  have hcells : ∀ v, Hid (H v → v.cell? ⟨w.heap.size, 0, none⟩ = some (.int .i64 k) ∧ v.cell? ⟨w.heap.size, 1, none⟩ = some (.int .i64 n) ∧ v.cell? ⟨w.heap.size, 2, none⟩ = some (.int .u64 (b : Int)) ∧ v.cell? ⟨w.heap.size, 3, none⟩ = some (.string s) ∧ v.cell? ⟨w.heap.size, 4, none⟩ = some (.slice pL nL cL) ∧ v.cell? ⟨w.heap.size, 5, none⟩ = some (.slice pV nV cV) ∧ v.cell? ⟨w.heap.size + 1, 0, none⟩ = some (.int .i64 k') ∧ v.cell? ⟨w.heap.size + 1, 1, none⟩ = some (.int .i64 n') ∧ v.cell? ⟨w.heap.size + 1, 2, none⟩ = some (.int .u64 (b' : Int)) ∧ v.cell? ⟨w.heap.size + 1, 3, none⟩ = some (.string s') ∧ v.cell? ⟨w.heap.size + 1, 4, none⟩ = some (.slice qL mL dL) ∧ v.cell? ⟨w.heap.size + 1, 5, none⟩ = some (.slice qV mV dV)) := fun v h => by
    rw [hH] at h
    exact ⟨h.c0, h.c1, h.c2, h.c3, h.c4, h.c5, h.d0, h.d1, h.d2, h.d3, h.d4, h.d5⟩
  have HB := hide hbel
  by_cases ht : faultV oneV t = 0
  · by_cases hu : faultV oneV u = 0
    · have gt := good_lies hl ht
      have gu := good_lies hl' hu
      obtain ⟨la, hla⟩ : ∃ la, la = encV f t := ⟨_, rfl⟩
      obtain ⟨lb, hlb⟩ : ∃ lb, lb = encV f u := ⟨_, rfl⟩
      have nea : la ≠ [] := by
        rw [hla]
        cases f with
        | zero => exact gt.elim
        | succ f => exact fun h => by cases h
      have neb : lb ≠ [] := by
        rw [hlb]
        cases f with
        | zero => exact gt.elim
        | succ f => exact fun h => by cases h
      have hcmp : cmpB la lb = cmpV f t u := by rw [hla, hlb]; exact encV_cmp gt gu
      have hab : cmpV f t u ≠ .eq → Lib.hasPrefix la lb = false := fun h => by
        cases hp : Lib.hasPrefix la lb with
        | false => rfl
        | true =>
          obtain ⟨r, hr⟩ := List.isPrefixOf_iff_prefix.1 (show lb.isPrefixOf la = true from hp)
          exact absurd (encV_front gt gu (r := r) (by rw [← hla, ← hlb, hr])) h
      have hba : cmpV f t u ≠ .eq → Lib.hasPrefix lb la = false := fun h => by
        cases hp : Lib.hasPrefix lb la with
        | false => rfl
        | true =>
          obtain ⟨r, hr⟩ := List.isPrefixOf_iff_prefix.1 (show la.isPrefixOf lb = true from hp)
          have h2 := encV_front gu gt (r := r) (by rw [← hla, ← hlb, hr])
          have h3 := (cmpV_ord f).swap u t hl'.isV hl.isV
          rw [h2] at h3
          exact absurd h3 h
      obtain ⟨J, hJ⟩ : ∃ J : Value → Value → World → Prop, J = fun va vb v => H v ∧ (∃ n0, OwnB n0 v va la) ∧ ∃ n1, OwnB n1 v vb lb := ⟨_, rfl⟩
      have PA : ∀ v, Hid (H v → Calls Tryd.prog 7 #[.agg #[.int .i64 k, .int .i64 n, .int .u64 (b : Int), .string s, .slice pL nL cL, .slice pV nV cV]] v fun e w' => (∃ va, e = .returned (.tuple #[va, .int .i64 0]) ∧ ∃ n0, OwnB n0 w' va la) ∧ H w') := fun v h => (KA v h).mono fun e w' ⟨e1, e2⟩ => ⟨by
        rcases e1 with ⟨_, va, h3, h4⟩ | ⟨h3, _⟩
        · exact ⟨va, h3, _, by rw [hla]; exact h4⟩
        · exact absurd ht h3, hbw v w' h e2⟩
      have PB : ∀ v va, Hid (H v → (∃ n0, OwnB n0 v va la) → Calls Tryd.prog 7 #[.agg #[.int .i64 k', .int .i64 n', .int .u64 (b' : Int), .string s', .slice qL mL dL, .slice qV mV dV]] v fun e w' => ∃ vb, e = .returned (.tuple #[vb, .int .i64 0]) ∧ J va vb w') := fun v va h ⟨n0, ho⟩ => (KB v h).mono fun e w' ⟨e1, e2⟩ => by
        rcases e1 with ⟨_, vb, h3, h4⟩ | ⟨h3, _⟩
        · rw [hJ]
          exact ⟨vb, h3, hbw v w' h e2, ⟨n0, ho.later e2⟩, _, by rw [hlb]; exact h4⟩
        · exact absurd hu h3
      have jw : ∀ va vb v v', J va vb v → Below v.heap.size v v' → J va vb v' := fun va vb v v' h hb => by
        rw [hJ] at h ⊢
        obtain ⟨h1, ⟨n0, h2⟩, n1, h3⟩ := h
        exact ⟨hbw v v' h1 hb, ⟨n0, h2.later hb⟩, n1, h3.later hb⟩
      have jH : ∀ va vb v, J va vb v → H v := fun va vb v h => by rw [hJ] at h; exact h.1
      have jcells : ∀ va vb v, Hid (J va vb v → v.cell? ⟨w.heap.size, 0, none⟩ = some (.int .i64 k) ∧ v.cell? ⟨w.heap.size, 1, none⟩ = some (.int .i64 n) ∧ v.cell? ⟨w.heap.size, 2, none⟩ = some (.int .u64 (b : Int)) ∧ v.cell? ⟨w.heap.size, 3, none⟩ = some (.string s) ∧ v.cell? ⟨w.heap.size, 4, none⟩ = some (.slice pL nL cL) ∧ v.cell? ⟨w.heap.size, 5, none⟩ = some (.slice pV nV cV) ∧ v.cell? ⟨w.heap.size + 1, 0, none⟩ = some (.int .i64 k') ∧ v.cell? ⟨w.heap.size + 1, 1, none⟩ = some (.int .i64 n') ∧ v.cell? ⟨w.heap.size + 1, 2, none⟩ = some (.int .u64 (b' : Int)) ∧ v.cell? ⟨w.heap.size + 1, 3, none⟩ = some (.string s') ∧ v.cell? ⟨w.heap.size + 1, 4, none⟩ = some (.slice qL mL dL) ∧ v.cell? ⟨w.heap.size + 1, 5, none⟩ = some (.slice qV mV dV)) := fun va vb v h => unhide (hcells v) (jH _ _ _ h)
      have JC : ∀ va vb v, Hid (J va vb v → Calls Tryd.prog 16 #[va, vb] v fun e w' => e = .returned (.int .i64 (ordI (cmpV f t u))) ∧ J va vb w') := fun va vb v h => by
        have h' := h
        rw [hJ] at h'
        obtain ⟨h1, ⟨n0, h2⟩, n1, h3⟩ := h'
        exact (bytesCmp_any v n0 n1 va vb la lb h2 h3 nea neb).mono fun e w' ⟨e1, e2⟩ => ⟨by rw [← hcmp]; exact e1, by rw [e2]; exact h⟩
      have JV : ∀ va vb v, Hid (J va vb v → Calls Tryd.prog 17 #[.agg #[.int .i64 k, .int .i64 n, .int .u64 (b : Int), .string s, .slice pL nL cL, .slice pV nV cV], .agg #[.int .i64 k', .int .i64 n', .int .u64 (b' : Int), .string s', .slice qL mL dL, .slice qV mV dV]] v fun e w' => e = .returned (.int .i64 (ordI (cmpV f t u))) ∧ J va vb w') := fun va vb v h => (callsIn_wide.1 (compare_any f v t u _ _ _ _ _ _ _ _ _ _ _ _ (up (jH _ _ _ h)) (up' (jH _ _ _ h)) (by omega))).mono fun e w' ⟨e1, e2⟩ => ⟨e1, jw _ _ v w' h e2⟩
      obtain ⟨r, hr⟩ : ∃ r : Bool, r = decide (cmpV f t u = .eq) := ⟨_, rfl⟩
      have JS : ∀ va vb v, Hid (J va vb v → Calls Tryd.prog 18 #[.agg #[.int .i64 k, .int .i64 n, .int .u64 (b : Int), .string s, .slice pL nL cL, .slice pV nV cV], .agg #[.int .i64 k', .int .i64 n', .int .u64 (b' : Int), .string s', .slice qL mL dL, .slice qV mV dV]] v fun e w' => e = .returned (.bool r) ∧ J va vb w') := fun va vb v h => (sameK_any f v t u _ _ _ _ _ _ _ _ _ _ _ _ (up (jH _ _ _ h)) (up' (jH _ _ _ h)) (by omega) r hr).mono fun e w' ⟨e1, e2⟩ => ⟨e1, jw _ _ v w' h e2⟩
      have J1 : r = false → ∀ va vb v, Hid (J va vb v → Calls Tryd.prog 19 #[va, vb] v fun e w' => e = .returned (.bool false) ∧ J va vb w') := fun hf va vb v h => by
        have h' := h
        rw [hJ] at h'
        obtain ⟨h1, ⟨n0, h2⟩, n1, h3⟩ := h'
        have hne : cmpV f t u ≠ .eq := fun e => by rw [hr, decide_eq_true e] at hf; cases hf
        have K := front_any v n0 n1 va vb la lb h2 h3 nea neb
        rw [hab hne] at K
        exact K.mono fun e w' ⟨e1, e2⟩ => ⟨e1, by rw [e2]; exact h⟩
      have J2 : r = false → ∀ va vb v, Hid (J va vb v → Calls Tryd.prog 19 #[vb, va] v fun e w' => e = .returned (.bool false) ∧ J va vb w') := fun hf va vb v h => by
        have h' := h
        rw [hJ] at h'
        obtain ⟨h1, ⟨n0, h2⟩, n1, h3⟩ := h'
        have hne : cmpV f t u ≠ .eq := fun e => by rw [hr, decide_eq_true e] at hf; cases hf
        have K := front_any v n1 n0 vb va lb la h3 h2 neb nea
        rw [hba hne] at K
        exact K.mono fun e w' ⟨e1, e2⟩ => ⟨e1, by rw [e2]; exact h⟩
      have jd : ∀ va vb v, Hid (J va vb v → J va vb v.drew) := fun va vb v h => jw va vb v v.drew h ((Below.refl _ v).drew)
      have HJ := hide jH
      have c0 := unhide (hcells _) hA
      clear hbel hbw up up' upm hl hl' hH hT hm KA KB hcmp hab hba gt gu jw jH hJ ht hu hr hla hlb nea neb
      generalize ordI (cmpV f t u) = z1 at *
      obtain ⟨s0, s1, s2, s3, s4, s5, s6, s7, s8, s9, s10, s11⟩ := c0
      go_enter Tryd.func5, Tryd.ntmps5
      go_wp2_with (first
        | (go_at_call 13; refine (unhide (K0 _) (by assumption)).mono ?_; rintro e w9 ⟨rfl, G9⟩; obtain ⟨s0, s1, s2, s3, s4, s5, s6, s7, s8, s9, s10, s11⟩ := unhide (hcells _) G9)
        | (go_at_call_of 7 (Value.int IntKind.i64 k); refine (unhide (PA _) (by assumption)).mono ?_; rintro e w8 ⟨⟨va, rfl, ZA⟩, G8⟩; obtain ⟨s0, s1, s2, s3, s4, s5, s6, s7, s8, s9, s10, s11⟩ := unhide (hcells _) G8)
        | (go_at_call_of 7 (Value.int IntKind.i64 k'); refine (unhide (PB _ _) (by assumption) (by assumption)).mono ?_; rintro e w7 ⟨vb, rfl, G7⟩; obtain ⟨s0, s1, s2, s3, s4, s5, s6, s7, s8, s9, s10, s11⟩ := unhide (jcells _ _ _) G7))
      have G6 := unhide (jd _ _ _) G7
      clear K0 PA PB hA G9 G8 ZA G7 jd hcells
      cases r with
      | true =>
        clear J1 J2
        refine wp_region_quiet (C := J va vb) (by kernel_rfl) (by kernel_rfl) G6 ?_
        simp only
        go_big_quiet_want
        refine ⟨va, fun w9 G9 => ?_, ?_⟩
        · go_simp
        simp only [Act.put, List.setIfInBounds_toArray, List.set_cons_succ, List.set_cons_zero]
        go_big_quiet_on
        go_big_quiet_want
        refine ⟨vb, fun w9 G9 => ?_, ?_⟩
        · go_simp
        simp only [Act.put, List.setIfInBounds_toArray, List.set_cons_succ, List.set_cons_zero]
        go_big_quiet_on
        go_big_quiet_want
        refine ⟨(.int .i64 z1), fun w9 G9 => ?_, ?_⟩
        · go_simp
          exact unhide (JC _ _ _) G9
        simp only [Act.put, List.setIfInBounds_toArray, List.set_cons_succ, List.set_cons_zero]
        go_big_quiet_on
        go_big_quiet_want
        refine ⟨(.agg #[.int .i64 k, .int .i64 n, .int .u64 (b : Int), .string s, .slice pL nL cL, .slice pV nV cV]), fun w9 G9 => ?_, ?_⟩
        · obtain ⟨s0, s1, s2, s3, s4, s5, s6, s7, s8, s9, s10, s11⟩ := unhide (jcells _ _ _) G9
          go_simp
        simp only [Act.put, List.setIfInBounds_toArray, List.set_cons_succ, List.set_cons_zero]
        go_big_quiet_on
        go_big_quiet_want
        refine ⟨(.agg #[.int .i64 k', .int .i64 n', .int .u64 (b' : Int), .string s', .slice qL mL dL, .slice qV mV dV]), fun w9 G9 => ?_, ?_⟩
        · obtain ⟨s0, s1, s2, s3, s4, s5, s6, s7, s8, s9, s10, s11⟩ := unhide (jcells _ _ _) G9
          go_simp
        simp only [Act.put, List.setIfInBounds_toArray, List.set_cons_succ, List.set_cons_zero]
        go_big_quiet_on
        go_big_quiet_want
        refine ⟨(.int .i64 z1), fun w9 G9 => ?_, ?_⟩
        · go_simp
          exact unhide (JV _ _ _) G9
        simp only [Act.put, List.setIfInBounds_toArray, List.set_cons_succ, List.set_cons_zero]
        go_big_quiet_on
        go_big_quiet_want
        refine ⟨(.bool true), fun w9 G9 => ?_, ?_⟩
        · go_simp
        simp only [Act.put, List.setIfInBounds_toArray, List.set_cons_succ, List.set_cons_zero]
        go_big_quiet_on
        go_big_quiet_want
        refine ⟨(.bool true), fun w9 G9 => ?_, ?_⟩
        · go_simp
        simp only [Act.put, List.setIfInBounds_toArray, List.set_cons_succ, List.set_cons_zero]
        go_big_quiet_on
        go_big_quiet_want
        refine ⟨(.agg #[.int .i64 k, .int .i64 n, .int .u64 (b : Int), .string s, .slice pL nL cL, .slice pV nV cV]), fun w9 G9 => ?_, ?_⟩
        · obtain ⟨s0, s1, s2, s3, s4, s5, s6, s7, s8, s9, s10, s11⟩ := unhide (jcells _ _ _) G9
          go_simp
        simp only [Act.put, List.setIfInBounds_toArray, List.set_cons_succ, List.set_cons_zero]
        go_big_quiet_on
        go_big_quiet_want
        refine ⟨(.agg #[.int .i64 k', .int .i64 n', .int .u64 (b' : Int), .string s', .slice qL mL dL, .slice qV mV dV]), fun w9 G9 => ?_, ?_⟩
        · obtain ⟨s0, s1, s2, s3, s4, s5, s6, s7, s8, s9, s10, s11⟩ := unhide (jcells _ _ _) G9
          go_simp
        simp only [Act.put, List.setIfInBounds_toArray, List.set_cons_succ, List.set_cons_zero]
        go_big_quiet_on
        go_big_quiet_want
        refine ⟨(.bool true), fun w9 G9 => ?_, ?_⟩
        · go_simp
          exact unhide (JS _ _ _) G9
        simp only [Act.put, List.setIfInBounds_toArray, List.set_cons_succ, List.set_cons_zero]
        go_big_quiet_on
        go_big_quiet_want
        refine ⟨(.bool true), fun w9 G9 => ?_, ?_⟩
        · go_simp
        simp only [Act.put, List.setIfInBounds_toArray, List.set_cons_succ, List.set_cons_zero]
        go_big_quiet_on
        go_big_quiet_skip
        go_big_quiet_skip
        go_big_quiet_skip
        go_big_quiet_skip
        go_big_quiet_skip
        go_big_quiet_skip
        go_big_quiet_skip
        go_big_quiet_skip
        go_big_quiet_skip
        go_big_quiet_skip
        go_big_quiet_want
        refine ⟨(.bool true), fun w9 G9 => ?_, ?_⟩
        · go_simp
        simp only [Act.put, List.setIfInBounds_toArray, List.set_cons_succ, List.set_cons_zero]
        go_big_quiet_on
        go_big_quiet_want
        refine ⟨(.bool true), fun w9 G9 => ?_, ?_⟩
        · go_simp
        simp only [Act.put, List.setIfInBounds_toArray, List.set_cons_succ, List.set_cons_zero]
        go_big_quiet_on
        go_big_quiet_want
        refine ⟨(.bool true), fun w9 G9 => ?_, ?_⟩
        · go_simp
        simp only [Act.put, List.setIfInBounds_toArray, List.set_cons_succ, List.set_cons_zero]
        go_big_quiet_on
        refine wpQuiet_nil ?_
        intro w9 G9
        go_wp2
        go_ret
        exact ⟨rfl, HB.out _ (HJ.out _ _ _ G9)⟩
      | false =>
        have J1' := J1 rfl
        have J2' := J2 rfl
        clear J1 J2
        generalize hN : w.heap.size = N at *
        have HN := hide hN
        clear hN
        go_region_held3 (fun w' => w'.cell? ⟨N, 0, none⟩ = some (.int .i64 k) ∧ w'.cell? ⟨N, 1, none⟩ = some (.int .i64 n) ∧ w'.cell? ⟨N, 2, none⟩ = some (.int .u64 (b : Int)) ∧ w'.cell? ⟨N, 3, none⟩ = some (.string s) ∧ w'.cell? ⟨N, 4, none⟩ = some (.slice pL nL cL) ∧ w'.cell? ⟨N, 5, none⟩ = some (.slice pV nV cV) ∧ w'.cell? ⟨N + 1, 0, none⟩ = some (.int .i64 k') ∧ w'.cell? ⟨N + 1, 1, none⟩ = some (.int .i64 n') ∧ w'.cell? ⟨N + 1, 2, none⟩ = some (.int .u64 (b' : Int)) ∧ w'.cell? ⟨N + 1, 3, none⟩ = some (.string s') ∧ w'.cell? ⟨N + 1, 4, none⟩ = some (.slice qL mL dL) ∧ w'.cell? ⟨N + 1, 5, none⟩ = some (.slice qV mV dV)) (go_keep)
          (first
            | (go_at_call 16; refine (unhide (JC _ _ _) (by assumption)).mono ?_; rintro e w9 ⟨rfl, G9⟩; obtain ⟨s0, s1, s2, s3, s4, s5, s6, s7, s8, s9, s10, s11⟩ := unhide (jcells _ _ _) G9)
            | (go_at_call 17; refine (unhide (JV _ _ _) (by assumption)).mono ?_; rintro e w9 ⟨rfl, G9⟩; obtain ⟨s0, s1, s2, s3, s4, s5, s6, s7, s8, s9, s10, s11⟩ := unhide (jcells _ _ _) G9)
            | (go_at_call 18; refine (unhide (JS _ _ _) (by assumption)).mono ?_; rintro e w9 ⟨rfl, G9⟩; obtain ⟨s0, s1, s2, s3, s4, s5, s6, s7, s8, s9, s10, s11⟩ := unhide (jcells _ _ _) G9)
            | (go_at_call_of 19 ([va, vb] : List Value); refine (unhide (J1' _ _ _) (by assumption)).mono ?_; rintro e w9 ⟨rfl, G9⟩; obtain ⟨s0, s1, s2, s3, s4, s5, s6, s7, s8, s9, s10, s11⟩ := unhide (jcells _ _ _) G9)
            | (go_at_call_of 19 ([vb, va] : List Value); refine (unhide (J2' _ _ _) (by assumption)).mono ?_; rintro e w9 ⟨rfl, G9⟩; obtain ⟨s0, s1, s2, s3, s4, s5, s6, s7, s8, s9, s10, s11⟩ := unhide (jcells _ _ _) G9))
        all_goals
          go_wp2
          go_ret
          exact ⟨rfl, by rw [HN.out]; exact HB.out _ (HJ.out _ _ _ G9)⟩
    · have PA : ∀ v, Hid (H v → Calls Tryd.prog 7 #[.agg #[.int .i64 k, .int .i64 n, .int .u64 (b : Int), .string s, .slice pL nL cL, .slice pV nV cV]] v fun e w' => (∃ va, e = .returned (.tuple #[va, .int .i64 0])) ∧ H w') := fun v h => (KA v h).mono fun e w' ⟨e1, e2⟩ => ⟨by
        rcases e1 with ⟨_, va, h3, h4⟩ | ⟨h3, _⟩
        · exact ⟨va, h3⟩
        · exact absurd ht h3, hbw v w' h e2⟩
      have PB : ∀ v, Hid (H v → Calls Tryd.prog 7 #[.agg #[.int .i64 k', .int .i64 n', .int .u64 (b' : Int), .string s', .slice qL mL dL, .slice qV mV dV]] v fun e w' => e = .returned (.tuple #[.slice none 0 0, .int .i64 (faultV oneV u)]) ∧ H w') := fun v h => (KB v h).mono fun e w' ⟨e1, e2⟩ => ⟨by
        rcases e1 with ⟨h3, _⟩ | ⟨_, h3⟩
        · exact absurd h3 hu
        · exact h3, hbw v w' h e2⟩
      have g4 : (faultV oneV u != 0) = true := bne_iff_ne.2 hu
      obtain ⟨s0, s1, s2, s3, s4, s5, s6, s7, s8, s9, s10, s11⟩ := unhide (hcells _) hA
      clear hbel hbw up up' upm hl hl' hH hT hm KA KB ht
      generalize faultV oneV u = fv at *
      go_enter Tryd.func5, Tryd.ntmps5
      go_wp2_with (first
        | (go_at_call 13; refine (unhide (K0 _) (by assumption)).mono ?_; rintro e w9 ⟨rfl, G9⟩; obtain ⟨s0, s1, s2, s3, s4, s5, s6, s7, s8, s9, s10, s11⟩ := unhide (hcells _) G9)
        | (go_at_call_of 7 (Value.int IntKind.i64 k); refine (unhide (PA _) (by assumption)).mono ?_; rintro e w8 ⟨⟨va, rfl⟩, G8⟩; obtain ⟨s0, s1, s2, s3, s4, s5, s6, s7, s8, s9, s10, s11⟩ := unhide (hcells _) G8)
        | (go_at_call_of 7 (Value.int IntKind.i64 k'); refine (unhide (PB _) (by assumption)).mono ?_; rintro e w7 ⟨rfl, G7⟩))
      go_ret
      exact ⟨rfl, HB.out _ G7⟩
  · have PA : ∀ v, Hid (H v → Calls Tryd.prog 7 #[.agg #[.int .i64 k, .int .i64 n, .int .u64 (b : Int), .string s, .slice pL nL cL, .slice pV nV cV]] v fun e w' => e = .returned (.tuple #[.slice none 0 0, .int .i64 (faultV oneV t)]) ∧ H w') := fun v h => (KA v h).mono fun e w' ⟨e1, e2⟩ => ⟨by
      rcases e1 with ⟨h3, _⟩ | ⟨_, h3⟩
      · exact absurd h3 ht
      · exact h3, hbw v w' h e2⟩
    have PB : ∀ v, Hid (H v → Calls Tryd.prog 7 #[.agg #[.int .i64 k', .int .i64 n', .int .u64 (b' : Int), .string s', .slice qL mL dL, .slice qV mV dV]] v fun e w' => (∃ vb z, e = .returned (.tuple #[vb, .int .i64 z])) ∧ H w') := fun v h => (KB v h).mono fun e w' ⟨e1, e2⟩ => ⟨by
      rcases e1 with ⟨_, vb, h3, h4⟩ | ⟨_, h3⟩
      · exact ⟨vb, 0, h3⟩
      · exact ⟨_, _, h3⟩, hbw v w' h e2⟩
    have g4 : (faultV oneV t != 0) = true := bne_iff_ne.2 ht
    obtain ⟨s0, s1, s2, s3, s4, s5, s6, s7, s8, s9, s10, s11⟩ := unhide (hcells _) hA
    clear hbel hbw up up' upm hl hl' hH hT hm KA KB
    generalize faultV oneV t = fv at *
    go_enter Tryd.func5, Tryd.ntmps5
    go_wp2_with (first
      | (go_at_call 13; refine (unhide (K0 _) (by assumption)).mono ?_; rintro e w9 ⟨rfl, G9⟩; obtain ⟨s0, s1, s2, s3, s4, s5, s6, s7, s8, s9, s10, s11⟩ := unhide (hcells _) G9)
      | (go_at_call_of 7 (Value.int IntKind.i64 k); refine (unhide (PA _) (by assumption)).mono ?_; rintro e w8 ⟨rfl, G8⟩; obtain ⟨s0, s1, s2, s3, s4, s5, s6, s7, s8, s9, s10, s11⟩ := unhide (hcells _) G8)
      | (go_at_call_of 7 (Value.int IntKind.i64 k'); refine (unhide (PB _) (by assumption)).mono ?_; rintro e w7 ⟨⟨vb, z, rfl⟩, G7⟩))
    go_ret
    exact ⟨rfl, HB.out _ G7⟩
theorem lawOrderAll (w : World) (f0 f1 : Nat) (t u : V) (a0 a1 a2 a3 a4 a5 b0 b1 b2 b3 b4 b5 : Value) (hl : LiesV (fun b => b < w.heap.size) f0 w [a0, a1, a2, a3, a4, a5] t) (hl' : LiesV (fun b => b < w.heap.size) f1 w [b0, b1, b2, b3, b4, b5] u) (hn : nodesV f0 t ≤ 1048576) (hn' : nodesV f1 u ≤ 1048576) (hT : Lib.Utf8Tabs 1 2 w ∧ ∃ m : Int, w.cell? ⟨0, 0, none⟩ = some (.int .i64 m)) :
    Calls Tryd.prog 5 #[.agg #[a0, a1, a2, a3, a4, a5], .agg #[b0, b1, b2, b3, b4, b5]] w fun e w' => e = .returned (.bool true) ∧ Below w.heap.size w w' := by
  obtain ⟨hT1, m, hm⟩ := hT
  exact lawOrder (f0 + f1) w t u a0 a1 a2 a3 a4 a5 b0 b1 b2 b3 b4 b5 (hl.to (by omega)) (hl'.to (by omega)) (by rw [nodesV_le hl.isV (by omega)]; exact hn) (by rw [nodesV_le hl'.isV (by omega)]; exact hn') hT1 m hm
end Go.Proofs.YtdpoiagnjdajbaaDoor.valus
