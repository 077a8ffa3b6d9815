/- The document's unpacked and Unpacked. -/
import Derived.Test.YtdpoiagnjdajbaaDoorPtelBE
import Derived.Test.YtdpoiagnjdajbaaDoorPtelBG
set_option linter.unusedVariables false
namespace Go.Proofs.YtdpoiagnjdajbaaDoor.valus
open Go.RowKit Go.Shelf
set_option maxHeartbeats 8000000 in
set_option maxRecDepth 100000 in
theorem und_deep1 (w : World) (s : ByteArray) (e1 : s.toList.isEmpty = true) : Calls Tryd.prog 23 #[.string s, .int .i64 1001] w (UndPost 0 w s.data.toList) := by
  have bP : Below w.heap.size w ((w.alloc (.cells #[.int .i64 0, .int .i64 0, .int .u64 0, .string ⟨#[]⟩, .slice none 0 0, .slice none 0 0] 26)).alloc (.cells #[.int .i64 0, .int .i64 0, .int .u64 0, .string ⟨#[]⟩, .slice none 0 0, .slice none 0 0] 26)) := begD_below w
  have hrb : Blk ((w.alloc (.cells #[.int .i64 0, .int .i64 0, .int .u64 0, .string ⟨#[]⟩, .slice none 0 0, .slice none 0 0] 26)).alloc (.cells #[.int .i64 0, .int .i64 0, .int .u64 0, .string ⟨#[]⟩, .slice none 0 0, .slice none 0 0] 26)) w.heap.size _ _ := begD_res w
  have hnn : Blk ((w.alloc (.cells #[.int .i64 0, .int .i64 0, .int .u64 0, .string ⟨#[]⟩, .slice none 0 0, .slice none 0 0] 26)).alloc (.cells #[.int .i64 0, .int .i64 0, .int .u64 0, .string ⟨#[]⟩, .slice none 0 0, .slice none 0 0] 26)) (w.heap.size + 1) _ _ := begD_none w
  have hu : uM 0 s.data.toList = none := rfl
  go_enter Tryd.func23, Tryd.ntmps23
  go_upto_region 3 with fail
  generalize (w.alloc (.cells #[.int .i64 0, .int .i64 0, .int .u64 0, .string ⟨#[]⟩, .slice none 0 0, .slice none 0 0] 26)).alloc (.cells #[.int .i64 0, .int .i64 0, .int .u64 0, .string ⟨#[]⟩, .slice none 0 0, .slice none 0 0] 26) = P at *
  have hY := put6_blk hrb (.int .i64 0) (.int .i64 0) (.int .u64 0) (.string ⟨#[]⟩) (.slice none 0 0) (.slice none 0 0)
  have HY := hide hY
  have HF := hide (und_none (l := s.data.toList) bP hu)
  have x0 := hrb.cell 0 _ rfl
  have x1 := hrb.cell 1 _ rfl
  have x2 := hrb.cell 2 _ rfl
  have x3 := hrb.cell 3 _ rfl
  have x4 := hrb.cell 4 _ rfl
  have x5 := hrb.cell 5 _ rfl
  have z0 := Blk.froz hrb 0
  have z1 := Blk.froz hrb 1
  have z2 := Blk.froz hrb 2
  have z3 := Blk.froz hrb 3
  have z4 := Blk.froz hrb 4
  have z5 := Blk.froz hrb 5
  have q0 := hnn.cell 0 _ rfl
  have q1 := hnn.cell 1 _ rfl
  have q2 := hnn.cell 2 _ rfl
  have q3 := hnn.cell 3 _ rfl
  have q4 := hnn.cell 4 _ rfl
  have q5 := hnn.cell 5 _ rfl
  clear hY
  go_wp2
  have hY := HY.out
  have hF := HF.out
  clear HY HF x0 x1 x2 x3 x4 x5 z0 z1 z2 z3 z4 z5 q0 q1 q2 q3 q4 q5
  generalize hXX : put6 P w.heap.size (.int .i64 0) (.int .i64 0) (.int .u64 0) (.string ⟨#[]⟩) (.slice none 0 0) (.slice none 0 0) = Y at hY hF
  simp only [put6] at hXX
  rw [hXX]
  clear hXX
  exact bodyPost_ret (results_und _ hY) rfl hF
set_option maxHeartbeats 8000000 in
set_option maxRecDepth 100000 in
theorem und_deep2 (w : World) (s : ByteArray) (e1 : s.toList.isEmpty = false) : Calls Tryd.prog 23 #[.string s, .int .i64 1001] w (UndPost 0 w s.data.toList) := by
  have bP : Below w.heap.size w ((w.alloc (.cells #[.int .i64 0, .int .i64 0, .int .u64 0, .string ⟨#[]⟩, .slice none 0 0, .slice none 0 0] 26)).alloc (.cells #[.int .i64 0, .int .i64 0, .int .u64 0, .string ⟨#[]⟩, .slice none 0 0, .slice none 0 0] 26)) := begD_below w
  have hrb : Blk ((w.alloc (.cells #[.int .i64 0, .int .i64 0, .int .u64 0, .string ⟨#[]⟩, .slice none 0 0, .slice none 0 0] 26)).alloc (.cells #[.int .i64 0, .int .i64 0, .int .u64 0, .string ⟨#[]⟩, .slice none 0 0, .slice none 0 0] 26)) w.heap.size _ _ := begD_res w
  have hnn : Blk ((w.alloc (.cells #[.int .i64 0, .int .i64 0, .int .u64 0, .string ⟨#[]⟩, .slice none 0 0, .slice none 0 0] 26)).alloc (.cells #[.int .i64 0, .int .i64 0, .int .u64 0, .string ⟨#[]⟩, .slice none 0 0, .slice none 0 0] 26)) (w.heap.size + 1) _ _ := begD_none w
  have hu : uM 0 s.data.toList = none := rfl
  go_enter Tryd.func23, Tryd.ntmps23
  go_upto_region 3 with fail
  generalize (w.alloc (.cells #[.int .i64 0, .int .i64 0, .int .u64 0, .string ⟨#[]⟩, .slice none 0 0, .slice none 0 0] 26)).alloc (.cells #[.int .i64 0, .int .i64 0, .int .u64 0, .string ⟨#[]⟩, .slice none 0 0, .slice none 0 0] 26) = P at *
  have hY := put6_blk hrb (.int .i64 0) (.int .i64 0) (.int .u64 0) (.string ⟨#[]⟩) (.slice none 0 0) (.slice none 0 0)
  have HY := hide hY
  have HF := hide (und_none (l := s.data.toList) bP hu)
  have x0 := hrb.cell 0 _ rfl
  have x1 := hrb.cell 1 _ rfl
  have x2 := hrb.cell 2 _ rfl
  have x3 := hrb.cell 3 _ rfl
  have x4 := hrb.cell 4 _ rfl
  have x5 := hrb.cell 5 _ rfl
  have z0 := Blk.froz hrb 0
  have z1 := Blk.froz hrb 1
  have z2 := Blk.froz hrb 2
  have z3 := Blk.froz hrb 3
  have z4 := Blk.froz hrb 4
  have z5 := Blk.froz hrb 5
  have q0 := hnn.cell 0 _ rfl
  have q1 := hnn.cell 1 _ rfl
  have q2 := hnn.cell 2 _ rfl
  have q3 := hnn.cell 3 _ rfl
  have q4 := hnn.cell 4 _ rfl
  have q5 := hnn.cell 5 _ rfl
  clear hY
  go_wp2
  have hY := HY.out
  have hF := HF.out
  clear HY HF x0 x1 x2 x3 x4 x5 z0 z1 z2 z3 z4 z5 q0 q1 q2 q3 q4 q5
  generalize hXX : put6 P w.heap.size (.int .i64 0) (.int .i64 0) (.int .u64 0) (.string ⟨#[]⟩) (.slice none 0 0) (.slice none 0 0) = Y at hY hF
  simp only [put6] at hXX
  rw [hXX]
  clear hXX
  exact bodyPost_ret (results_und _ hY) rfl hF
theorem und_all : ∀ (n i : Nat), i + n = 1001 → ReadU n (i : Int)
  | 0, i, hi => fun w s hs => by
    obtain rfl : i = 1001 := by omega
    cases he : s.toList.isEmpty with
    | true => exact und_deep1 w s he
    | false => exact und_deep2 w s he
  | n + 1, i, hi => fun w s hs => by
    have ih := und_all n (i + 1) (by omega)
    have hi' : i ≤ 1000 := by omega
    rcases Nat.eq_zero_or_pos s.size with h0 | h0
    · exact und_empty w s hs n i hi' h0
    · by_cases hc : 1 ≤ (s[0]'h0).toNat ∧ (s[0]'h0).toNat ≤ 7
      · rcases u8_cases hc.1 hc.2 with h1 | h1 | h1 | h1 | h1 | h1 | h1
        · exact und1 w s hs n i hi' h0 h1
        · exact und2 w s hs n i hi' h0 h1
        · exact und3 w s hs n i hi' h0 h1
        · rcases Nat.lt_or_ge (num8 (s.data.toList.drop 1)) 9223372036854775808 with h8 | h8
          · exact und4l w s hs n i hi' h0 h1 h8
          · exact und4h w s hs n i hi' h0 h1 h8
        · exact und5 w s hs n i hi' h0 h1
        · exact und6 w s hs n i hi' h0 h1 ih
        · exact und7 w s hs n i hi' h0 h1 ih
      · exact und_kind w s hs n i hi' h0 hc
/-- No more values than bytes. -/
theorem upL_nodes {rd : List UInt8 → Option (V × List UInt8)} {c : V → Nat} (h : ∀ l y r, rd l = some (y, r) → c y + r.length ≤ l.length) : ∀ (n : Nat) (acc : List V) (l : List UInt8) (Y : List V) (r : List UInt8), upL rd n acc l = some (Y, r) → sumOf c Y + r.length ≤ sumOf c acc + l.length
  | 0, acc, l, Y, r, e => by cases e
  | n + 1, acc, [], Y, r, e => by cases e
  | n + 1, acc, d :: l, Y, r, e => by
    have eu : upL rd (n + 1) acc (d :: l) = if d = 0 then some (acc, l) else if d = 1 then (match rd l with | none => none | some p => upL rd n (acc ++ [p.1]) p.2) else none := rfl
    rw [eu] at e
    split at e
    · simp only [Option.some.injEq, Prod.mk.injEq] at e
      obtain ⟨rfl, rfl⟩ := e
      simp only [List.length_cons]
      omega
    · split at e
      · cases hr : rd l with
        | none => rw [hr] at e; cases e
        | some p =>
          rw [hr] at e
          obtain ⟨y, r1⟩ := p
          have h1 := h l y r1 hr
          have h2 := upL_nodes h n _ r1 Y r e
          have h3 : sumOf c (acc ++ [y]) = sumOf c acc + (c y + 0) := by rw [sumOf_append]; rfl
          dsimp only at h2
          rw [h3] at h2
          simp only [List.length_cons]
          omega
      · cases e
theorem unch_rest : ∀ {l t r : List UInt8}, unchL l = some (t, r) → r.length ≤ l.length := fun {l t r} h => by
  have h1 := (chain_un (l.length + 1) [] l false 0 (Nat.lt_succ_self _)).2 t r h
  have h2 := (dn_chain (l.length + 1) [] (l, false, 0)).1
  rw [h1] at h2
  exact h2
theorem uM_nodes : ∀ (n : Nat) (l : List UInt8) (y : V) (r : List UInt8), uM n l = some (y, r) → nodesV n y + r.length ≤ l.length
  | 0, l, y, r, e => by cases e
  | n + 1, [], y, r, e => by cases e
  | n + 1, c :: l, y, r, e => by
    have e' : uB (uM n) c l = some (y, r) := e
    simp only [List.length_cons]
    by_cases hc : 1 ≤ c.toNat ∧ c.toNat ≤ 7
    · have nl : ∀ x : Lab, nodesV (n + 1) (leaf x) = 1 := fun x => rfl
      rcases u8_cases hc.1 hc.2 with rfl | rfl | rfl | rfl | rfl | rfl | rfl
      · have e2 : some (leaf (0, 0, 0, []), l) = some (y, r) := e'
        simp only [Option.some.injEq, Prod.mk.injEq] at e2
        obtain ⟨rfl, rfl⟩ := e2
        rw [nl]
        omega
      · cases l with
        | nil => cases e'
        | cons d l =>
          have e2 : some (leaf (1, (d.toNat : Int), 0, []), l) = some (y, r) := e'
          simp only [Option.some.injEq, Prod.mk.injEq] at e2
          obtain ⟨rfl, rfl⟩ := e2
          rw [nl]
          simp only [List.length_cons]
          omega
      · rw [uB_3] at e'
        split at e'
        · cases e'
        · simp only [Option.some.injEq, Prod.mk.injEq] at e'
          obtain ⟨rfl, rfl⟩ := e'
          rw [nl, List.length_drop]
          omega
      · rw [uB_4] at e'
        split at e'
        · cases e'
        · simp only [Option.some.injEq, Prod.mk.injEq] at e'
          obtain ⟨rfl, rfl⟩ := e'
          rw [nl, List.length_drop]
          omega
      · rw [uB_5] at e'
        cases hu : unchL l with
        | none => rw [hu] at e'; cases e'
        | some p =>
          obtain ⟨t, r1⟩ := p
          rw [hu] at e'
          simp only [Option.map_some, Option.some.injEq, Prod.mk.injEq] at e'
          obtain ⟨rfl, rfl⟩ := e'
          rw [nl]
          have := unch_rest hu
          omega
      · rw [uB_6] at e'
        cases hu : upL (uM n) (l.length + 1) [] l with
        | none => rw [hu] at e'; cases e'
        | some p =>
          obtain ⟨Y, r1⟩ := p
          rw [hu] at e'
          simp only [Option.map_some, Option.some.injEq, Prod.mk.injEq] at e'
          obtain ⟨rfl, rfl⟩ := e'
          have h1 := upL_nodes (c := nodesV n) (fun l y r h => uM_nodes n l y r h) _ _ _ _ _ hu
          have h2 : sumOf (nodesV n) ([] : List V) = 0 := rfl
          rw [nodes_mk]
          have h3 : sumOf (fun e => nodesV n (opnE e).2) ([] : List V) = 0 := rfl
          omega
      · rw [uB_7] at e'
        cases hu : upL (uE (uM n)) (l.length + 1) [] l with
        | none => rw [hu] at e'; cases e'
        | some p =>
          obtain ⟨Y, r1⟩ := p
          rw [hu] at e'
          simp only [Option.map_some, Option.some.injEq, Prod.mk.injEq] at e'
          obtain ⟨rfl, rfl⟩ := e'
          have h1 := upL_nodes (c := fun e => nodesV n (opnE e).2) (fun l y r h => by
            unfold uE at h
            cases hc : unchL l with
            | none => rw [hc] at h; cases h
            | some q =>
              rw [hc] at h
              obtain ⟨t, r2⟩ := q
              dsimp only at h
              cases hv : uM n r2 with
              | none => rw [hv] at h; cases h
              | some q2 =>
                rw [hv] at h
                obtain ⟨y2, r3⟩ := q2
                simp only [Option.map_some, Option.some.injEq, Prod.mk.injEq] at h
                obtain ⟨rfl, rfl⟩ := h
                have a1 := uM_nodes n r2 y2 r3 hv
                have a2 := unch_rest hc
                rw [opnE_ent]
                dsimp only
                omega) _ _ _ _ _ hu
          rw [nodes_mk]
          have h2 : sumOf (nodesV n) ([] : List V) = 0 := rfl
          have h3 : sumOf (fun e => nodesV n (opnE e).2) ([] : List V) = 0 := rfl
          omega
    · rw [uB_no _ _ hc] at e'
      cases e'
end Go.Proofs.YtdpoiagnjdajbaaDoor.valus
/- The document's Unpacked. -/
set_option linter.unusedVariables false
namespace Go.Proofs.YtdpoiagnjdajbaaDoor.valus
open Go.RowKit Go.Shelf

/-- What Unpacked answers. -/
def DunRes (n0 : Nat) (l : List UInt8) (e : Ending) (w' : World) : Prop :=
  (∃ (y : V) (k nn : Int) (b : Nat) (z : ByteArray) (pL : Option Addr) (nL cL : Nat) (pE : Option Addr) (nE cE : Nat), unpD l = .inl y ∧ e = .returned (.tuple #[.agg #[.int .i64 k, .int .i64 nn, .int .u64 (b : Int), .string z, .slice pL nL cL, .slice pE nE cE], .int .i64 0]) ∧ LiesV (fun b => n0 ≤ b ∧ b < w'.heap.size) 1001 w' [.int .i64 k, .int .i64 nn, .int .u64 (b : Int), .string z, .slice pL nL cL, .slice pE nE cE] y) ∨ (∃ fe : Int, unpD l = .inr fe ∧ e = .returned (.tuple #[.agg #[.int .i64 0, .int .i64 0, .int .u64 0, .string ⟨#[]⟩, .slice none 0 0, .slice none 0 0], .int .i64 fe]))
theorem results_dun {w : World} {B : Nat} {u0 u1 u2 u3 u4 u5 : Value} {x : Int} (tmps : Array Value) (h : Blk w B #[u0, u1, u2, u3, u4, u5] 26) (ht : tmps[2]? = some (.pointer (some ⟨B, 0, none⟩)) := by rfl) (hx : tmps[3]? = some (.int .i64 x) := by rfl) : (results Tryd.f9 tmps).run Tryd.prog w = .ok (.tuple #[.agg #[u0, u1, u2, u3, u4, u5], .int .i64 x]) w := by
  obtain ⟨c0, c1, c2, c3, c4, c5⟩ := h.cells6
  simp [results, Tryd.f9, ht, hx, go_sem, c0, c1, c2, c3, c4, c5]
theorem dun_none {w X : World} {l : List UInt8} {fe : Int} (hb : Below w.heap.size w X) (hu : unpD l = .inr fe) :
    DunRes w.heap.size l (.returned (.tuple #[.agg #[.int .i64 0, .int .i64 0, .int .u64 0, .string ⟨#[]⟩, .slice none 0 0, .slice none 0 0], .int .i64 fe])) (put6 X w.heap.size (.int .i64 0) (.int .i64 0) (.int .u64 0) (.string ⟨#[]⟩) (.slice none 0 0) (.slice none 0 0)) ∧ Below w.heap.size w (put6 X w.heap.size (.int .i64 0) (.int .i64 0) (.int .u64 0) (.string ⟨#[]⟩) (.slice none 0 0) (.slice none 0 0)) := ⟨.inr ⟨fe, hu, rfl⟩, below_put6 hb (Nat.le_refl _) _ _ _ _ _ _⟩
theorem dun_fin {w X : World} {l : List UInt8} {y : V} {k nn : Int} {b : Nat} {z : ByteArray} {pL : Option Addr} {nL cL : Nat} {pE : Option Addr} {nE cE : Nat}
    (hl : LiesV (fun q => w.heap.size + 1 ≤ q ∧ q < X.heap.size) 1001 X [.int .i64 k, .int .i64 nn, .int .u64 (b : Int), .string z, .slice pL nL cL, .slice pE nE cE] y) (hb : Below w.heap.size w X) (hu : unpD l = .inl y) :
    DunRes w.heap.size l (.returned (.tuple #[.agg #[.int .i64 k, .int .i64 nn, .int .u64 (b : Int), .string z, .slice pL nL cL, .slice pE nE cE], .int .i64 0])) (put6 X w.heap.size (.int .i64 k) (.int .i64 nn) (.int .u64 (b : Int)) (.string z) (.slice pL nL cL) (.slice pE nE cE)) ∧ Below w.heap.size w (put6 X w.heap.size (.int .i64 k) (.int .i64 nn) (.int .u64 (b : Int)) (.string z) (.slice pL nL cL) (.slice pE nE cE)) := by
  have hs := put6_size X w.heap.size (.int .i64 k) (.int .i64 nn) (.int .u64 (b : Int)) (.string z) (.slice pL nL cL) (.slice pE nE cE)
  have hq := fun q hq => put6_other' X w.heap.size q hq (.int .i64 k) (.int .i64 nn) (.int .u64 (b : Int)) (.string z) (.slice pL nL cL) (.slice pE nE cE)
  refine ⟨.inl ⟨y, k, nn, b, z, pL, nL, cL, pE, nE, cE, hu, rfl, ?_⟩, below_put6 hb (Nat.le_refl _) _ _ _ _ _ _⟩
  exact hl.kept (fun q hq => ⟨by omega, by rw [hs]; exact hq.2⟩) (Nat.le_of_eq hs.symm) (fun q hq' _ => hq q (by omega))
set_option maxHeartbeats 8000000 in
set_option maxRecDepth 100000 in
theorem dun_any (w : World) (s : ByteArray) (hs : s.size ≤ 1048576) :
    Calls Tryd.prog 9 #[.string s] w fun e w' => DunRes w.heap.size s.data.toList e w' ∧ Below w.heap.size w w' := by
  have b1 : Below w.heap.size w (w.alloc (.cells #[.int .i64 0, .int .i64 0, .int .u64 0, .string ⟨#[]⟩, .slice none 0 0, .slice none 0 0] 26)) := (Below.refl _ w).alloc (Nat.le_refl _) _
  have s1 : (w.alloc (.cells #[.int .i64 0, .int .i64 0, .int .u64 0, .string ⟨#[]⟩, .slice none 0 0, .slice none 0 0] 26)).heap.size = w.heap.size + 1 := by simp
  have hrb0 := blk_alloc w #[.int .i64 0, .int .i64 0, .int .u64 0, .string ⟨#[]⟩, .slice none 0 0, .slice none 0 0] 26
  have HV := hide (und_all 1001 0 rfl (w.alloc (.cells #[.int .i64 0, .int .i64 0, .int .u64 0, .string ⟨#[]⟩, .slice none 0 0, .slice none 0 0] 26)) s (by omega))
  have HB1 := hide (And.intro b1 (And.intro s1 hrb0))
  clear b1 s1 hrb0
  go_enter Tryd.func9, Tryd.ntmps9
  go_upto_region 2 with (go_at_call 23; refine (unhide HV).mono ?_; rintro e w2 ⟨hres, hb2⟩; rcases hres with ⟨hr, rfl⟩ | ⟨y, m, k, nn, b, z, pL, nL, cL, pE, nE, cE, ⟨hm1, hm2⟩, hr, rfl, hlv⟩)
  · obtain ⟨b1, s1, hrb0⟩ := HB1.out
    have hs2 := hb2.size
    have bA : Below w2.heap.size w2 (w2.alloc (.cells #[.int .i64 0, .int .i64 0, .int .u64 0, .string ⟨#[]⟩, .slice none 0 0, .slice none 0 0] 26)) := (Below.refl _ w2).alloc (Nat.le_refl _) _
    have hr5 : Blk (w2.alloc (.cells #[.int .i64 0, .int .i64 0, .int .u64 0, .string ⟨#[]⟩, .slice none 0 0, .slice none 0 0] 26)) w.heap.size #[.int .i64 0, .int .i64 0, .int .u64 0, .string ⟨#[]⟩, .slice none 0 0, .slice none 0 0] 26 := (hrb0.below hb2).below bA
    have hB5 : Below w.heap.size w (w2.alloc (.cells #[.int .i64 0, .int .i64 0, .int .u64 0, .string ⟨#[]⟩, .slice none 0 0, .slice none 0 0] 26)) := (b1.trans (hb2.mono (by omega))).trans (bA.mono (by omega))
    have hu : unpD s.data.toList = .inr 4 := by unfold unpD; rw [hr]
    clear hr HV HB1 b1 s1 hrb0 bA hb2 hs2
    generalize w2.alloc (.cells #[.int .i64 0, .int .i64 0, .int .u64 0, .string ⟨#[]⟩, .slice none 0 0, .slice none 0 0] 26) = X at *
    go_upto_region 3 with fail
    have hY := put6_blk hr5 (.int .i64 0) (.int .i64 0) (.int .u64 0) (.string ⟨#[]⟩) (.slice none 0 0) (.slice none 0 0)
    have HY := hide hY
    have HF := hide (dun_none (l := s.data.toList) hB5 hu)
    have x0 := hr5.cell 0 _ rfl
    have x1 := hr5.cell 1 _ rfl
    have x2 := hr5.cell 2 _ rfl
    have x3 := hr5.cell 3 _ rfl
    have x4 := hr5.cell 4 _ rfl
    have x5 := hr5.cell 5 _ rfl
    have z0 := Blk.froz hr5 0
    have z1 := Blk.froz hr5 1
    have z2 := Blk.froz hr5 2
    have z3 := Blk.froz hr5 3
    have z4 := Blk.froz hr5 4
    have z5 := Blk.froz hr5 5
    clear hY
    go_wp2
    have hY := HY.out
    have hF := HF.out
    clear HY HF x0 x1 x2 x3 x4 x5 z0 z1 z2 z3 z4 z5 
    generalize hXX : put6 X w.heap.size (.int .i64 0) (.int .i64 0) (.int .u64 0) (.string ⟨#[]⟩) (.slice none 0 0) (.slice none 0 0) = Y at hY hF
    simp only [put6] at hXX
    rw [hXX]
    clear hXX
    exact bodyPost_ret (results_dun _ hY) rfl hF
  · obtain ⟨b1, s1, hrb0⟩ := HB1.out
    have hs2 := hb2.size
    have bA : Below w2.heap.size w2 (w2.alloc (.cells #[.int .i64 k, .int .i64 nn, .int .u64 (b : Int), .string z, .slice pL nL cL, .slice pE nE cE] 26)) := (Below.refl _ w2).alloc (Nat.le_refl _) _
    have hX := blk_alloc w2 #[.int .i64 k, .int .i64 nn, .int .u64 (b : Int), .string z, .slice pL nL cL, .slice pE nE cE] 26
    have hr5 : Blk (w2.alloc (.cells #[.int .i64 k, .int .i64 nn, .int .u64 (b : Int), .string z, .slice pL nL cL, .slice pE nE cE] 26)) w.heap.size #[.int .i64 0, .int .i64 0, .int .u64 0, .string ⟨#[]⟩, .slice none 0 0, .slice none 0 0] 26 := (hrb0.below hb2).below bA
    have hB5 : Below w.heap.size w (w2.alloc (.cells #[.int .i64 k, .int .i64 nn, .int .u64 (b : Int), .string z, .slice pL nL cL, .slice pE nE cE] 26)) := (b1.trans (hb2.mono (by omega))).trans (bA.mono (by omega))
    have hL : LiesV (fun q => w.heap.size + 1 ≤ q ∧ q < (w2.alloc (.cells #[.int .i64 k, .int .i64 nn, .int .u64 (b : Int), .string z, .slice pL nL cL, .slice pE nE cE] 26)).heap.size) 1001 (w2.alloc (.cells #[.int .i64 k, .int .i64 nn, .int .u64 (b : Int), .string z, .slice pL nL cL, .slice pE nE cE] 26)) [.int .i64 k, .int .i64 nn, .int .u64 (b : Int), .string z, .slice pL nL cL, .slice pE nE cE] y := hlv.kept (fun q hq => ⟨by have := hq.1; omega, by have := hq.2; have := bA.size; omega⟩) bA.size (fun q hq _ => bA.block q hq.2)
    clear hlv b1 s1 hrb0 bA hb2 HB1 HV
    generalize w2.alloc (.cells #[.int .i64 k, .int .i64 nn, .int .u64 (b : Int), .string z, .slice pL nL cL, .slice pE nE cE] 26) = X at *
    obtain ⟨D, hDD⟩ : ∃ D, D = w2.heap.size := ⟨_, rfl⟩
    rw [← hDD] at hX ⊢
    clear hDD hs2
    have g1 : ¬ (m : Int) = 0 := by omega
    have g2 : ((m : Int) == 0) = false := beq_false_of_ne g1
    rw [lenB] at hm2
    by_cases hms : m = s.size
    · have g3 : (m : Int) = (s.size : Int) := by omega
      have g4 : ((m : Int) != (s.size : Int)) = false := by rw [g3]; exact bne_self_eq_false _
      have hdr : s.data.toList.drop m = [] := List.drop_eq_nil_of_le (by rw [lenB]; omega)
      rw [hdr] at hr
      have hnod := uM_nodes 1001 _ _ _ hr
      rw [lenB] at hnod
      have LW := hL.kept (ok' := fun q => q < X.heap.size) (w' := X) (fun q hq => hq.2) (Nat.le_refl _) (fun q _ _ => rfl)
      have HC := hide (fault_any 1001 X y _ _ _ _ _ _ LW (by omega))
      clear LW hnod hdr
      by_cases h0 : faultV oneV y = 0
      · have hu : unpD s.data.toList = .inl y := by unfold unpD; rw [hr]; dsimp only; rw [if_pos h0]
        rw [h0] at HC
        clear hr h0 hms g3
        have q0 := hX.cell 0 _ rfl
        have q1 := hX.cell 1 _ rfl
        have q2 := hX.cell 2 _ rfl
        have q3 := hX.cell 3 _ rfl
        have q4 := hX.cell 4 _ rfl
        have q5 := hX.cell 5 _ rfl
        go_upto_region 7 with (go_at_call 11; refine (unhide HC).mono ?_; rintro e w4 ⟨rfl, b4⟩)
        have hr6 := hr5.below b4
        have hX6 := hX.below b4
        have hB6 := hB5.trans (b4.mono hB5.size)
        have hL6 := hL.kept (ok' := fun q => w.heap.size + 1 ≤ q ∧ q < w4.heap.size) (w' := w4) (fun q hq => ⟨hq.1, Nat.lt_of_lt_of_le hq.2 b4.size⟩) b4.size (fun q hq _ => b4.block q hq.2)
        clear hr5 hX hB5 hL b4 HC q0 q1 q2 q3 q4 q5
        have hY := put6_blk hr6 (.int .i64 k) (.int .i64 nn) (.int .u64 (b : Int)) (.string z) (.slice pL nL cL) (.slice pE nE cE)
        have HY := hide hY
        have HF := hide (dun_fin (l := s.data.toList) hL6 hB6 hu)
        have x0 := hr6.cell 0 _ rfl
        have x1 := hr6.cell 1 _ rfl
        have x2 := hr6.cell 2 _ rfl
        have x3 := hr6.cell 3 _ rfl
        have x4 := hr6.cell 4 _ rfl
        have x5 := hr6.cell 5 _ rfl
        have z0 := Blk.froz hr6 0
        have z1 := Blk.froz hr6 1
        have z2 := Blk.froz hr6 2
        have z3 := Blk.froz hr6 3
        have z4 := Blk.froz hr6 4
        have z5 := Blk.froz hr6 5
        have q0 := hX6.cell 0 _ rfl
        have q1 := hX6.cell 1 _ rfl
        have q2 := hX6.cell 2 _ rfl
        have q3 := hX6.cell 3 _ rfl
        have q4 := hX6.cell 4 _ rfl
        have q5 := hX6.cell 5 _ rfl
        clear hY
        go_wp2
        have hY := HY.out
        have hF := HF.out
        clear HY HF x0 x1 x2 x3 x4 x5 z0 z1 z2 z3 z4 z5 q0 q1 q2 q3 q4 q5
        generalize hXX : put6 w4 w.heap.size (.int .i64 k) (.int .i64 nn) (.int .u64 (b : Int)) (.string z) (.slice pL nL cL) (.slice pE nE cE) = Y at hY hF
        simp only [put6] at hXX
        rw [hXX]
        clear hXX
        exact bodyPost_ret (results_dun _ hY) rfl hF
      · have hu : unpD s.data.toList = .inr (faultV oneV y) := by unfold unpD; rw [hr]; dsimp only; rw [if_neg h0]
        have g5 : (faultV oneV y != 0) = true := bne_iff_ne.2 h0
        clear hr h0 hms g3 hL
        generalize faultV oneV y = fv at *
        have q0 := hX.cell 0 _ rfl
        have q1 := hX.cell 1 _ rfl
        have q2 := hX.cell 2 _ rfl
        have q3 := hX.cell 3 _ rfl
        have q4 := hX.cell 4 _ rfl
        have q5 := hX.cell 5 _ rfl
        go_upto_region 6 with (go_at_call 11; refine (unhide HC).mono ?_; rintro e w4 ⟨rfl, b4⟩)
        have hr6 := hr5.below b4
        have hB6 := hB5.trans (b4.mono hB5.size)
        clear hr5 hX hB5 b4 HC q0 q1 q2 q3 q4 q5
        have hY := put6_blk hr6 (.int .i64 0) (.int .i64 0) (.int .u64 0) (.string ⟨#[]⟩) (.slice none 0 0) (.slice none 0 0)
        have HY := hide hY
        have HF := hide (dun_none (l := s.data.toList) hB6 hu)
        have x0 := hr6.cell 0 _ rfl
        have x1 := hr6.cell 1 _ rfl
        have x2 := hr6.cell 2 _ rfl
        have x3 := hr6.cell 3 _ rfl
        have x4 := hr6.cell 4 _ rfl
        have x5 := hr6.cell 5 _ rfl
        have z0 := Blk.froz hr6 0
        have z1 := Blk.froz hr6 1
        have z2 := Blk.froz hr6 2
        have z3 := Blk.froz hr6 3
        have z4 := Blk.froz hr6 4
        have z5 := Blk.froz hr6 5
        clear hY
        go_wp2
        have hY := HY.out
        have hF := HF.out
        clear HY HF x0 x1 x2 x3 x4 x5 z0 z1 z2 z3 z4 z5 
        generalize hXX : put6 w4 w.heap.size (.int .i64 0) (.int .i64 0) (.int .u64 0) (.string ⟨#[]⟩) (.slice none 0 0) (.slice none 0 0) = Y at hY hF
        simp only [put6] at hXX
        rw [hXX]
        clear hXX
        exact bodyPost_ret (results_dun _ hY) rfl hF
    · have g3 : ¬ (m : Int) = (s.size : Int) := by omega
      have g4 : ((m : Int) != (s.size : Int)) = true := bne_iff_ne.2 g3
      have hu : unpD s.data.toList = .inr 4 := by
        unfold unpD
        rw [hr]
        have hl : m < s.data.toList.length := by rw [lenB]; omega
        rw [List.drop_eq_getElem_cons hl]
      clear hr hL hX hms
      go_upto_region 3 with fail
      have hY := put6_blk hr5 (.int .i64 0) (.int .i64 0) (.int .u64 0) (.string ⟨#[]⟩) (.slice none 0 0) (.slice none 0 0)
      have HY := hide hY
      have HF := hide (dun_none (l := s.data.toList) hB5 hu)
      have x0 := hr5.cell 0 _ rfl
      have x1 := hr5.cell 1 _ rfl
      have x2 := hr5.cell 2 _ rfl
      have x3 := hr5.cell 3 _ rfl
      have x4 := hr5.cell 4 _ rfl
      have x5 := hr5.cell 5 _ rfl
      have z0 := Blk.froz hr5 0
      have z1 := Blk.froz hr5 1
      have z2 := Blk.froz hr5 2
      have z3 := Blk.froz hr5 3
      have z4 := Blk.froz hr5 4
      have z5 := Blk.froz hr5 5
      clear hY
      go_wp2
      have hY := HY.out
      have hF := HF.out
      clear HY HF x0 x1 x2 x3 x4 x5 z0 z1 z2 z3 z4 z5 
      generalize hXX : put6 X w.heap.size (.int .i64 0) (.int .i64 0) (.int .u64 0) (.string ⟨#[]⟩) (.slice none 0 0) (.slice none 0 0) = Y at hY hF
      simp only [put6] at hXX
      rw [hXX]
      clear hXX
      exact bodyPost_ret (results_dun _ hY) rfl hF
end Go.Proofs.YtdpoiagnjdajbaaDoor.valus
