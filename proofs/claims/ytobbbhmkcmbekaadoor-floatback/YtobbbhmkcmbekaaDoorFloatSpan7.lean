/- The walk of package float: the statement of spanOf that lays the span. -/
import Derived.Test.YtobbbhmkcmbekaaDoorFloatAny
set_option linter.unusedVariables false
namespace Go.Proofs.YtobbbhmkcmbekaaDoor.bigs
open Go.RowKit

def ops7 : Array Oper := #[{ dst := some 42, op := Op.fieldAddr 80 (Operand.tmp 8) 0, type := 0, pos := "short.go:26", after := #[], guard := none }, { dst := some 43, op := Op.load 36 (Operand.tmp 42), type := 36, pos := "short.go:26", after := #[{ on := 0, ground := Ground.data }], guard := none }, { dst := some 44, op := Op.call { callee := Callee.value (Operand.func 56), args := #[Operand.tmp 43], argTypes := #[36] }, type := 22, pos := "short.go:26", after := #[{ on := 1, ground := Ground.data }], guard := none }, { dst := some 45, op := Op.fieldAddr 80 (Operand.tmp 9) 0, type := 0, pos := "short.go:26", after := #[], guard := none }, { dst := some 46, op := Op.load 36 (Operand.tmp 45), type := 36, pos := "short.go:26", after := #[{ on := 3, ground := Ground.data }], guard := none }, { dst := some 47, op := Op.call { callee := Callee.value (Operand.func 56), args := #[Operand.tmp 46], argTypes := #[36] }, type := 22, pos := "short.go:26", after := #[{ on := 4, ground := Ground.data }, { on := 2, ground := Ground.chain }], guard := none }, { dst := some 48, op := Op.fieldAddr 80 (Operand.tmp 10) 0, type := 0, pos := "short.go:26", after := #[], guard := none }, { dst := some 49, op := Op.load 36 (Operand.tmp 48), type := 36, pos := "short.go:26", after := #[{ on := 6, ground := Ground.data }], guard := none }, { dst := some 50, op := Op.call { callee := Callee.value (Operand.func 56), args := #[Operand.tmp 49], argTypes := #[36] }, type := 22, pos := "short.go:26", after := #[{ on := 7, ground := Ground.data }, { on := 5, ground := Ground.chain }], guard := none }, { dst := some 51, op := Op.load 80 (Operand.tmp 9), type := 80, pos := "short.go:26", after := #[], guard := none }, { dst := some 52, op := Op.call { callee := Callee.value (Operand.func 57), args := #[Operand.tmp 51], argTypes := #[80] }, type := 4, pos := "short.go:26", after := #[{ on := 9, ground := Ground.data }, { on := 8, ground := Ground.chain }], guard := none }, { dst := some 53, op := Op.unOp UnOp.not 4 (Operand.tmp 52), type := 4, pos := "short.go:26", after := #[{ on := 10, ground := Ground.data }], guard := none }, { dst := some 54, op := Op.load 3 (Operand.tmp 5), type := 3, pos := "short.go:26", after := #[], guard := none }, { dst := some 55, op := Op.build 47 #[(0, Operand.tmp 44), (1, Operand.tmp 47), (2, Operand.tmp 50), (3, Operand.tmp 53), (4, Operand.tmp 54)], type := 47, pos := "short.go:26", after := #[{ on := 2, ground := Ground.data }, { on := 5, ground := Ground.data }, { on := 8, ground := Ground.data }, { on := 11, ground := Ground.data }, { on := 12, ground := Ground.data }], guard := none }, { dst := some 11, op := Op.alloc 47, type := 0, pos := "short.go:26", after := #[], guard := none }, { dst := none, op := Op.store 47 (Operand.tmp 11) (Operand.tmp 55), type := 0, pos := "short.go:26", after := #[{ on := 14, ground := Ground.data }, { on := 13, ground := Ground.data }, { on := 10, ground := Ground.chain }, { on := 0, ground := Ground.phase }, { on := 1, ground := Ground.phase }, { on := 2, ground := Ground.phase }, { on := 3, ground := Ground.phase }, { on := 4, ground := Ground.phase }, { on := 5, ground := Ground.phase }, { on := 6, ground := Ground.phase }, { on := 7, ground := Ground.phase }, { on := 8, ground := Ground.phase }, { on := 9, ground := Ground.phase }, { on := 10, ground := Ground.phase }, { on := 11, ground := Ground.phase }, { on := 12, ground := Ground.phase }, { on := 13, ground := Ground.phase }, { on := 14, ground := Ground.phase }], guard := none }]
def vals7 (b8 b9 b10 : Nat) (a1 a4 a5 a6 a7 : Option Addr) (n1 c1 n4 c4 n5 c5 n6 c6 n7 c7 : Nat) (y1 y2 y3 t : Int) (ex : Bool) (b : Nat) : List (Nat × Value) := [(42, .pointer (some ⟨b8, 0, none⟩)), (43, .slice a1 n1 c1), (44, .int .u64 y1), (45, .pointer (some ⟨b9, 0, none⟩)), (46, .slice a4 n4 c4), (47, .int .u64 y2), (48, .pointer (some ⟨b10, 0, none⟩)), (49, .slice a7 n7 c7), (50, .int .u64 y3), (51, .agg #[.slice a4 n4 c4, .slice a5 n5 c5, .slice a6 n6 c6]), (52, .bool ex), (53, .bool !ex), (54, .int .i64 t), (55, .agg #[.int .u64 y1, .int .u64 y2, .int .u64 y3, .bool !ex, .int .i64 t]), (11, .pointer (some ⟨b, 0, none⟩))]
theorem getD_set_eq {s : Array Bool} {i : Nat} (h : i < s.size) : (s.setIfInBounds i true).getD i false = true := by simp [h]
theorem eval_tmp (a : Act) (x : Nat) : a.eval (.tmp x) = a.tmps[x]?.getD undef := by simp [Act.eval]
theorem all_listed {md : Region.Mode} {ops : Array Oper} {s : Array Bool} (hs : s.size = ops.size) (hB : ((List.range ops.size).all fun j => ((ops[j]?).map fun o => o.after.all fun e => decide (e.on < j)).getD true) = true) (hr : Region.ready md ops s = []) : ∀ j, j < ops.size → s.getD j false = true := by
  have hb : ∀ (j : Nat) (o : Oper), ops[j]? = some o → ∀ e : Edge, e ∈ o.after → e.on < j := by
    intro j o ho e he
    have hj : j < ops.size := (Array.getElem?_eq_some_iff.1 ho).1
    have h1 := List.all_eq_true.1 hB j (List.mem_range.2 hj)
    rw [ho] at h1
    have h2 : (o.after.all fun e => decide (e.on < j)) = true := h1
    exact of_decide_eq_true (Array.all_eq_true'.1 h2 e he)
  intro j
  induction j using Nat.strongRecOn with
  | ind j ih =>
    intro hj
    cases h : s.getD j false with
    | true => rfl
    | false =>
      exfalso
      have hm : j ∈ Region.ready md ops s := by
        refine mem_ready.2 ⟨getD_in (by omega) h, ops[j], Array.getElem?_eq_getElem hj, fun e he _ => ?_⟩
        have hlt := hb j _ (Array.getElem?_eq_getElem hj) e he
        exact ih e.on hlt (by omega)
      rw [hr] at hm
      cases hm
theorem fr_last : ∀ (l : List (Nat × Value)) (x y : Nat × Value) (k : Nat) (s : Array Bool) (a : Act), s.getD (k + l.length) false = false → fr (l ++ [x]) k s a = fr (l ++ [y]) k s a
  | [], x, y, k, s, a, h => by
    rw [List.length_nil, Nat.add_zero] at h
    show fr [] (k + 1) s (if s.getD k false then _ else a) = fr [] (k + 1) s (if s.getD k false then _ else a)
    rw [h]
    rfl
  | p :: r, x, y, k, s, a, h => by
    show fr (r ++ [x]) (k + 1) s _ = fr (r ++ [y]) (k + 1) s _
    exact fr_last r x y (k + 1) s _ (by rw [List.length_cons] at h; rwa [show k + 1 + r.length = k + (r.length + 1) by omega])
theorem fr_none : ∀ (l : List (Nat × Value)) (k n : Nat) (a : Act), fr l k (Array.replicate n false) a = a
  | [], _, _, _ => rfl
  | (d, v) :: r, k, n, a => by
    show fr r (k + 1) _ (if (Array.replicate n false).getD k false then _ else a) = a
    rw [getD_replicate_false]
    exact fr_none r (k + 1) n a
theorem blk5 {w : World} {b : Nat} {x1 x2 x3 x4 x5 : Value} {t : Nat} (h : Blk w b #[x1, x2, x3, x4, x5] t) (u1 u2 u3 u4 u5 : Value) : Blk (((((w.setCell ⟨b, 0, none⟩ u1).setCell ⟨b, 1, none⟩ u2).setCell ⟨b, 2, none⟩ u3).setCell ⟨b, 3, none⟩ u4).setCell ⟨b, 4, none⟩ u5) b #[u1, u2, u3, u4, u5] t := by
  have := ((((h.set 0 u1).set 1 u2).set 2 u3).set 3 u4).set 4 u5
  simpa using this
def Inv7 (a0 : Act) (wR : World) (L : Nat → List (Nat × Value)) (fin : Array Value) (s : Array Bool) (a : Act) (w : World) : Prop :=
  ∃ b, a = fr (L b) 0 s a0 ∧ Below wR.heap.size wR w ∧ (s.getD 15 false = true → s.getD 14 false = true) ∧ (s.getD 14 false = true → wR.heap.size ≤ b ∧ Blk w b (if s.getD 15 false then fin else #[.int .u64 0, .int .u64 0, .int .u64 0, .bool false, .int .i64 0]) 47)
set_option maxHeartbeats 4000000 in
set_option maxRecDepth 100000 in
theorem span7 {a0 : Act} {w : World} {Q : Exit → Act → World → Prop} (b8 b9 b10 bT : Nat) (a1 a2 a3 a4 a5 a6 a7 a8 a9 : Option Addr) (n1 c1 n2 c2 n3 c3 n4 c4 n5 c5 n6 c6 n7 c7 n8 c8 n9 c9 : Nat) (y1 y2 y3 t : Int) (ex : Bool) (ha : a0.tmps.size = 79)
    (h5 : a0.tmps[5]?.getD undef = .pointer (some ⟨bT, 0, none⟩)) (h8 : a0.tmps[8]?.getD undef = .pointer (some ⟨b8, 0, none⟩)) (h9 : a0.tmps[9]?.getD undef = .pointer (some ⟨b9, 0, none⟩)) (h10 : a0.tmps[10]?.getD undef = .pointer (some ⟨b10, 0, none⟩))
    (k8 : Blk w b8 #[.slice a1 n1 c1, .slice a2 n2 c2, .slice a3 n3 c3] 80) (k9 : Blk w b9 #[.slice a4 n4 c4, .slice a5 n5 c5, .slice a6 n6 c6] 80) (k10 : Blk w b10 #[.slice a7 n7 c7, .slice a8 n8 c8, .slice a9 n9 c9] 80) (kT : Blk w bT #[.int .i64 t] 3)
    (S1 : ∀ w', Below w.heap.size w w' → Calls Tryd.prog 56 #[.slice a1 n1 c1] w' fun e w'' => e = .returned (.int .u64 y1) ∧ w'' = w')
    (S2 : ∀ w', Below w.heap.size w w' → Calls Tryd.prog 56 #[.slice a4 n4 c4] w' fun e w'' => e = .returned (.int .u64 y2) ∧ w'' = w')
    (S3 : ∀ w', Below w.heap.size w w' → Calls Tryd.prog 56 #[.slice a7 n7 c7] w' fun e w'' => e = .returned (.int .u64 y3) ∧ w'' = w')
    (SE : ∀ w', Below w.heap.size w w' → Calls Tryd.prog 57 #[.agg #[.slice a4 n4 c4, .slice a5 n5 c5, .slice a6 n6 c6]] w' fun e w'' => e = .returned (.bool ex) ∧ Below w'.heap.size w' w'')
    (fin : ∀ b wF, w.heap.size ≤ b → Below w.heap.size w wF → Blk wF b #[.int .u64 y1, .int .u64 y2, .int .u64 y3, .bool !ex, .int .i64 t] 47 → Q .normal ((vals7 b8 b9 b10 a1 a4 a5 a6 a7 n1 c1 n4 c4 n5 c5 n6 c6 n7 c7 y1 y2 y3 t ex b).foldl (fun a p => a.put (some p.1) p.2) a0) wF) :
    (Code.region 7 ops7 true).wp Tryd.prog Q a0 w := by
  have nd : ∀ b, ((vals7 b8 b9 b10 a1 a4 a5 a6 a7 n1 c1 n4 c4 n5 c5 n6 c6 n7 c7 y1 y2 y3 t ex b).map (·.1)).Nodup := fun b => by
    show ([42, 43, 44, 45, 46, 47, 48, 49, 50, 51, 52, 53, 54, 55, 11] : List Nat).Nodup
    decide
  refine region_by (I := Inv7 a0 w (vals7 b8 b9 b10 a1 a4 a5 a6 a7 n1 c1 n4 c4 n5 c5 n6 c6 n7 c7 y1 y2 y3 t ex) #[.int .u64 y1, .int .u64 y2, .int .u64 y3, .bool !ex, .int .i64 t]) (by kernel_rfl) ?_ ?_ ?_
  · intro s a wx hs hI i hi
    obtain ⟨b, rfl, bw, h1514, hal⟩ := hI
    obtain ⟨un, o, ho, hall⟩ := mem_ready.1 hi
    have hsz : s.size = 16 := hs
    have hi16 : i < 16 := by
      have := (Array.getElem?_eq_some_iff.1 ho).1
      exact this
    have unf : s.getD i false = false := by
      simp [show i < s.size by omega] at un
      simp [show i < s.size by omega, un]
    have dp : ∀ j, (o.after.any fun e => Region.binds .any e && e.on == j) = true → s.getD j false = true := by
      intro j hj
      obtain ⟨e, he, hb⟩ := Array.any_eq_true'.1 hj
      rw [Bool.and_eq_true] at hb
      have h1 := hall e he hb.1
      have h2 : e.on = j := by simpa using hb.2
      rw [h2] at h1
      exact h1
    have ot : ∀ x, (∀ p ∈ vals7 b8 b9 b10 a1 a4 a5 a6 a7 n1 c1 n4 c4 n5 c5 n6 c6 n7 c7 y1 y2 y3 t ex b, p.1 ≠ x) → (fr (vals7 b8 b9 b10 a1 a4 a5 a6 a7 n1 c1 n4 c4 n5 c5 n6 c6 n7 c7 y1 y2 y3 t ex b) 0 s a0).tmps[x]?.getD undef = a0.tmps[x]?.getD undef := fun x hx => by have h := fr_other _ 0 s a0 x hx; rwa [eval_tmp, eval_tmp] at h
    have at' : ∀ j d v, (vals7 b8 b9 b10 a1 a4 a5 a6 a7 n1 c1 n4 c4 n5 c5 n6 c6 n7 c7 y1 y2 y3 t ex b)[j]? = some (d, v) → d < 79 → s.getD j false = true → (fr (vals7 b8 b9 b10 a1 a4 a5 a6 a7 n1 c1 n4 c4 n5 c5 n6 c6 n7 c7 y1 y2 y3 t ex b) 0 s a0).tmps[d]?.getD undef = v := fun j d v h1 h2 h3 => by have h := fr_at _ 0 s a0 j d v h1 (nd b) (by rw [ha]; exact h2) (by rw [Nat.zero_add]; exact h3); rwa [eval_tmp] at h
    have nx : ∀ d v, (vals7 b8 b9 b10 a1 a4 a5 a6 a7 n1 c1 n4 c4 n5 c5 n6 c6 n7 c7 y1 y2 y3 t ex b)[i]? = some (d, v) → i ≠ 14 → i ≠ 15 → ∀ w', Below w.heap.size w w' → (s.getD 14 false = true → w.heap.size ≤ b ∧ Blk w' b (if s.getD 15 false then #[.int .u64 y1, .int .u64 y2, .int .u64 y3, .bool !ex, .int .i64 t] else #[.int .u64 0, .int .u64 0, .int .u64 0, .bool false, .int .i64 0]) 47) → Inv7 a0 w (vals7 b8 b9 b10 a1 a4 a5 a6 a7 n1 c1 n4 c4 n5 c5 n6 c6 n7 c7 y1 y2 y3 t ex) #[.int .u64 y1, .int .u64 y2, .int .u64 y3, .bool !ex, .int .i64 t] (s.setIfInBounds i true) ((fr (vals7 b8 b9 b10 a1 a4 a5 a6 a7 n1 c1 n4 c4 n5 c5 n6 c6 n7 c7 y1 y2 y3 t ex b) 0 s a0).put (some d) v) w' := by
      intro d v h1 h2 h3 w' hb hk
      refine ⟨b, ?_, hb, by rw [getD_set_ne false h2, getD_set_ne false h3]; exact h1514, ?_⟩
      · have := fr_set _ 0 s a0 i d v h1 (nd b) (by omega) (by rw [Nat.zero_add]; exact unf)
        rw [Nat.zero_add] at this
        exact this.symm
      · rw [getD_set_ne false h2, getD_set_ne false h3]
        exact hk
    rcases i with _ | _ | _ | _ | _ | _ | _ | _ | _ | _ | _ | _ | _ | _ | _ | _ | i
    · injection ho with ho
      subst ho
      refine wpOp_run rfl rfl ?_
      exact run_faddr _ _ _ _ _ 8 b8 (by rw [ot 8 (fun p hp e => absurd (List.mem_map.2 ⟨p, hp, e⟩) (by show 8 ∉ ([42, 43, 44, 45, 46, 47, 48, 49, 50, 51, 52, 53, 54, 55, 11] : List Nat); decide))]; exact h8) rfl (nx 42 _ rfl (by decide) (by decide) _ bw hal)
    · injection ho with ho
      subst ho
      refine wpOp_run rfl rfl ?_
      exact run_load36 _ _ _ _ _ 42 b8 _ (at' 0 42 _ rfl (by decide) (dp 0 (by kernel_rfl))) ((k8.below bw).cell 0 _ rfl) rfl (nx 43 _ rfl (by decide) (by decide) _ bw hal)
    · injection ho with ho
      subst ho
      refine wpOp_run rfl rfl ?_
      refine run_callS _ _ _ _ _ 43 _ (at' 1 43 _ rfl (by decide) (dp 1 (by kernel_rfl))) rfl ((S1 wx bw).mono ?_)
      rintro e w' ⟨rfl, rfl⟩
      exact ⟨_, rfl, nx 44 _ rfl (by decide) (by decide) _ bw hal⟩
    · injection ho with ho
      subst ho
      refine wpOp_run rfl rfl ?_
      exact run_faddr _ _ _ _ _ 9 b9 (by rw [ot 9 (fun p hp e => absurd (List.mem_map.2 ⟨p, hp, e⟩) (by show 9 ∉ ([42, 43, 44, 45, 46, 47, 48, 49, 50, 51, 52, 53, 54, 55, 11] : List Nat); decide))]; exact h9) rfl (nx 45 _ rfl (by decide) (by decide) _ bw hal)
    · injection ho with ho
      subst ho
      refine wpOp_run rfl rfl ?_
      exact run_load36 _ _ _ _ _ 45 b9 _ (at' 3 45 _ rfl (by decide) (dp 3 (by kernel_rfl))) ((k9.below bw).cell 0 _ rfl) rfl (nx 46 _ rfl (by decide) (by decide) _ bw hal)
    · injection ho with ho
      subst ho
      refine wpOp_run rfl rfl ?_
      refine run_callS _ _ _ _ _ 46 _ (at' 4 46 _ rfl (by decide) (dp 4 (by kernel_rfl))) rfl ((S2 wx bw).mono ?_)
      rintro e w' ⟨rfl, rfl⟩
      exact ⟨_, rfl, nx 47 _ rfl (by decide) (by decide) _ bw hal⟩
    · injection ho with ho
      subst ho
      refine wpOp_run rfl rfl ?_
      exact run_faddr _ _ _ _ _ 10 b10 (by rw [ot 10 (fun p hp e => absurd (List.mem_map.2 ⟨p, hp, e⟩) (by show 10 ∉ ([42, 43, 44, 45, 46, 47, 48, 49, 50, 51, 52, 53, 54, 55, 11] : List Nat); decide))]; exact h10) rfl (nx 48 _ rfl (by decide) (by decide) _ bw hal)
    · injection ho with ho
      subst ho
      refine wpOp_run rfl rfl ?_
      exact run_load36 _ _ _ _ _ 48 b10 _ (at' 6 48 _ rfl (by decide) (dp 6 (by kernel_rfl))) ((k10.below bw).cell 0 _ rfl) rfl (nx 49 _ rfl (by decide) (by decide) _ bw hal)
    · injection ho with ho
      subst ho
      refine wpOp_run rfl rfl ?_
      refine run_callS _ _ _ _ _ 49 _ (at' 7 49 _ rfl (by decide) (dp 7 (by kernel_rfl))) rfl ((S3 wx bw).mono ?_)
      rintro e w' ⟨rfl, rfl⟩
      exact ⟨_, rfl, nx 50 _ rfl (by decide) (by decide) _ bw hal⟩
    · injection ho with ho
      subst ho
      refine wpOp_run rfl rfl ?_
      exact run_load80 _ _ _ _ _ 9 b9 _ _ _ (by rw [ot 9 (fun p hp e => absurd (List.mem_map.2 ⟨p, hp, e⟩) (by show 9 ∉ ([42, 43, 44, 45, 46, 47, 48, 49, 50, 51, 52, 53, 54, 55, 11] : List Nat); decide))]; exact h9) ((k9.below bw).cell 0 _ rfl) ((k9.below bw).cell 1 _ rfl) ((k9.below bw).cell 2 _ rfl) rfl (nx 51 _ rfl (by decide) (by decide) _ bw hal)
    · injection ho with ho
      subst ho
      refine wpOp_run rfl rfl ?_
      refine run_callE _ _ _ _ _ 51 _ (at' 9 51 _ rfl (by decide) (dp 9 (by kernel_rfl))) rfl ((SE wx bw).mono ?_)
      rintro e w' ⟨rfl, b'⟩
      exact ⟨_, rfl, nx 52 _ rfl (by decide) (by decide) w' (bw.trans (b'.mono bw.size)) (fun h => ⟨(hal h).1, (hal h).2.below b'⟩)⟩
    · injection ho with ho
      subst ho
      refine wpOp_run rfl rfl ?_
      exact run_not _ _ _ _ _ 52 ex (at' 10 52 _ rfl (by decide) (dp 10 (by kernel_rfl))) rfl (nx 53 _ rfl (by decide) (by decide) _ bw hal)
    · injection ho with ho
      subst ho
      refine wpOp_run rfl rfl ?_
      exact run_load3 _ _ _ _ _ 5 bT _ (by rw [ot 5 (fun p hp e => absurd (List.mem_map.2 ⟨p, hp, e⟩) (by show 5 ∉ ([42, 43, 44, 45, 46, 47, 48, 49, 50, 51, 52, 53, 54, 55, 11] : List Nat); decide))]; exact h5) ((kT.below bw).cell 0 _ rfl) rfl (nx 54 _ rfl (by decide) (by decide) _ bw hal)
    · injection ho with ho
      subst ho
      refine wpOp_run rfl rfl ?_
      exact run_build _ _ _ _ _ 44 47 50 53 54 y1 y2 y3 t (!ex) (at' 2 44 _ rfl (by decide) (dp 2 (by kernel_rfl))) (at' 5 47 _ rfl (by decide) (dp 5 (by kernel_rfl))) (at' 8 50 _ rfl (by decide) (dp 8 (by kernel_rfl))) (at' 11 53 _ rfl (by decide) (dp 11 (by kernel_rfl))) (at' 12 54 _ rfl (by decide) (dp 12 (by kernel_rfl))) rfl (nx 55 _ rfl (by decide) (by decide) _ bw hal)
    · injection ho with ho
      subst ho
      refine wpOp_run rfl rfl ?_
      refine run_alloc _ _ _ _ _ rfl ⟨wx.heap.size, ?_, bw.alloc bw.size _, ?_, ?_⟩
      · have e1 : fr (vals7 b8 b9 b10 a1 a4 a5 a6 a7 n1 c1 n4 c4 n5 c5 n6 c6 n7 c7 y1 y2 y3 t ex b) 0 s a0 = fr (vals7 b8 b9 b10 a1 a4 a5 a6 a7 n1 c1 n4 c4 n5 c5 n6 c6 n7 c7 y1 y2 y3 t ex wx.heap.size) 0 s a0 := fr_last ((vals7 b8 b9 b10 a1 a4 a5 a6 a7 n1 c1 n4 c4 n5 c5 n6 c6 n7 c7 y1 y2 y3 t ex b).take 14) (11, .pointer (some ⟨b, 0, none⟩)) (11, .pointer (some ⟨wx.heap.size, 0, none⟩)) 0 s a0 unf
        rw [e1]
        have := fr_set (vals7 b8 b9 b10 a1 a4 a5 a6 a7 n1 c1 n4 c4 n5 c5 n6 c6 n7 c7 y1 y2 y3 t ex wx.heap.size) 0 s a0 14 11 (.pointer (some ⟨wx.heap.size, 0, none⟩)) rfl (nd _) (by omega) unf
        exact this.symm
      · intro _
        exact getD_set_eq (by omega)
      · intro _
        rw [getD_set_ne false (by decide)]
        have h15 : s.getD 15 false = false := by
          cases h : s.getD 15 false with
          | false => rfl
          | true => rw [h1514 h] at unf; cases unf
        rw [h15]
        exact ⟨bw.size, blk_alloc _ _ _⟩
    · injection ho with ho
      subst ho
      refine wpOp_run rfl rfl ?_
      have s14 := dp 14 (by kernel_rfl)
      obtain ⟨g1, g2⟩ := hal s14
      rw [unf] at g2
      refine run_store _ _ _ _ _ 11 55 b _ _ _ _ _ y1 y2 y3 t (!ex) (at' 14 11 _ rfl (by decide) (dp 14 (by kernel_rfl))) (at' 13 55 _ rfl (by decide) (dp 13 (by kernel_rfl))) g2 rfl ⟨b, ?_, ?_, ?_, ?_⟩
      · exact fr_same _ 0 _ _ _ (fun j hj => by
          have hj' : j < 15 := hj
          rw [getD_set_ne false (by omega)])
      · exact ((((bw.setCell (p := ⟨b, 0, none⟩) g1 _).setCell (p := ⟨b, 1, none⟩) g1 _).setCell (p := ⟨b, 2, none⟩) g1 _).setCell (p := ⟨b, 3, none⟩) g1 _).setCell (p := ⟨b, 4, none⟩) g1 _
      · intro _
        rw [getD_set_ne false (by decide)]
        exact s14
      · intro _
        rw [getD_set_eq (by omega)]
        exact ⟨g1, blk5 g2 _ _ _ _ _⟩
    · omega
  · intro s a wx hs hI hr
    obtain ⟨b, rfl, bw, _, hal⟩ := hI
    have al := all_listed (md := .any) (ops := ops7) hs (by kernel_rfl) hr
    obtain ⟨g1, g2⟩ := hal (al 14 (by decide))
    rw [al 15 (by decide)] at g2
    rw [fr_all _ 0 s a0 (fun j hj => by rw [Nat.zero_add]; exact al j (by have hj' : j < 15 := hj; have h16 : ops7.size = 16 := (by kernel_rfl); omega))]
    exact fin b wx g1 bw g2
  · refine ⟨0, ?_, (Below.refl _ _).drew, ?_, ?_⟩
    · rw [fr_none]
    · intro h
      rw [getD_replicate_false] at h
      cases h
    · intro h
      rw [getD_replicate_false] at h
      cases h
end Go.Proofs.YtobbbhmkcmbekaaDoor.bigs
