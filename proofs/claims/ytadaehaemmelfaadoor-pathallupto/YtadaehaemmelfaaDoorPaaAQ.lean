/- Of our texts, what this claim reaches. -/
import Derived.Test.YtadaehaemmelfaaDoorPaaAN
import Derived.Test.YtadaehaemmelfaaDoorPaaAJ
import Derived.Test.YtadaehaemmelfaaDoorPaaAE
import Derived.Deep.QuietTactic
import Derived.BigQuiet
import Derived.Test.YtadaehaemmelfaaDoorPaaAP
set_option linter.unusedVariables false
set_option maxHeartbeats 1000000
set_option maxRecDepth 100000
namespace Go.Proofs.YtadaehaemmelfaaDoor.escs
open Go.RowKit
open utfs
open bigs (hexc digB bru64 tabKeep)
theorem quoteL_len {rs : List Int} (h : ∀ r ∈ rs, sc r = true) : (quoteL rs).length ≤ 6 * (enc rs).length + 2 := by
 have := qs_le rs h
 unfold quoteL
 simp only [List.length_cons, List.length_append, List.length_nil]
 omega
structure EscTabs (w : World) : Prop where
 utf : Lib.Utf8Tabs 1 2 w
 bru : Lib.TabIs Tryd.prog w "math/bits.deBruijn64tab" .u8 bru64
theorem EscTabs.below {w w' : World} (h : EscTabs w) (hb : Below w.heap.size w w') : EscTabs w' := ⟨Utf8Tabs_below h.utf hb, tabKeep h.bru hb⟩
theorem text_of {s : ByteArray} {l : List UInt8} (h : s.data.toList = l) : (⟨l.toArray⟩ : ByteArray) = s := by
 rw [← h]
def keyT (l : List UInt8) : List UInt8 := if bareL l = true then l else if 0 ≤ bad l then [] else quoteL (runes l)
def keyE (l : List UInt8) : Int := if bareL l = true then 0 else if 0 ≤ bad l then 3 else 0
def quoT (l : List UInt8) : List UInt8 := if 0 ≤ bad l then [] else quoteL (runes l)
def quoE (l : List UInt8) : Int := if 0 ≤ bad l then 3 else 0
theorem quote_any (w : World) (s : ByteArray) (hs : s.size ≤ 1073741824) (hT : EscTabs w) :
  Calls Tryd.prog 88 #[.string s] w fun e w' => e = .returned (.tuple #[.string ⟨(quoT s.data.toList).toArray⟩, .int .i64 (quoE s.data.toList)]) ∧ Below w.heap.size w w' := by
 unfold quoT quoE
 by_cases h : 0 ≤ bad s.data.toList
 ·rw [if_pos h, if_pos h]
  exact quote_bad s w (by omega) hT.utf h
 ·rw [if_neg h, if_neg h]
  obtain ⟨a, b⟩ := good_runes (l := s.data.toList) (by omega)
  exact quote_good s _ w hs hT.utf hT.bru a b
theorem key_any (w : World) (s : ByteArray) (hs : s.size ≤ 1073741824) (hT : EscTabs w) :
  Calls Tryd.prog 69 #[.string s] w fun e w' => e = .returned (.tuple #[.string ⟨(keyT s.data.toList).toArray⟩, .int .i64 (keyE s.data.toList)]) ∧ Below w.heap.size w w' := by
 have KB := hide (bare_any w s)
 have KQ := hide (quote_any w s hs hT)
 have e1 : keyT s.data.toList = if bareL s.data.toList = true then s.data.toList else quoT s.data.toList := rfl
 have e2 : keyE s.data.toList = if bareL s.data.toList = true then 0 else quoE s.data.toList := rfl
 rw [e1, e2]
 have et : (⟨s.data.toList.toArray⟩ : ByteArray) = s := text_of rfl
 clear hT e1 e2
 generalize bareL s.data.toList = b at *
 generalize quoT s.data.toList = T at *
 generalize quoE s.data.toList = E at *
 cases b with
 | true =>
  rw [if_pos rfl, if_pos rfl, et]
  clear et KQ
  go_enter Tryd.func69, Tryd.ntmps69
  go_wp2_with fail
  refine (unhide KB).mono ?_
  rintro _ w1 ⟨rfl, hw⟩
  rw [hw]
  clear hw
  go_wp2
  go_ret2
  exact ⟨rfl, Below.refl _ _⟩
 | false =>
  rw [if_neg (by decide), if_neg (by decide)]
  clear et
  go_enter Tryd.func69, Tryd.ntmps69
  go_wp2_with fail
  refine (unhide KB).mono ?_
  rintro _ w1 ⟨rfl, hw⟩
  rw [hw]
  clear hw
  go_wp2_with fail
  refine (unhide KQ).mono ?_
  rintro _ w1 ⟨rfl, b1⟩
  have B1 := hide b1
  clear b1 KQ KB
  go_wp2
  go_ret2
  exact ⟨rfl, unhide B1⟩
end Go.Proofs.YtadaehaemmelfaaDoor.escs
