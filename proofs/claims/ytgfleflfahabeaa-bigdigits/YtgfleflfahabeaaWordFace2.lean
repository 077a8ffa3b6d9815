/- The second face. -/
import Derived.Test.YtgfleflfahabeaaWordText
import Derived.Test.YtgfleflfahabeaaBigPowers
set_option linter.unusedVariables false
namespace Go.Proofs.Ytgfleflfahabeaa.bigs
open Go.RowKit

theorem face2 : Face2 where
  shiftUp := fun w v l n h hs hl hn => shiftUp_any w v l n h hs (by omega) hn
  shiftDown := fun w v l n h hs hl hn => by
    by_cases h0 : n = 0
    · subst h0
      have c := shiftUp_any w v l 0 h hs (by omega) (by omega)
      rw [Nat.pow_zero, Nat.mul_one] at c
      rw [Nat.pow_zero, Nat.div_one]
      exact c
    · exact shiftDown_any w v l n h hs (by omega) hn (by omega)
  shiftLarge := fun w v l n h hs hl h1 h2 => shiftLarge_any w v n h1
  pow := fun w b n hb hn => pow_any w b n hb hn
  powNeg := fun w b n hb hn => powNeg_any w b n hn
  powLarge := fun w b n hb hn => powLarge_any w b n hn
  text := fun w v l h hs hl => text_any w v l h hs hl
  read := fun w s hs hf => read_any w s hs hf
  readForm := fun w s hs hf => readForm_any w s hs hf
  readLarge := fun w s h1 h2 => readLarge_any w s h1
end Go.Proofs.Ytgfleflfahabeaa.bigs
