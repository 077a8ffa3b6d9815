/- The walks of package tree: a value at whatever level; a document; Parse. -/
import Derived.Test.YtoikdjbgeebadaaTreeValZa
import Derived.Test.YtoikdjbgeebadaaTreeValZb
import Derived.Test.YtoikdjbgeebadaaTreeValZc
import Derived.Test.YtoikdjbgeebadaaTreeValD
import Derived.Test.YtoikdjbgeebadaaTreeValSa
import Derived.Test.YtoikdjbgeebadaaTreeValSb
import Derived.Test.YtoikdjbgeebadaaTreeValSc
set_option linter.unusedVariables false
namespace Go.Proofs.Ytoikdjbgeebadaa.trees
open Go.RowKit
open toks

theorem value_all (B : Nat) (s : ByteArray) (a : Option Addr) (cap : Nat) (l : List Tk) (g : Good s l) : ∀ (lv d : Nat), d + lv = 20 → ∀ (u : World) (j : Nat) (pl er : Int) (ts : List Sym), Rd u B s (.slice a l.length cap) j d pl er → TkIn u B a l → At s.data.toList l j ts → Calls Try.prog 25 #[(.pointer (some ⟨B, 0, none⟩))] u (Res B s a cap l d (2 * lv) u (pv lv ts))
  | 0, d, hd, u, j, pl, er, ts, h1, h2, h3 => by
    obtain rfl : d = 20 := by omega
    cases c1 : seesB ts 123 with
    | true => exact value_za u B s a cap l j _ pl er ts h1 h2 g h3 c1
    | false =>
      cases c2 : seesB ts 91 with
      | true => exact value_zb u B s a cap l j _ pl er ts h1 h2 g h3 c2
      | false =>
        cases c3 : seesB ts 120 with
        | true => exact value_zc u B s a cap l j _ pl er ts h1 h2 g h3 c3
        | false => exact value_d u B s a cap l j 20 0 _ pl er ts h1 h2 g h3 c1 c2 c3
  | lv + 1, d, hd, u, j, pl, er, ts, h1, h2, h3 => by
    have ih := value_all B s a cap l g lv (d + 1) (by omega)
    cases c1 : seesB ts 123 with
    | true => exact value_sa u B s a cap l j d lv pl er ts (by omega) ih h1 h2 g h3 c1
    | false =>
      cases c2 : seesB ts 91 with
      | true => exact value_sb u B s a cap l j d lv pl er ts (by omega) ih h1 h2 g h3 c2
      | false =>
        cases c3 : seesB ts 120 with
        | true => exact value_sc u B s a cap l j d lv pl er ts (by omega) h1 h2 g h3 c3
        | false => exact value_d u B s a cap l j d (lv + 1) _ pl er ts h1 h2 g h3 c1 c2 c3
end Go.Proofs.Ytoikdjbgeebadaa.trees
