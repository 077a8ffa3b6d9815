/- Of our texts, what this claim reaches. -/
import Derived.Test.YtadaehaemmelfaaDoorPubBO
import Derived.Test.YtadaehaemmelfaaDoorPubBP
import Derived.Test.YtadaehaemmelfaaDoorPubBQ
import Derived.Test.YtadaehaemmelfaaDoorPubBR
import Derived.Test.YtadaehaemmelfaaDoorPubBS
import Derived.Test.YtadaehaemmelfaaDoorPubBT
import Derived.Test.YtadaehaemmelfaaDoorPubBN
import Derived.Test.YtadaehaemmelfaaDoorPubBU
set_option linter.unusedVariables false
namespace Go.Proofs.YtadaehaemmelfaaDoor
namespace upds
open Go.RowKit Go.Shelf
open valus
open paths (St LiesP jf je jq)
theorem upd_in (y:V)(key:ByteArray)(hkm:key.size<=maxLen)(x:St):jcm 2 y key [x]:=by
 intro ok f w t k n b s pL nL cL pE nE cE p c po no co g vk vn vb vs vpL vnL vcL vpE vnE vcE hok hl hn hP hc hm hi hy
 by_cases h1:Ins x t
 ·by_cases h2:(opn t).2.1=[]
  ·by_cases h3:cL=0
   ·exact upd_add_nil0 y key hkm x ok f w t k n b s pL nL cL pE nE cE p c po no co g vk vn vb vs vpL vnL vcL vpE vnE vcE hok hl hn hP hc hm hi hy ⟨h1,h2,h3⟩
   ·cases pL with
    | none=>exact upd_add_nil1 y key hkm x ok f w t k n b s nL cL pE nE cE p c po no co g vk vn vb vs vpL vnL vcL vpE vnE vcE hok hl hn hP hc hm hi hy ⟨h1,h2,h3⟩
    | some ad=>exact upd_add_nil2 ad y key hkm x ok f w t k n b s nL cL pE nE cE p c po no co g vk vn vb vs vpL vnL vcL vpE vnE vcE hok hl hn hP hc hm hi hy ⟨h1,h2,h3⟩
  ·by_cases h3:(cL:Int)=x.2
   ·exact upd_add_end y key hkm x ok f w t k n b s pL nL cL pE nE cE p c po no co g vk vn vb vs vpL vnL vcL vpE vnE vcE hok hl hn hP hc hm hi hy ⟨h1,h2,h3⟩
   ·exact upd_add_mid y key hkm x ok f w t k n b s pL nL cL pE nE cE p c po no co g vk vn vb vs vpL vnL vcL vpE vnE vcE hok hl hn hP hc hm hi hy ⟨h1,h2,h3⟩
 ·exact upd_add y key hkm x ok f w t k n b s pL nL cL pE nE cE p c po no co g vk vn vb vs vpL vnL vcL vpE vnE vcE hok hl hn hP hc hm hi hy h1
theorem Qc (kind:Int)(hk:1<=kind/\kind<=4)(y:V)(key:ByteArray)(hkm:key.size<=maxLen):∀P:List St,(kind≠1->P≠[])->jcm kind y key P
 | [],h=>by
  intro ok f w t k n b s pL nL cL pE nE cE p c po no co g vk vn vb vs vpL vnL vcL vpE vnE vcE hok hl hn hP hc hm hi hy;exact upd_nil f w t k n b s pL nL cL pE nE cE p c kind po no co g y vk vn vb vs vpL vnL vcL vpE vnE vcE key ok hok hy
 | x :: P,h=>by
  by_cases hor:kind=1\/P≠[]
  ·exact upd_deep kind y key hkm x P (Qc kind hk y key hkm P (fun hk'=>hor.resolve_left hk')) hor
  ·have hP0:P=[]:=Classical.byContradiction fun h=>hor (.inr h)
   subst hP0
   rcases(show kind=2\/kind=3\/kind=4 by omega) with rfl | rfl | rfl
   ·exact upd_in y key hkm x
   ·exact upd_drop y key hkm x
   ·exact upd_name y key hkm x
end upds
end Go.Proofs.YtadaehaemmelfaaDoor
