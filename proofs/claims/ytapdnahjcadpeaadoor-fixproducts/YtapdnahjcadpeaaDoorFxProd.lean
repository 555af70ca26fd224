/- FixProducts: the law, for every input. Conditions: the numbers' own ranges. -/
import Derived.Test.YtapdnahjcadpeaaDoorFxProd1
import Derived.Test.YtapdnahjcadpeaaDoorFxProd2
import Derived.Test.YtapdnahjcadpeaaDoorFxProd3
namespace Go.Proofs.YtapdnahjcadpeaaDoor
open Go.RowKit
set_option linter.unusedVariables false
set_option maxRecDepth 100000

theorem prod_any (x y : Int) (w : World) (hm : MaxLenIs w) (ht : PowsAre w) (x1 : -9223372036854775808 ≤ x) (x2 : x ≤ 9223372036854775807) (y1 : -9223372036854775808 ≤ y) (y2 : y ≤ 9223372036854775807) :
    Calls Tryd.prog 6 #[.int .i64 x, .int .i64 y] w fun e w' => e = .returned (.bool true) ∧ Below w.heap.size w w' := by
  rcases Int.lt_trichotomy y 0 with hy | hy | hy
  · cases hO : (overF (mulF x y false) || overF (mulF x y true)) with
    | true =>
      cases hO2 : (overF (divF x y false) || overF (divF x y true)) with
      | true => exact prod_ntt x y w hm ht x1 x2 y1 y2 hO hy hO2
      | false =>
        cases hO3 : (overF (mulF (clampF (divF x y false)) y false) || overF (mulF (clampF (divF x y true)) y true)) with
        | true => exact prod_ntft x y w hm ht x1 x2 y1 y2 hO hy hO2 hO3
        | false => exact prod_ntff x y w hm ht x1 x2 y1 y2 hO hy hO2 hO3
    | false =>
      cases hO2 : (overF (divF x y false) || overF (divF x y true)) with
      | true => exact prod_nft x y w hm ht x1 x2 y1 y2 hO hy hO2
      | false =>
        cases hO3 : (overF (mulF (clampF (divF x y false)) y false) || overF (mulF (clampF (divF x y true)) y true)) with
        | true => exact prod_nfft x y w hm ht x1 x2 y1 y2 hO hy hO2 hO3
        | false => exact prod_nfff x y w hm ht x1 x2 y1 y2 hO hy hO2 hO3
  · cases hO : (overF (mulF x y false) || overF (mulF x y true)) with
    | true => exact prod_zt x y w hm ht x1 x2 y1 y2 hO hy
    | false => exact prod_zf x y w hm ht x1 x2 y1 y2 hO hy
  · cases hO : (overF (mulF x y false) || overF (mulF x y true)) with
    | true =>
      cases hO2 : (overF (divF x y false) || overF (divF x y true)) with
      | true => exact prod_ptt x y w hm ht x1 x2 y1 y2 hO hy hO2
      | false =>
        cases hO3 : (overF (mulF (clampF (divF x y false)) y true) || overF (mulF (clampF (divF x y true)) y false)) with
        | true => exact prod_ptft x y w hm ht x1 x2 y1 y2 hO hy hO2 hO3
        | false => exact prod_ptff x y w hm ht x1 x2 y1 y2 hO hy hO2 hO3
    | false =>
      cases hO2 : (overF (divF x y false) || overF (divF x y true)) with
      | true => exact prod_pft x y w hm ht x1 x2 y1 y2 hO hy hO2
      | false =>
        cases hO3 : (overF (mulF (clampF (divF x y false)) y true) || overF (mulF (clampF (divF x y true)) y false)) with
        | true => exact prod_pfft x y w hm ht x1 x2 y1 y2 hO hy hO2 hO3
        | false => exact prod_pfff x y w hm ht x1 x2 y1 y2 hO hy hO2 hO3
end Go.Proofs.YtapdnahjcadpeaaDoor
