/- The greatest, the least, what is kept between two: the contracts of fix's Max, Min, Clamp. Conditions: the slice's own length. -/
import Derived.Test.YtipbjoeekbgnbaaInts
import Derived.Test.YtipbjoeekbgnbaaShelf2
namespace Go.Proofs.Ytipbjoeekbgnbaa
open Go.RowKit
set_option linter.unusedVariables false
set_option maxRecDepth 100000
/-- hi, if x is above hi; else lo, if x is below lo; else x. -/
def keepF (x lo hi : Int) : Int := if hi < x then hi else if x < lo then lo else x
end Go.Proofs.Ytipbjoeekbgnbaa
