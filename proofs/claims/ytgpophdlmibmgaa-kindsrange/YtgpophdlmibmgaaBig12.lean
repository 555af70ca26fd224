/- The document's own Int, of a number in range. Conditions: the range. -/
import Derived.Test.YtgpophdlmibmgaaBig11
namespace Go.Proofs.Ytgpophdlmibmgaa
open Go.RowKit
set_option linter.unusedVariables false
set_option maxRecDepth 100000

theorem wrap_pos {p q x : Int} (h : p * 4294967296 + q = x) (h0 : 0 ≤ q) (h1 : q < 4294967296) (h2 : 0 ≤ p) (h3 : x ≤ 9223372036854775807) : wrap64 (wrap64 (p * 4294967296) + q) = x := by unfold wrap64; omega
theorem wrap_neg {p q x : Int} (h : p * 4294967296 + q = -x) (hx : x < 0) (h0 : 0 ≤ q) (h1 : q < 4294967296) (h2 : 0 ≤ p) (h3 : -9223372036854775808 ≤ x) : wrap64 (wrap64 (-wrap64 (wrap64 (wrap64 (p * 4294967296) + q) - 1)) - 1) = x := by unfold wrap64; omega

end Go.Proofs.Ytgpophdlmibmgaa
