/- The document's own Int, of a number out of range. Conditions: below 2^191. -/
import Derived.Test.YtgpophdlmibmgaaBig10
namespace Go.Proofs.Ytgpophdlmibmgaa
open Go.RowKit
set_option linter.unusedVariables false
set_option maxRecDepth 100000
end Go.Proofs.Ytgpophdlmibmgaa
