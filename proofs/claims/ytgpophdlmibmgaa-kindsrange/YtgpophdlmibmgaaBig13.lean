/- The document's own End. Conditions: below 2^191. -/
import Derived.Test.YtgpophdlmibmgaaBig12
namespace Go.Proofs.Ytgpophdlmibmgaa
open Go.RowKit
set_option linter.unusedVariables false
set_option maxRecDepth 100000
end Go.Proofs.Ytgpophdlmibmgaa
