/- The document's own Acc: its end. Conditions: an Acc of its own; below 2^191. -/
import Derived.Test.YtgpophdlmibmgaaBig13
namespace Go.Proofs.Ytgpophdlmibmgaa
open Go.RowKit
set_option linter.unusedVariables false
set_option maxRecDepth 100000
end Go.Proofs.Ytgpophdlmibmgaa
