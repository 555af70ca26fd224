/- The document's own Neg and Sub. Conditions: an Acc of its own; the numbers' own range. -/
import Derived.Test.YtgpophdlmibmgaaBig14
namespace Go.Proofs.Ytgpophdlmibmgaa
open Go.RowKit
set_option linter.unusedVariables false
set_option maxRecDepth 100000
end Go.Proofs.Ytgpophdlmibmgaa
