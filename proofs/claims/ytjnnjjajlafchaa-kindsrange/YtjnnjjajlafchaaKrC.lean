/- kinds' New of more than 16 signals; picketlaw7's Light; picketlaw7's below. Conditions: there. -/
import Derived.Test.YtjnnjjajlafchaaKrB
import Derived.Test.YtjnnjjajlafchaaKqD
namespace Go.Proofs.Ytjnnjjajlafchaa
open Go.RowKit
set_option linter.unusedVariables false
set_option maxRecDepth 100000

end Go.Proofs.Ytjnnjjajlafchaa
