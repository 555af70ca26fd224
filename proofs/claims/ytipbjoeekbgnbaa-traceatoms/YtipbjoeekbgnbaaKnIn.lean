/- A slice of signals that came in. -/
import Derived.Test.YtipbjoeekbgnbaaBz5
import Derived.Test.YtipbjoeekbgnbaaBz3
namespace Go.Proofs.Ytipbjoeekbgnbaa
open Go.RowKit Go.Deep Go.ChangeShapes Go.WideShapes Go.ChangeAt
set_option linter.unusedVariables false
set_option maxRecDepth 100000

instance : Inhabited Sig := ⟨sig0⟩
theorem cells_int1 : Try.prog.cellsOf 3 = 1 := by kernel_rfl
theorem cells_string1 : Try.prog.cellsOf 9 = 1 := by kernel_rfl
end Go.Proofs.Ytipbjoeekbgnbaa
