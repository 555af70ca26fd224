/- The contract of fix's Add: the exact sum of all, kept at its ends. Conditions: at most 1000000 numbers, each an int. -/
import Derived.Test.YtipbjoeekbgnbaaAcc
namespace Go.Proofs.Ytipbjoeekbgnbaa
open Go.RowKit
set_option linter.unusedVariables false
set_option maxRecDepth 100000

/-- A slice's numbers in memory. -/
def IntRow (w : World) (a : Option Addr) (zs : List Int) : Prop := ∀ i, i < zs.length → ∃ b off, a = some ⟨b, off, none⟩ ∧ w.cell? ⟨b, off + i, none⟩ = some (.int .i64 (zs.getD i 0))

end Go.Proofs.Ytipbjoeekbgnbaa
