/- The contracts of span's small functions: Empty, Has, In, none, told, middle, Halves. Conditions: the numbers' own ranges. -/
import Derived.Test.YtipbjoeekbgnbaaLiveB
import Derived.Test.YtipbjoeekbgnbaaSpanM
import Derived.Outline
namespace Go.Proofs.Ytipbjoeekbgnbaa
open Go.RowKit
set_option linter.unusedVariables false
set_option maxRecDepth 100000

theorem bcell {W w1 : World} (hb : Below W.heap.size W w1) : (∀ b o, b < W.heap.size → w1.cell? ⟨b, o, none⟩ = W.cell? ⟨b, o, none⟩) ∧ (∀ b o, b < W.heap.size → w1.frozen? ⟨b, o, none⟩ = W.frozen? ⟨b, o, none⟩) :=
  ⟨fun b o h => hb.cell (p := ⟨b, o, none⟩) h, fun b o h => hb.frozen (p := ⟨b, o, none⟩) h⟩

theorem below_set {B : Nat} {w W : World} (h : Below B w W) (b o : Nat) (v : Value) (hb : B ≤ b) : Below B w (W.setCell ⟨b, o, none⟩ v) := h.setCell hb v
/-- A span as it is told. -/
def toldLo (lo hi : Int) : Int := if hi < lo then 0 else lo
def toldHi (lo hi : Int) : Int := if hi < lo then -1 else hi
end Go.Proofs.Ytipbjoeekbgnbaa
