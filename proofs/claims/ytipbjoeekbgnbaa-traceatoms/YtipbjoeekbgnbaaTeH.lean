/- TraceAtoms: a row of numbers that came in; the frame's own order. Conditions: none. -/
import Derived.Test.YtipbjoeekbgnbaaTeG
namespace Go.Proofs.Ytipbjoeekbgnbaa
open Go.RowKit Go.Deep Go.ChangeShapes Go.WideShapes Go.ChangeAt
set_option linter.unusedVariables false
set_option maxRecDepth 100000

theorem open_irow {H : Type} {enc : TypeId × Value → H} {W : World} {fuel : Nat} {a : Option Addr} {len cap : Nat} {x : DataW H × List MemPlace} (h : DataW.trod enc Try.prog W 0 (fun _ => true) true fuel 26 [.slice a len cap] = some x) :
    ∃ ys : List Int, ys.length = len ∧ IRow W a ys ∧ (∀ z ∈ ys, B64 z) ∧ len ≤ cap ∧ (cap ≤ 9223372036854775807 ∧ (a = none → cap = 0)) := by
  obtain ⟨zs, k1, k2, k3, k4, k5, k6⟩ := open_rows itC _ (by omega) Try.underlying26 cells_intN int_in h
  unfold maxLen at k5
  refine ⟨zs, k1, fun i hi => ?_, k3, k4, k5, k6⟩
  obtain ⟨b, off, e, hj⟩ := k2 i hi
  refine ⟨b, off, e, ?_⟩
  have := hj 0 (by omega)
  simpa [itC] using this
theorem ta_frame (y : NdV) (na : Option Addr) (nc : Nat) (names : List ByteArray) (ra : Option Addr) (rc : Nat) (row : List Int) (W : World) (hk : NdKnown W y) (hN : NamRow W na names) (hs : ∀ s ∈ names, s.size ≤ 9223372036854775807) (_ : names.length ≤ nc) (_ : nc ≤ 9223372036854775807 ∧ (na = none → nc = 0)) (hr : IRow W ra row) (hrow : ∀ z ∈ row, B64 z) (_ : row.length ≤ rc) (_ : rc ≤ 9223372036854775807 ∧ (ra = none → rc = 0)) :
    Calls Try.prog 3 #[.agg #[.int .i64 y.x.op, .int .i64 y.x.n, .int .i64 y.x.fr, .int .i64 y.x.to, .slice y.ta y.x.terms.length y.tc, .int .i64 y.x.num], .slice na names.length nc, .slice ra row.length rc] W fun e W' => e = .returned (.bool true) ∧ Below W.heap.size W W' :=
  ta_walk y na nc names ra rc row W hk hN hs hr hrow
end Go.Proofs.Ytipbjoeekbgnbaa
