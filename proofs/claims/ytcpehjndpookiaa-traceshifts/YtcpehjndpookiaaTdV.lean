/- TraceShifts as the card asks it. Conditions: none but what is known of what came in. -/
import Derived.Test.YtcpehjndpookiaaBz9
import Derived.Test.YtcpehjndpookiaaTdQ
namespace Go.Proofs.Ytcpehjndpookiaa
open Go.RowKit
set_option linter.unusedVariables false

theorem shifts_frame (pa : Option Addr) (pc : Nat) (ys : List NdV) (kk : Int) (nma : Option Addr) (nmc : Nat) (names : List ByteArray) (ra : Option Addr) (rc : Nat) (rows : List RwV) (W : World)
    (w0 : RowOf ndC 6 W pa ys) (q0 : ∀ y ∈ ys, NdKnown W y) (c0 : ys.length ≤ pc) (l0 : ys.length ≤ 9223372036854775807 ∧ (pa = none → pc = 0)) (b1 : -9223372036854775808 ≤ kk ∧ kk ≤ 9223372036854775807)
    (w2 : NamRow W nma names) (q2 : ∀ s ∈ names, s.size ≤ 9223372036854775807) (c2 : names.length ≤ nmc) (l2 : nmc ≤ 9223372036854775807 ∧ (nma = none → nmc = 0)) (w3 : RoRow W ra rows) (q3 : ∀ r ∈ rows, ∀ z ∈ r.zs, B64 z) (c3 : rows.length ≤ rc) (l3 : rc ≤ 9223372036854775807 ∧ (ra = none → rc = 0)) :
    Calls Try.prog 3 #[.slice pa ys.length pc, .int .i64 kk, .slice nma names.length nmc, .slice ra rows.length rc] W fun e W' => e = .returned (.bool true) ∧ Below W.heap.size W W' :=
  shifts_any pa pc ys kk nma nmc names ra rc rows W ⟨w0, q0, c0, l0.2, l0.1⟩ ⟨w2, q2, w3, q3⟩
end Go.Proofs.Ytcpehjndpookiaa
