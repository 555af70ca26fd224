/- TraceSteps as the card asks it. Conditions: none but what is known of what came in. -/
import Derived.Test.YtcpehjndpookiabTdP
import Derived.Test.YtcpehjndpookiabTdQ
namespace Go.Proofs.Ytcpehjndpookiab
open Go.RowKit
set_option linter.unusedVariables false

theorem steps_frame (pa : Option Addr) (pc : Nat) (ys : List NdV) (qa : Option Addr) (qc : Nat) (zs : List NdV) (nma : Option Addr) (nmc : Nat) (names : List ByteArray) (ra : Option Addr) (rc : Nat) (rows : List RwV) (W : World)
    (w0 : RowOf ndC 6 W pa ys) (q0 : ∀ y ∈ ys, NdKnown W y) (c0 : ys.length ≤ pc) (l0 : ys.length ≤ 9223372036854775807 ∧ (pa = none → pc = 0)) (w1 : RowOf ndC 6 W qa zs) (q1 : ∀ y ∈ zs, NdKnown W y) (c1 : zs.length ≤ qc) (l1 : zs.length ≤ 9223372036854775807 ∧ (qa = none → qc = 0))
    (w2 : NamRow W nma names) (q2 : ∀ s ∈ names, s.size ≤ 9223372036854775807) (c2 : names.length ≤ nmc) (l2 : nmc ≤ 9223372036854775807 ∧ (nma = none → nmc = 0)) (w3 : RoRow W ra rows) (q3 : ∀ r ∈ rows, ∀ z ∈ r.zs, B64 z) (c3 : rows.length ≤ rc) (l3 : rc ≤ 9223372036854775807 ∧ (ra = none → rc = 0)) :
    Calls Try.prog 3 #[.slice pa ys.length pc, .slice qa zs.length qc, .slice nma names.length nmc, .slice ra rows.length rc] W fun e W' => e = .returned (.bool true) ∧ Below W.heap.size W W' :=
  steps_any pa pc ys qa qc zs nma nmc names ra rc rows W ⟨w0, q0, c0, l0.2, l0.1⟩ ⟨w1, q1, c1, l1.2, l1.1⟩ ⟨w2, q2, w3, q3⟩
end Go.Proofs.Ytcpehjndpookiab
