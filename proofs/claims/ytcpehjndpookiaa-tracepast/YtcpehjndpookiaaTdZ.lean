/- TracePast as the card asks it. Conditions: none but what is known of what came in. -/
import Derived.Test.YtcpehjndpookiaaTdY
namespace Go.Proofs.Ytcpehjndpookiaa
open Go.RowKit
set_option linter.unusedVariables false

theorem past_frame (pa : Option Addr) (pc : Nat) (ys : List NdV) (nma : Option Addr) (nmc : Nat) (names : List ByteArray) (ra : Option Addr) (rc : Nat) (rows : List RwV) (ma : Option Addr) (mc : Nat) (more : List RwV) (W : World)
    (w0 : RowOf ndC 6 W pa ys) (q0 : ∀ y ∈ ys, NdKnown W y) (c0 : ys.length ≤ pc) (l0 : ys.length ≤ 9223372036854775807 ∧ (pa = none → pc = 0))
    (w2 : NamRow W nma names) (q2 : ∀ s ∈ names, s.size ≤ 9223372036854775807) (c2 : names.length ≤ nmc) (l2 : nmc ≤ 9223372036854775807 ∧ (nma = none → nmc = 0)) (w3 : RoRow W ra rows) (q3 : ∀ r ∈ rows, ∀ z ∈ r.zs, B64 z) (c3 : rows.length ≤ rc) (l3 : rc ≤ 9223372036854775807 ∧ (ra = none → rc = 0)) (w4 : RoRow W ma more) (q4 : ∀ r ∈ more, ∀ z ∈ r.zs, B64 z) (c4 : more.length ≤ mc) (l4 : mc ≤ 9223372036854775807 ∧ (ma = none → mc = 0)) :
    Calls Try.prog 7 #[.slice pa ys.length pc, .slice nma names.length nmc, .slice ra rows.length rc, .slice ma more.length mc] W fun e W' => e = .returned (.bool true) ∧ Below W.heap.size W W' :=
  past_any pa pc ys nma nmc names ra rc rows ma mc more W ⟨w0, q0, c0, l0.2, l0.1⟩ ⟨w2, q2, w3, q3⟩ ⟨w2, q2, w4, q4⟩ l3.2 l4.2
end Go.Proofs.Ytcpehjndpookiaa
