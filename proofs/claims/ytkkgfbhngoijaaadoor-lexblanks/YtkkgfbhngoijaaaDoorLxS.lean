/- The contracts of fix's signed. -/
import Derived.Test.YtkkgfbhngoijaaaDoorWrW
import Derived.Test.YtkkgfbhngoijaaaDoorMath
namespace Go.Proofs.YtkkgfbhngoijaaaDoor
open Go.RowKit
set_option linter.unusedVariables false
set_option maxRecDepth 100000

theorem ret_two {k : IntKind} {a b : Int} {v : Value} (h : a = b) : Ending.returned (.tuple #[.int k a, v]) = .returned (.tuple #[.int k b, v]) := by rw [h]
theorem neg_back (x : Int) (h1 : 0 ≤ x) (h2 : x ≤ 9223372036854775808) : wrap64 (IntKind.u64.wrap (-x)) = -x := by
  simp only [IntKind.wrap_u64, wrap64]; omega
set_option maxHeartbeats 400000 in
theorem signed_below (x : Int) (w : World) (h1 : 0 ≤ x) (h2 : x ≤ 9223372036854775808) :
    Calls Tryd.prog 35 #[.int .u64 x, .bool true] w fun e w' => e = .returned (.tuple #[.int .i64 (-x), .bool true]) ∧ w' = w := by
  go_enter Tryd.func35, Tryd.ntmps35
  go_wp2
  go_ret2
  exact ⟨ret_two (neg_back x h1 h2), rfl⟩
set_option maxHeartbeats 400000 in
theorem signed_below_no (x : Int) (w : World) (h1 : 9223372036854775808 < x) (h2 : x < 18446744073709551616) :
    Calls Tryd.prog 35 #[.int .u64 x, .bool true] w fun e w' => e = .returned (.tuple #[.int .i64 0, .bool false]) ∧ w' = w := by
  go_enter Tryd.func35, Tryd.ntmps35
  go_wp2
  go_ret2
  exact ⟨rfl, rfl⟩
set_option maxHeartbeats 400000 in
theorem signed_above (x : Int) (w : World) (h1 : 0 ≤ x) (h2 : x < 9223372036854775808) :
    Calls Tryd.prog 35 #[.int .u64 x, .bool false] w fun e w' => e = .returned (.tuple #[.int .i64 x, .bool true]) ∧ w' = w := by
  go_enter Tryd.func35, Tryd.ntmps35
  go_wp2
  go_ret2
  exact ⟨rfl, rfl⟩
set_option maxHeartbeats 400000 in
theorem signed_above_no (x : Int) (w : World) (h1 : 9223372036854775808 ≤ x) (h2 : x < 18446744073709551616) :
    Calls Tryd.prog 35 #[.int .u64 x, .bool false] w fun e w' => e = .returned (.tuple #[.int .i64 0, .bool false]) ∧ w' = w := by
  go_enter Tryd.func35, Tryd.ntmps35
  go_wp2
  go_ret2
  exact ⟨rfl, rfl⟩
end Go.Proofs.YtkkgfbhngoijaaaDoor
