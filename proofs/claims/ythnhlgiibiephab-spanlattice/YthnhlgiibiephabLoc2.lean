/- A live Acc whose flag is written otherwise. -/
import Derived.Test.YthnhlgiibiephabLoc
namespace Go.Proofs.Ythnhlgiibiephab
open Go.RowKit
theorem live_eq {w W : World} {b : Nat} {o p : Bool} (h : Live w b W o) (e : o = p) : Live w b W p := e ▸ h
set_option maxHeartbeats 400000 in
theorem sin_any (a b c d : Int) (r : Bool) (w : World) (hr : (decide (b < a) || (decide (c ≤ a) && decide (b ≤ d))) = r) :
    Calls Try.prog 16 #[(.agg #[.int .i64 a, .int .i64 b]), (.agg #[.int .i64 c, .int .i64 d])] w fun e w' => e = .returned (.bool r) ∧ Below w.heap.size w w' := by
  by_cases h : b < a
  · have : r = true := by rw [← hr]; simp [h]
    subst this
    exact sin_none a b c d w h
  · refine sin_some a b c d r w (by omega) ?_
    rw [← hr]; simp [h]
end Go.Proofs.Ythnhlgiibiephab
