/- The contract of the document's own numbers of six digits: zero. Conditions: none. -/
import Derived.Test.YtgpophdlmibmgaaBig
import Derived.Laws.StructEq
import Derived.Laws.Tables
import Derived.Laws.Cover2
namespace Go.Proofs.Ytgpophdlmibmgaa
open Go.RowKit
set_option linter.unusedVariables false
set_option maxRecDepth 100000

/-- Whether all six digits are nought. -/
def zB (a : Nat → Int) : Bool := a 0 == 0 && (a 1 == 0 && (a 2 == 0 && (a 3 == 0 && (a 4 == 0 && a 5 == 0))))
set_option maxHeartbeats 2000000 in
theorem eq_six (a : Nat → Int) (w : World) : (Op.equalIn 10000 69 (.agg #[.int .i64 (a 0), .int .i64 (a 1), .int .i64 (a 2), .int .i64 (a 3), .int .i64 (a 4), .int .i64 (a 5)]) (.agg #[.int .i64 0, .int .i64 0, .int .i64 0, .int .i64 0, .int .i64 0, .int .i64 0])).run Try.prog w = .ok (zB a) w := by
  have u3 := Try.underlying3
  have a3 := Try.isAgg3
  have z3 := Try.sizeOf3
  unfold zB
  generalize a 0 = a0
  generalize a 1 = a1
  generalize a 2 = a2
  generalize a 3 = a3'
  generalize a 4 = a4
  generalize a 5 = a5
  rw [show (10000 : Nat) = 9999 + 1 from rfl, Op.equalIn]
  simp only [Sem.run_bind, run_underlying Try.underlying69, Result.andThen_ok]
  simp only [Std.Legacy.Range.forIn_eq_forIn_range', Std.Legacy.Range.size, Nat.sub_zero, Nat.add_sub_cancel, Nat.div_one, List.range'_succ, List.range'_zero, List.forIn_cons, List.forIn_nil]
  go_simp
  by_cases h0 : a0 = 0
  · by_cases h1 : a1 = 0
    · by_cases h2 : a2 = 0
      · by_cases h3 : a3' = 0
        · by_cases h4 : a4 = 0
          · by_cases h5 : a5 = 0 <;> simp [h0, h1, h2, h3, h4, h5]
          · simp [h0, h1, h2, h3, h4]
        · simp [h0, h1, h2, h3]
      · simp [h0, h1, h2]
    · simp [h0, h1]
  · simp [h0]
set_option maxHeartbeats 400000 in
theorem bzero_any (m : Bool) (a : Nat → Int) (w : World) :
    Calls Try.prog 42 #[.agg #[.bool m, .int .i64 (a 0), .int .i64 (a 1), .int .i64 (a 2), .int .i64 (a 3), .int .i64 (a 4), .int .i64 (a 5)]] w fun e w' => e = .returned (.bool (zB a)) ∧ Below w.heap.size w w' := by
  have he := eq_six a
  go_enter Try.func42, Try.ntmps42
  go_wp2
  go_ret
  exact ⟨rfl, (Below.refl _ _).alloc (Nat.le_refl _) _⟩
end Go.Proofs.Ytgpophdlmibmgaa
