/- picketref1's Total, and its Acc's Add. Conditions: at most 1000 numbers; the numbers' own ranges. -/
import Derived.Test.YtgpophdlmibmgaaBig16
namespace Go.Proofs.Ytgpophdlmibmgaa
open Go.RowKit
set_option linter.unusedVariables false
set_option maxRecDepth 100000

theorem sumL_bd (l : List Int) (h : Fits l) : -((l.length : Int) * 9223372036854775808) ≤ sumL l ∧ sumL l ≤ (l.length : Int) * 9223372036854775808 := by
  induction l with
  | nil => simp [sumL]
  | cons z l ih =>
    have h1 := h z List.mem_cons_self
    have h2 := ih (fun x hx => h x (List.mem_cons_of_mem _ hx))
    have e : sumL (z :: l) = z + sumL l := rfl
    rw [e, List.length_cons]
    omega
theorem zero_big : Dig (fun _ => 0) ∧ sv false (fun _ => 0) = 0 ∧ (false = true → (0 : Int) < 0) := ⟨fun j hj => ⟨by simp, by simp⟩, by simp [sv, valD], fun h => by cases h⟩
end Go.Proofs.Ytgpophdlmibmgaa
