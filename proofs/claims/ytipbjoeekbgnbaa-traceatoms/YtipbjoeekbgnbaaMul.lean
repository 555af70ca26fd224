/- The contract of fix's Mul: the exact product, rounded down or up, kept at its ends. Conditions: the numbers' own ranges. -/
import Derived.Test.YtipbjoeekbgnbaaAcc
namespace Go.Proofs.Ytipbjoeekbgnbaa
open Go.RowKit
set_option linter.unusedVariables false
set_option maxRecDepth 100000
theorem hi_join (P : Int) (h0 : 0 ≤ P) (h1 : P < 79228162514264337593543950336) : bits .or .u64 (P / 18446744073709551616 * 4294967296) (P % 18446744073709551616 / 4294967296) = P / 4294967296 := by
  rw [or_join _ _ (by omega) (by omega) (by omega) (by omega) (by omega)]; omega
theorem ne_dec (a : Int) : (a != 0) = decide (a ≠ 0) := by
  by_cases h : a = 0 <;> simp [h]
theorem rnd_mul (x y P : Int) (below up : Bool) (h0 : 0 ≤ P) (hx : x * y = if below then -P else P) : rnd (P / 4294967296) (decide (P % 4294967296 ≠ 0)) below up = mulF x y up := by
  rw [rnd_of (x * y) (P / 4294967296) (P % 4294967296) _ below up (by omega) (by omega) (by rw [hx, show P / 4294967296 * 4294967296 + P % 4294967296 = P by omega]) rfl]
  rfl
theorem mulF_far (x y P : Int) (below up : Bool) (h1 : 79228162514264337593543950336 ≤ P) (hx : x * y = if below then -P else P) : if below then mulF x y up < -9223372036854775808 else 9223372036854775807 < mulF x y up := by
  unfold mulF; rw [hx]
  cases below <;> cases up <;> simp <;> omega

theorem abs_mul (x y : Int) : (x.natAbs : Int) * (y.natAbs : Int) = ((x * y).natAbs : Int) := by
  rw [Int.natAbs_mul]; simp
theorem mul_sign (x y P : Int) (hP : (x.natAbs : Int) * (y.natAbs : Int) = P) : 0 ≤ P ∧ ((x < 0 ∧ y < 0) ∨ (0 ≤ x ∧ 0 ≤ y) → x * y = P) ∧ ((x < 0 ∧ 0 ≤ y) ∨ (0 ≤ x ∧ y < 0) → x * y = -P) := by
  refine ⟨by rw [← hP, abs_mul]; omega, ?_, ?_⟩
  · rintro (⟨h1, h2⟩ | ⟨h1, h2⟩)
    · have := Int.mul_nonneg (show 0 ≤ -x by omega) (show 0 ≤ -y by omega)
      rw [Int.neg_mul_neg] at this
      rw [← hP, abs_mul]; omega
    · have := Int.mul_nonneg h1 h2
      rw [← hP, abs_mul]; omega
  · rintro (⟨h1, h2⟩ | ⟨h1, h2⟩)
    · have := Int.mul_nonneg (show 0 ≤ -x by omega) h2
      rw [Int.neg_mul] at this
      rw [← hP, abs_mul]; omega
    · have := Int.mul_nonneg h1 (show 0 ≤ -y by omega)
      rw [Int.mul_neg] at this
      rw [← hP, abs_mul]; omega

end Go.Proofs.Ytipbjoeekbgnbaa
