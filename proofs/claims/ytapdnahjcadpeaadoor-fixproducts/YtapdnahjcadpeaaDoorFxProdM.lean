/- Quotients as numbers: what is divided and multiplied back. Nothing of the program's walk. -/
import Derived.Test.YtapdnahjcadpeaaDoorQuotM
import Derived.Test.YtapdnahjcadpeaaDoorSpanM
namespace Go.Proofs.YtapdnahjcadpeaaDoor
open Go.RowKit
set_option linter.unusedVariables false
set_option maxRecDepth 100000

theorem numF_pos (x y : Int) (h : 0 < y) : numF x y = x * 4294967296 := by
  have h2 : decide (y < 0) = false := by simp; omega
  unfold numF absF
  rw [h2]
  by_cases hx : x < 0
  · rw [if_pos (by simp [hx])]; omega
  · rw [if_neg (by simp; omega)]; omega
theorem numF_neg (x y : Int) (h : y < 0) : numF x y = -(x * 4294967296) := by
  have h2 : decide (y < 0) = true := by simp; omega
  unfold numF absF
  rw [h2]
  by_cases hx : x < 0
  · rw [if_neg (by simp [hx])]; omega
  · rw [if_pos (by simp; omega)]; omega
theorem floor_le (P d : Int) (h : 0 < d) : P / d * d ≤ P := Int.ediv_mul_le P (by omega)
theorem floor_ceil (P d : Int) (h : 0 < d) : P / d ≤ -(-P / d) ∧ -(-P / d) ≤ P / d + 1 := by
  have a1 := Int.ediv_mul_le P (b := d) (by omega)
  have a2 := Int.lt_ediv_add_one_mul_self P h
  have b1 := Int.ediv_mul_le (-P) (b := d) (by omega)
  have b2 := Int.lt_ediv_add_one_mul_self (-P) h
  generalize P / d = A at *
  generalize -P / d = B at *
  have e1 : (A + 1) * d = A * d + d := by rw [Int.add_mul, Int.one_mul]
  have e2 : (B + 1) * d = B * d + d := by rw [Int.add_mul, Int.one_mul]
  have e3 : (A + B) * d = A * d + B * d := Int.add_mul _ _ _
  constructor
  · by_cases h0 : A + B ≤ 0
    · omega
    · have := Int.mul_le_mul_of_nonneg_right (show (1 : Int) ≤ A + B by omega) (show 0 ≤ d by omega)
      omega
  · by_cases h0 : -1 ≤ A + B
    · omega
    · have := Int.mul_le_mul_of_nonneg_right (show A + B ≤ -2 by omega) (show 0 ≤ d by omega)
      omega
theorem divF_up (x y : Int) (hy : y ≠ 0) : divF x y false ≤ divF x y true ∧ divF x y true ≤ divF x y false + 1 := by
  have hd : 0 < absF y := by unfold absF; omega
  unfold divF
  exact floor_ceil _ _ hd
theorem div_pos (x y : Int) (h : 0 < y) : divF x y false * y ≤ x * 4294967296 ∧ x * 4294967296 ≤ divF x y true * y := by
  have hd : absF y = y := by unfold absF; omega
  unfold divF
  simp only [Bool.false_eq_true, if_false, if_true]
  rw [numF_pos x y h, hd]
  have a := floor_le (x * 4294967296) y h
  have b := floor_le (-(x * 4294967296)) y h
  refine ⟨a, ?_⟩
  rw [Int.neg_mul]; omega
theorem div_neg (x y : Int) (h : y < 0) : x * 4294967296 ≤ divF x y false * y ∧ divF x y true * y ≤ x * 4294967296 := by
  have hd : absF y = -y := by unfold absF; omega
  unfold divF
  simp only [Bool.false_eq_true, if_false, if_true]
  rw [numF_neg x y h, hd, Int.neg_neg]
  have a := floor_le (-(x * 4294967296)) (-y) (by omega)
  have b := floor_le (x * 4294967296) (-y) (by omega)
  rw [Int.mul_neg] at a b
  refine ⟨by omega, ?_⟩
  rw [Int.neg_mul]; omega
theorem mul_back_le (q y x : Int) (h : q * y ≤ x * 4294967296) (up : Bool) : mulF q y up ≤ x := by
  unfold mulF; generalize q * y = P at *; split <;> omega
theorem mul_back_ge (q y x : Int) (h : x * 4294967296 ≤ q * y) (up : Bool) : x ≤ mulF q y up := by
  unfold mulF; generalize q * y = P at *; split <;> omega
theorem or4 (a b : Bool) : ((((false || a) || b) || a) || b) = (a || b) := by cases a <;> cases b <;> rfl
end Go.Proofs.YtapdnahjcadpeaaDoor
