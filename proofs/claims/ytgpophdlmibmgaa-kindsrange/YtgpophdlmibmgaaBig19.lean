/- Products of the document's own numbers: the numbers of Mul's loops. Nothing of the program's walk. -/
import Derived.Test.YtgpophdlmibmgaaBig18
namespace Go.Proofs.Ytgpophdlmibmgaa
open Go.RowKit
set_option linter.unusedVariables false
set_option maxRecDepth 100000

/-- Digits of which one is another. -/
def setD (e : Nat → Int) (n : Nat) (x : Int) : Nat → Int := fun j => if j = n then x else e j
theorem setD_dig {e : Nat → Int} (h : Dig e) (n : Nat) (x : Int) (h0 : 0 ≤ x) (h1 : x < 4294967296) : Dig (setD e n x) := fun i hi => by
  unfold setD; split
  · exact ⟨h0, h1⟩
  · exact h i hi
theorem valD_low (e : Nat → Int) (n : Nat) (x : Int) : ∀ m, m ≤ n → valD (setD e n x) m = valD e m
  | 0, _ => rfl
  | m + 1, h => by
    simp only [valD]
    rw [valD_low e n x m (by omega), show setD e n x m = e m by unfold setD; rw [if_neg (by omega)]]
theorem valD_set (e : Nat → Int) (n : Nat) (x : Int) : ∀ m, n < m → valD (setD e n x) m = valD e m + (x - e n) * 4294967296 ^ n
  | 0, h => by omega
  | m + 1, h => by
    simp only [valD]
    by_cases hm : n = m
    · subst hm
      rw [valD_low e n x n (Nat.le_refl _), show setD e n x n = x by unfold setD; rw [if_pos rfl], Int.sub_mul]; omega
    · rw [valD_set e n x m (by omega), show setD e n x m = e m by unfold setD; rw [if_neg (fun h => hm h.symm)]]; omega
theorem pow_add (i j : Nat) : (4294967296 : Int) ^ (i + j) = 4294967296 ^ i * 4294967296 ^ j := Int.pow_add _ i j
theorem mul_parts (a b : Int) : mulLo a b + mulHi a b * 4294967296 = a * b := by unfold mulLo mulHi; omega
theorem mul_bds (a b : Int) (a0 : 0 ≤ a) (a1 : a < 4294967296) (b0 : 0 ≤ b) (b1 : b < 4294967296) : (0 ≤ mulLo a b ∧ mulLo a b < 4294967296) ∧ (0 ≤ mulHi a b ∧ mulHi a b ≤ 4294967294) := by
  have h0 := Int.mul_nonneg a0 b0
  have h1 := Int.mul_le_mul (show a ≤ 4294967295 by omega) (show b ≤ 4294967295 by omega) b0 (by omega)
  unfold mulLo mulHi
  generalize a * b = P at *
  omega
/-- The inner loop's round: the number goes up by a digit's product. -/
theorem mul_round (e : Nat → Int) (n : Nat) (hn : n < 6) (k x y : Int) :
    valD (setD e n ((e n + mulLo x y + k) % 4294967296)) 6 + ((e n + mulLo x y + k) / 4294967296 + mulHi x y) * 4294967296 ^ (n + 1) = valD e 6 + k * 4294967296 ^ n + x * y * 4294967296 ^ n := by
  rw [valD_set e n _ 6 hn]
  have hp : (4294967296 : Int) ^ (n + 1) = 4294967296 * 4294967296 ^ n := by rw [Int.pow_succ, Int.mul_comm]
  rw [hp, ← Int.mul_assoc]
  have e1 : (e n + mulLo x y + k) % 4294967296 - e n + ((e n + mulLo x y + k) / 4294967296 + mulHi x y) * 4294967296 = k + x * y := by
    have := mul_parts x y
    generalize x * y = P at *
    generalize mulLo x y = lo at *
    generalize mulHi x y = hi at *
    omega
  rw [Int.add_assoc, ← Int.add_mul, e1, Int.add_mul]; omega
/-- The carry stays a digit. -/
theorem mul_carry (en k x y : Int) (e0 : 0 ≤ en) (e1 : en < 4294967296) (k0 : 0 ≤ k) (k1 : k < 4294967296) (x0 : 0 ≤ x) (x1 : x < 4294967296) (y0 : 0 ≤ y) (y1 : y < 4294967296) :
    0 ≤ (en + mulLo x y + k) / 4294967296 + mulHi x y ∧ (en + mulLo x y + k) / 4294967296 + mulHi x y < 4294967296 := by
  have h0 := Int.mul_nonneg x0 y0
  have h1 := Int.mul_le_mul (show x ≤ 4294967295 by omega) (show y ≤ 4294967295 by omega) y0 (by omega)
  have hp := mul_parts x y
  have hb := mul_bds x y x0 x1 y0 y1
  generalize x * y = P at *
  generalize mulLo x y = lo at *
  generalize mulHi x y = hi at *
  omega
/-- The last loop's round: the carry goes on. -/
theorem carry_round (e : Nat → Int) (n : Nat) (hn : n < 6) (k : Int) :
    valD (setD e n ((e n + k) % 4294967296)) 6 + (e n + k) / 4294967296 * 4294967296 ^ (n + 1) = valD e 6 + k * 4294967296 ^ n := by
  rw [valD_set e n _ 6 hn]
  have hp : (4294967296 : Int) ^ (n + 1) = 4294967296 * 4294967296 ^ n := by rw [Int.pow_succ, Int.mul_comm]
  rw [hp, ← Int.mul_assoc]
  have e1 : (e n + k) % 4294967296 - e n + (e n + k) / 4294967296 * 4294967296 = k := by omega
  rw [Int.add_assoc, ← Int.add_mul, e1]
/-- Where the inner loop is: i digits of a are through, j digits of b with the next one. -/
def mulAt (a b : Nat → Int) (i j : Nat) : Int := valD a i * valD b 3 + a i * valD b j * 4294967296 ^ i
theorem mulAt_zero (a b : Nat → Int) (i : Nat) : mulAt a b i 0 = valD a i * valD b 3 := by simp [mulAt, valD]
theorem mulAt_step (a b : Nat → Int) (i j : Nat) : mulAt a b i (j + 1) = mulAt a b i j + a i * b j * 4294967296 ^ (i + j) := by
  unfold mulAt
  have e : valD b (j + 1) = valD b j + b j * 4294967296 ^ j := rfl
  rw [e, Int.mul_add (a i), Int.add_mul, pow_add]
  have h : a i * (b j * 4294967296 ^ j) * 4294967296 ^ i = a i * b j * (4294967296 ^ i * 4294967296 ^ j) := by
    rw [← Int.mul_assoc, Int.mul_assoc (a i * b j), Int.mul_comm ((4294967296 : Int) ^ j)]
  rw [h, Int.add_assoc]
theorem mulAt_three (a b : Nat → Int) (i : Nat) : mulAt a b i 3 = valD a (i + 1) * valD b 3 := by
  unfold mulAt
  have e : valD a (i + 1) = valD a i + a i * 4294967296 ^ i := rfl
  rw [e, Int.add_mul (valD a i), Int.mul_right_comm]
end Go.Proofs.Ytgpophdlmibmgaa
