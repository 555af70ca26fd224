/- The document's own numbers: six digits to the base 2^32. Nothing of the program. -/
import Derived.Test.YtipbjoeekbgnbaaMath
namespace Go.Proofs.Ytipbjoeekbgnbaa
set_option linter.unusedVariables false
set_option maxRecDepth 100000

/-- Six digits. -/
def Dig (d : Nat → Int) : Prop := ∀ i, i < 6 → 0 ≤ d i ∧ d i < 4294967296
/-- What the first n digits say. -/
def valD (d : Nat → Int) : Nat → Int
  | 0 => 0
  | n + 1 => valD d n + d n * 4294967296 ^ n
/-- The carry ahead of digit n of a sum, and the sum's digits. -/
def crP (a b : Nat → Int) : Nat → Int
  | 0 => 0
  | n + 1 => (a n + b n + crP a b n) / 4294967296
def dgP (a b : Nat → Int) (n : Nat) : Int := (a n + b n + crP a b n) % 4294967296
theorem crP_bd {a b : Nat → Int} (ha : Dig a) (hb : Dig b) : ∀ n, n ≤ 6 → 0 ≤ crP a b n ∧ crP a b n ≤ 1
  | 0, _ => by simp [crP]
  | n + 1, h => by
    have := crP_bd ha hb n (by omega)
    have h1 := ha n (by omega)
    have h2 := hb n (by omega)
    simp only [crP]; omega
theorem dgP_dig {a b : Nat → Int} (ha : Dig a) (hb : Dig b) : Dig (dgP a b) := fun i hi => by unfold dgP; omega
theorem valP (a b : Nat → Int) : ∀ n, valD (dgP a b) n + crP a b n * 4294967296 ^ n = valD a n + valD b n
  | 0 => by simp [valD, crP]
  | n + 1 => by
    have ih := valP a b n
    have e : a n + b n + crP a b n = dgP a b n + crP a b (n + 1) * 4294967296 := by unfold dgP; simp only [crP]; omega
    simp only [valD]
    have e2 : (4294967296 : Int) ^ (n + 1) = 4294967296 * 4294967296 ^ n := by rw [Int.pow_succ, Int.mul_comm]
    have e3 : (a n + b n + crP a b n) * 4294967296 ^ n = dgP a b n * 4294967296 ^ n + crP a b (n + 1) * 4294967296 ^ (n + 1) := by
      rw [e, Int.add_mul, e2, Int.mul_assoc]
    rw [Int.add_mul, Int.add_mul] at e3
    omega
theorem valD_nonneg {d : Nat → Int} (h : Dig d) : ∀ n, n ≤ 6 → 0 ≤ valD d n ∧ valD d n < 4294967296 ^ n
  | 0, _ => by simp [valD]
  | n + 1, hn => by
    have ih := valD_nonneg h n (by omega)
    have hd := h n (by omega)
    have hp : (0 : Int) < 4294967296 ^ n := Int.pow_pos (by omega)
    have h1 := Int.mul_nonneg hd.1 (Int.le_of_lt hp)
    have h2 := Int.mul_le_mul_of_nonneg_right (show d n ≤ 4294967295 by omega) (Int.le_of_lt hp)
    have e2 : (4294967296 : Int) ^ (n + 1) = 4294967296 * 4294967296 ^ n := by rw [Int.pow_succ, Int.mul_comm]
    simp only [valD]; rw [e2]
    generalize (4294967296 : Int) ^ n = p at *
    generalize d n * p = q at *
    omega
/-- A sum that stays below the seventh digit is exact. -/
theorem valP_exact {a b : Nat → Int} (ha : Dig a) (hb : Dig b) (h : valD a 6 + valD b 6 < 4294967296 ^ 6) : valD (dgP a b) 6 = valD a 6 + valD b 6 := by
  have e := valP a b 6
  have hc := crP_bd ha hb 6 (by omega)
  have hv := valD_nonneg (dgP_dig ha hb) 6 (by omega)
  have : crP a b 6 = 0 := by
    rcases (show crP a b 6 = 0 ∨ crP a b 6 = 1 by omega) with h0 | h0
    · exact h0
    · rw [h0, Int.one_mul] at e; omega
  rw [this, Int.zero_mul] at e; omega
/-- The borrow ahead of digit n of a difference, and its digits. -/
def brL (a b : Nat → Int) : Nat → Int
  | 0 => 0
  | n + 1 => if a n - b n - brL a b n < 0 then 1 else 0
def dgL (a b : Nat → Int) (n : Nat) : Int := if a n - b n - brL a b n < 0 then a n - b n - brL a b n + 4294967296 else a n - b n - brL a b n
theorem brL_bd (a b : Nat → Int) : ∀ n, 0 ≤ brL a b n ∧ brL a b n ≤ 1
  | 0 => by simp [brL]
  | n + 1 => by simp only [brL]; split <;> omega
theorem dgL_dig {a b : Nat → Int} (ha : Dig a) (hb : Dig b) : Dig (dgL a b) := fun i hi => by
  have := brL_bd a b i; have h1 := ha i hi; have h2 := hb i hi
  unfold dgL; split <;> omega
theorem valL (a b : Nat → Int) : ∀ n, valD (dgL a b) n = valD a n - valD b n + brL a b n * 4294967296 ^ n
  | 0 => by simp [valD, brL]
  | n + 1 => by
    have ih := valL a b n
    have e : dgL a b n = a n - b n - brL a b n + brL a b (n + 1) * 4294967296 := by unfold dgL; simp only [brL]; split <;> omega
    simp only [valD]
    have e2 : (4294967296 : Int) ^ (n + 1) = 4294967296 * 4294967296 ^ n := by rw [Int.pow_succ, Int.mul_comm]
    rw [ih, e, Int.add_mul, Int.sub_mul, Int.sub_mul, e2, Int.mul_assoc]
    omega
theorem valL_exact {a b : Nat → Int} (ha : Dig a) (hb : Dig b) (h : valD b 6 ≤ valD a 6) : valD (dgL a b) 6 = valD a 6 - valD b 6 := by
  have e := valL a b 6
  have hc := brL_bd a b 6
  have hv := valD_nonneg (dgL_dig ha hb) 6 (by omega)
  have hA := valD_nonneg ha 6 (by omega)
  have hB := valD_nonneg hb 6 (by omega)
  have : brL a b 6 = 0 := by
    rcases (show brL a b 6 = 0 ∨ brL a b 6 = 1 by omega) with h0 | h0
    · exact h0
    · rw [h0, Int.one_mul] at e; omega
  rw [this, Int.zero_mul] at e; omega
/-- One, and what comes into digit n when one is added. -/
def oneD (j : Nat) : Int := if j = 0 then 1 else 0
def cin (a : Nat → Int) (n : Nat) : Int := oneD n + crP a oneD n
theorem cin_succ (a : Nat → Int) (n : Nat) : cin a (n + 1) = (a n + cin a n) / 4294967296 := by
  unfold cin; simp only [crP]; rw [show oneD (n + 1) = 0 from rfl, Int.zero_add, Int.add_assoc]
theorem cin_full (a : Nat → Int) : ∀ k, (∀ j, j < k → a j = 4294967295) → cin a k = 1
  | 0, _ => rfl
  | k + 1, h => by
    have := cin_full a k (fun j hj => h j (by omega))
    rw [cin_succ, this, h k (by omega)]; rfl
theorem cin_none {a : Nat → Int} (ha : Dig a) (k : Nat) (hk : a k + cin a k < 4294967296) (h0 : 0 ≤ cin a k) : ∀ n, k < n → n ≤ 6 → cin a n = 0
  | 0, h, _ => by omega
  | n + 1, h, h6 => by
    by_cases e : n = k
    · subst e; have := ha n (by omega); rw [cin_succ]; omega
    · have := cin_none ha k hk h0 n (by omega) (by omega)
      have h1 := ha n (by omega)
      rw [cin_succ, this]; omega
theorem dgP_one (a : Nat → Int) (j : Nat) : dgP a oneD j = (a j + cin a j) % 4294967296 := by
  unfold dgP cin; rw [Int.add_assoc]
theorem oneD_dig : Dig oneD := fun i _ => by unfold oneD; split <;> omega
theorem valD_one : valD oneD 6 = 1 := by decide
/-- Of digits that are the same above one the greater one decides. -/
theorem val_above {a b : Nat → Int} (n : Nat) (h : valD a n < valD b n) : ∀ m, n ≤ m → (∀ j, n ≤ j → j < m → a j = b j) → valD a m < valD b m
  | 0, hm, _ => by
    have : n = 0 := by omega
    subst this; exact h
  | m + 1, hm, he => by
    by_cases e : n = m + 1
    · subst e; exact h
    · have := val_above n h m (by omega) (fun j h1 h2 => he j h1 (by omega))
      simp only [valD]; rw [he m (by omega) (by omega)]; omega
theorem val_lt {a b : Nat → Int} (ha : Dig a) (hb : Dig b) (i : Nat) (hi : i < 6) (h : a i < b i) (he : ∀ j, i < j → j < 6 → a j = b j) : valD a 6 < valD b 6 := by
  refine val_above (i + 1) ?_ 6 (by omega) (fun j h1 h2 => he j (by omega) h2)
  have v1 := valD_nonneg ha i (by omega)
  have v2 := valD_nonneg hb i (by omega)
  have hp : (0 : Int) < 4294967296 ^ i := Int.pow_pos (by omega)
  have hm := Int.mul_le_mul_of_nonneg_right (show a i + 1 ≤ b i by omega) (Int.le_of_lt hp)
  rw [Int.add_mul, Int.one_mul] at hm
  simp only [valD]
  generalize (4294967296 : Int) ^ i = p at *
  generalize a i * p = x at *
  generalize b i * p = y at *
  omega
theorem val_eq {a b : Nat → Int} (h : ∀ j, j < 6 → a j = b j) : valD a 6 = valD b 6 := by
  simp only [valD]; rw [h 0 (by omega), h 1 (by omega), h 2 (by omega), h 3 (by omega), h 4 (by omega), h 5 (by omega)]
/-- Is the one less, the same, greater? -/
def sgnV (a b : Nat → Int) : Int := if valD a 6 < valD b 6 then -1 else if valD b 6 < valD a 6 then 1 else 0
end Go.Proofs.Ytipbjoeekbgnbaa
