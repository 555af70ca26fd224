/- What was laid as bytes is got as it was, just if it fits: numbers alone. -/
import Derived.Test.YtglkoedmonenoaaPutGet
namespace Go.Proofs.Ytglkoedmonenoaa
set_option linter.unusedVariables false

theorem foldV_from (v : Int) (l : List UInt8) : foldV v l = v * 256 ^ l.length + foldV 0 l := by
  induction l generalizing v with
  | nil => simp [foldV]
  | cons c l ih =>
    have e : ∀ u, foldV u (c :: l) = foldV (u * 256 + c.toNat) l := fun u => rfl
    rw [e, e, ih (v * 256 + c.toNat), ih (0 * 256 + (c.toNat : Int)), List.length_cons, Int.pow_succ]
    generalize (256 : Int) ^ l.length = p
    rw [Int.add_mul, Int.add_mul, Int.mul_comm p 256, Int.mul_assoc]
    simp; omega
theorem putL_succ (n : Nat) (V : Int) : putL (n + 1) V = byteAt V n :: putL n V := by
  simp only [putL, List.range_succ_eq_map, List.map_cons, List.map_map]
  congr 1
  apply List.map_congr_left
  intro j hj
  simp only [Function.comp]
  rw [show n + 1 - 1 - j.succ = n - 1 - j by omega]
theorem foldV_put (n : Nat) (V : Int) : foldV 0 (putL n V) = V % 256 ^ n := by
  induction n with
  | zero => simp [putL, foldV, Int.emod_one]
  | succ n ih =>
    rw [putL_succ]
    have e : foldV 0 (byteAt V n :: putL n V) = foldV (0 * 256 + ((byteAt V n).toNat : Int)) (putL n V) := rfl
    rw [e, foldV_from, ih, putL_len, byteAt_toNat, Int.pow_succ]
    have hp : (0 : Int) < 256 ^ n := Int.pow_pos (by omega)
    generalize (256 : Int) ^ n = p at *
    have e1 := Int.emod_add_mul_ediv V p
    have e2 := Int.emod_add_mul_ediv (V / p) 256
    have r1 := Int.emod_nonneg V (show p ≠ 0 by omega)
    have r2 := Int.emod_lt_of_pos V hp
    have hq : V / (p * 256) = V / p / 256 := (Int.ediv_ediv_of_nonneg (Int.le_of_lt hp)).symm
    have e3 := Int.emod_add_mul_ediv V (p * 256)
    rw [hq] at e3
    generalize V / p / 256 = t at *
    generalize V / p % 256 = u at *
    generalize V % p = r at *
    generalize V % (p * 256) = s at *
    rw [← e2] at e1
    have e4 : p * (u + 256 * t) = u * p + p * 256 * t := by rw [Int.mul_add, Int.mul_comm p u, Int.mul_assoc]
    simp; omega
theorem sign_put (n : Nat) (V H : Int) (hn : (256 : Int) ^ (n + 1) = 2 * H) (hH : 128 ≤ H) : signOf (putL (n + 1) V) = if H ≤ V % 256 ^ (n + 1) then -1 else 0 := by
  have hp : (0 : Int) < 256 ^ n := Int.pow_pos (by omega)
  have e0 : (putL (n + 1) V).getD 0 0 = byteAt V n := by rw [putL_succ]; rfl
  have hb := byteAt_toNat V n
  have hf := foldV_put (n + 1) V
  rw [putL_succ] at hf
  have e : foldV 0 (byteAt V n :: putL n V) = foldV (0 * 256 + ((byteAt V n).toNat : Int)) (putL n V) := rfl
  rw [e, foldV_from, foldV_put, putL_len] at hf
  have r1 := Int.emod_nonneg V (show (256 : Int) ^ n ≠ 0 by omega)
  have r2 := Int.emod_lt_of_pos V hp
  unfold signOf
  rw [e0]
  rw [Int.pow_succ] at hn hf ⊢
  generalize (256 : Int) ^ n = p at *
  generalize V % p = r at *
  generalize V % (p * 256) = s at *
  generalize (byteAt V n).toNat = b at *
  by_cases h : 128 ≤ b
  · rw [if_pos h, if_pos ?_]
    have : (128 : Int) * p ≤ (b : Int) * p := Int.mul_le_mul_of_nonneg_right (by omega) (by omega)
    simp at hf; omega
  · rw [if_neg h, if_neg ?_]
    have : (b : Int) * p ≤ 127 * p := Int.mul_le_mul_of_nonneg_right (by omega) (by omega)
    simp at hf; omega
/-- What was laid as n bytes is got as it was just if it fits. -/
theorem get_put (V : Int) (n : Nat) (h1 : 1 ≤ n) (h2 : n ≤ 8) : getV (putL n V) = V ↔ fitsB V n = true := by
  obtain ⟨H, hH, hP, hH1, hH2⟩ := half_at n h1 h2
  obtain ⟨m, rfl⟩ : ∃ m, n = m + 1 := ⟨n - 1, by omega⟩
  have hs := sign_put m V H hP hH1
  have hf : getV (putL (m + 1) V) = signOf (putL (m + 1) V) * 256 ^ (m + 1) + V % 256 ^ (m + 1) := by
    unfold getV; rw [foldV_from, foldV_put, putL_len]
  rw [hf, hs, hP]
  unfold fitsB
  rw [hH]
  have r1 := Int.emod_nonneg V (show 2 * H ≠ 0 by omega)
  have r2 := Int.emod_lt_of_pos V (show 0 < 2 * H by omega)
  have e := Int.emod_add_mul_ediv V (2 * H)
  generalize V / (2 * H) = q at *
  generalize V % (2 * H) = r at *
  simp only [Bool.and_eq_true, decide_eq_true_eq]
  have c : q ≤ -2 ∨ q = -1 ∨ q = 0 ∨ 1 ≤ q := by omega
  rcases c with c | rfl | rfl | c
  · have : 2 * H * q ≤ 2 * H * (-2) := Int.mul_le_mul_of_nonneg_left c (by omega)
    split <;> omega
  · split <;> omega
  · split <;> omega
  · have : 2 * H * 1 ≤ 2 * H * q := Int.mul_le_mul_of_nonneg_left c (by omega)
    split <;> omega
end Go.Proofs.Ytglkoedmonenoaa
