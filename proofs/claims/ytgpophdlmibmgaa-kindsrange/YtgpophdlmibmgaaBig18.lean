/- picketref1's Acc's Add; halves of a product of two digits. Conditions: at most 1000 numbers; digits below 2^32. -/
import Derived.Test.YtgpophdlmibmgaaBig17
namespace Go.Proofs.Ytgpophdlmibmgaa
open Go.RowKit
set_option linter.unusedVariables false
set_option maxRecDepth 100000
theorem halves_lo (p q b : Int) (hq0 : 0 ≤ q) (hq1 : q < 65536) : (p * b + q * b / 65536) % 65536 * 65536 + q * b % 65536 = (p * 65536 + q) * b % 4294967296 := by
  have e : (p * 65536 + q) * b = p * b * 65536 + q * b := by rw [Int.add_mul, Int.mul_right_comm]
  rw [e]
  generalize p * b = A
  generalize q * b = B
  omega
theorem halves_hi (p q b : Int) (hq0 : 0 ≤ q) (hq1 : q < 65536) : (p * b + q * b / 65536) / 65536 = (p * 65536 + q) * b / 4294967296 := by
  have e : (p * 65536 + q) * b = p * b * 65536 + q * b := by rw [Int.add_mul, Int.mul_right_comm]
  rw [e]
  generalize p * b = A
  generalize q * b = B
  omega
def mulLo (a b : Int) : Int := a * b % 4294967296
def mulHi (a b : Int) : Int := a * b / 4294967296
set_option maxHeartbeats 1000000 in
theorem halves_any (a b : Int) (w : World) (a0 : 0 ≤ a) (a1 : a < 4294967296) (b0 : 0 ≤ b) (b1 : b < 4294967296) :
    Calls Try.prog 43 #[.int .i64 a, .int .i64 b] w fun e w' => e = .returned (.tuple #[.int .i64 (mulLo a b), .int .i64 (mulHi a b)]) ∧ w' = w := by
  have ea : a = a / 65536 * 65536 + a % 65536 := by omega
  have q0 : 0 ≤ a % 65536 ∧ a % 65536 < 65536 := by omega
  have p0 : 0 ≤ a / 65536 ∧ a / 65536 < 65536 := by omega
  have hl := halves_lo (a / 65536) (a % 65536) b q0.1 q0.2
  have hh := halves_hi (a / 65536) (a % 65536) b q0.1 q0.2
  rw [← ea] at hl hh
  have HL : Hid ((a / 65536 * b + a % 65536 * b / 65536) % 65536 * 65536 + a % 65536 * b % 65536 = mulLo a b) := hl
  have HH : Hid ((a / 65536 * b + a % 65536 * b / 65536) / 65536 = mulHi a b) := hh
  have m1 : 0 ≤ a % 65536 * b ∧ a % 65536 * b ≤ 281474976710655 := by
    refine ⟨Int.mul_nonneg q0.1 b0, ?_⟩
    have := Int.mul_le_mul (show a % 65536 ≤ 65535 by omega) (show b ≤ 4294967295 by omega) b0 (by omega)
    omega
  have m2 : 0 ≤ a / 65536 * b ∧ a / 65536 * b ≤ 281474976710655 := by
    refine ⟨Int.mul_nonneg p0.1 b0, ?_⟩
    have := Int.mul_le_mul (show a / 65536 ≤ 65535 by omega) (show b ≤ 4294967295 by omega) b0 (by omega)
    omega
  clear hl hh ea
  generalize mulLo a b = lo at *
  generalize mulHi a b = hi at *
  go_enter Try.func43, Try.ntmps43
  go_wp2
  go_ret2
  exact ⟨by rw [← HL.out, ← HH.out]; rfl, rfl⟩
end Go.Proofs.Ytgpophdlmibmgaa
