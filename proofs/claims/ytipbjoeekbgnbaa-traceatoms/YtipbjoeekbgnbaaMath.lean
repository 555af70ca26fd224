/- Plain numbers: what is kept at the ends, what is rounded. Nothing of the program. -/
import Derived.RowKit
import Derived.Laws.BitsAllLaws
import Derived.Laws.Bits128
namespace Go.Proofs.Ytipbjoeekbgnbaa
set_option linter.unusedVariables false
set_option maxRecDepth 100000

def maxF : Int := 9223372036854775807
def minF : Int := -9223372036854775808
/-- A number that stays at its ends. -/
def clampF (v : Int) : Int := if 9223372036854775807 < v then 9223372036854775807 else if v < -9223372036854775808 then -9223372036854775808 else v
/-- Whether it did. -/
def overF (v : Int) : Bool := decide (9223372036854775807 < v) || decide (v < -9223372036854775808)
theorem clampF_in {v : Int} (h1 : -9223372036854775808 ≤ v) (h2 : v ≤ 9223372036854775807) : clampF v = v := by
  unfold clampF; rw [if_neg (by omega), if_neg (by omega)]
theorem clampF_hi {v : Int} (h : 9223372036854775807 < v) : clampF v = 9223372036854775807 := by
  unfold clampF; rw [if_pos h]
theorem clampF_lo {v : Int} (h : v < -9223372036854775808) : clampF v = -9223372036854775808 := by
  unfold clampF; rw [if_neg (by omega), if_pos h]
theorem overF_in {v : Int} (h1 : -9223372036854775808 ≤ v) (h2 : v ≤ 9223372036854775807) : overF v = false := by
  unfold overF; simp; omega
theorem overF_hi {v : Int} (h : 9223372036854775807 < v) : overF v = true := by
  unfold overF; simp; omega
theorem overF_lo {v : Int} (h : v < -9223372036854775808) : overF v = true := by
  unfold overF; simp; omega
theorem clampF_bd (v : Int) : -9223372036854775808 ≤ clampF v ∧ clampF v ≤ 9223372036854775807 := by
  unfold clampF; split
  · omega
  · split <;> omega
theorem clampF_mono {a b : Int} (h : a ≤ b) : clampF a ≤ clampF b := by
  unfold clampF; split
  · rw [if_pos (by omega)]; omega
  · split
    · split
      · omega
      · split <;> omega
    · split
      · omega
      · split <;> omega
theorem overF_false {v : Int} (h : overF v = false) : -9223372036854775808 ≤ v ∧ v ≤ 9223372036854775807 := by
  unfold overF at h; simp at h; omega
theorem overF_clamp {v : Int} (h : overF v = false) : clampF v = v := clampF_in (overF_false h).1 (overF_false h).2

/-- A size with a sign, of which a part was cut or not, rounded up or down. -/
def rnd (s : Int) (cut below up : Bool) : Int := if below then -(if cut && (up != below) then s + 1 else s) else (if cut && (up != below) then s + 1 else s)

/-- The product as numbers of 2^-32, rounded down or up. -/
def mulF (x y : Int) (up : Bool) : Int := if up then -(-(x * y) / 4294967296) else (x * y) / 4294967296
theorem rnd_of (P q r : Int) (cut below up : Bool) (h0 : 0 ≤ r) (h1 : r < 4294967296) (hP : P = (if below then -(q * 4294967296 + r) else q * 4294967296 + r)) (hc : cut = decide (r ≠ 0)) :
    rnd q cut below up = if up then -(-P / 4294967296) else P / 4294967296 := by
  subst hP hc
  cases below <;> cases up <;> by_cases hr : r = 0 <;> simp [rnd, hr] <;> omega

/-! Halves of a word. -/
theorem and_mask (a : Int) (h1 : 0 ≤ a) (h2 : a < 18446744073709551616) : bits .and .u64 a 4294967295 = a % 4294967296 := by
  obtain ⟨n, rfl⟩ : ∃ n : Nat, a = n := ⟨a.toNat, by omega⟩
  rw [show (4294967295 : Int) = ((4294967295 : Nat) : Int) from rfl, u64_and_nat n 4294967295 (by omega) (by omega)]
  rw [show (4294967295 : Nat) = 2 ^ 32 - 1 from rfl, Nat.and_two_pow_sub_one_eq_mod]
  omega
theorem or_join (a b : Int) (h1 : 0 ≤ a) (h2 : a < 18446744073709551616) (h3 : a % 4294967296 = 0) (h4 : 0 ≤ b) (h5 : b < 4294967296) : bits .or .u64 a b = a + b := by
  obtain ⟨n, rfl⟩ : ∃ n : Nat, a = n := ⟨a.toNat, by omega⟩
  obtain ⟨m, rfl⟩ : ∃ m : Nat, b = m := ⟨b.toNat, by omega⟩
  rw [u64_or_nat n m (by omega) (by omega), nat_join 32 n m (by omega) (by omega)]
  omega
theorem mul_bd (a b : Int) (h1 : 0 ≤ a) (h2 : a < 4294967296) (h3 : 0 ≤ b) (h4 : b < 4294967296) : 0 ≤ a * b ∧ a * b ≤ 18446744065119617025 := by
  refine ⟨Int.mul_nonneg h1 h3, ?_⟩
  have := Int.mul_le_mul (show a ≤ 4294967295 by omega) (show b ≤ 4294967295 by omega) h3 (by omega)
  omega
theorem mul_halves (x y : Int) : x * y = (x / 4294967296) * (y / 4294967296) * 18446744073709551616 + ((x / 4294967296) * (y % 4294967296) + (x % 4294967296) * (y / 4294967296)) * 4294967296 + (x % 4294967296) * (y % 4294967296) := by
  have hx : x = (x / 4294967296) * 4294967296 + x % 4294967296 := by omega
  have hy : y = (y / 4294967296) * 4294967296 + y % 4294967296 := by omega
  generalize x / 4294967296 = a at *
  generalize x % 4294967296 = b at *
  generalize y / 4294967296 = c at *
  generalize y % 4294967296 = d at *
  subst hx hy
  have e1 : (a * 4294967296 + b) * (c * 4294967296 + d) = a * 4294967296 * (c * 4294967296) + a * 4294967296 * d + (b * (c * 4294967296) + b * d) := by
    rw [Int.add_mul, Int.mul_add, Int.mul_add]
  have e2 : a * 4294967296 * (c * 4294967296) = a * c * 18446744073709551616 := by
    rw [show (18446744073709551616 : Int) = 4294967296 * 4294967296 from rfl, ← Int.mul_assoc, ← Int.mul_assoc, Int.mul_right_comm a 4294967296 c]
  have e3 : a * 4294967296 * d = a * d * 4294967296 := Int.mul_right_comm a 4294967296 d
  have e4 : b * (c * 4294967296) = b * c * 4294967296 := (Int.mul_assoc b c 4294967296).symm
  rw [e1, e2, e3, e4]
  omega
theorem prod_parts (p11 p10 p01 p00 P : Int) (b11 : 0 ≤ p11 ∧ p11 ≤ 18446744065119617025) (b10 : 0 ≤ p10 ∧ p10 ≤ 18446744065119617025) (b01 : 0 ≤ p01 ∧ p01 ≤ 18446744065119617025) (b00 : 0 ≤ p00 ∧ p00 ≤ 18446744065119617025)
    (hP : P = p11 * 18446744073709551616 + (p10 + p01) * 4294967296 + p00) (hb : P < 340282366920938463463374607431768211456) :
    (p11 + (p10 + p00 / 4294967296) / 4294967296 + (p01 + (p10 + p00 / 4294967296) % 4294967296) / 4294967296 = P / 18446744073709551616) ∧
    ((p01 + (p10 + p00 / 4294967296) % 4294967296) * 4294967296 % 18446744073709551616 + p00 % 4294967296 = P % 18446744073709551616) := by
  omega
theorem w64 {a : Int} (h1 : 0 ≤ a) (h2 : a < 18446744073709551616) : IntKind.u64.wrap a = a := by
  rw [IntKind.wrap_u64]; omega
/-- The product of two words, put together of the products of their halves, as the text reckons it. -/
theorem prod_text (x y : Int) (h1 : 0 ≤ x) (h2 : x < 18446744073709551616) (h3 : 0 ≤ y) (h4 : y < 18446744073709551616) :
    IntKind.u64.wrap (IntKind.u64.wrap (IntKind.u64.wrap (x / 4294967296 * (y / 4294967296)) + IntKind.u64.wrap (IntKind.u64.wrap (x / 4294967296 * bits .and .u64 y 4294967295) + IntKind.u64.wrap (bits .and .u64 x 4294967295 * bits .and .u64 y 4294967295) / 4294967296) / 4294967296) + IntKind.u64.wrap (IntKind.u64.wrap (bits .and .u64 x 4294967295 * (y / 4294967296)) + bits .and .u64 (IntKind.u64.wrap (IntKind.u64.wrap (x / 4294967296 * bits .and .u64 y 4294967295) + IntKind.u64.wrap (bits .and .u64 x 4294967295 * bits .and .u64 y 4294967295) / 4294967296)) 4294967295) / 4294967296) = x * y / 18446744073709551616 ∧
    bits .or .u64 (IntKind.u64.wrap (IntKind.u64.wrap (IntKind.u64.wrap (bits .and .u64 x 4294967295 * (y / 4294967296)) + bits .and .u64 (IntKind.u64.wrap (IntKind.u64.wrap (x / 4294967296 * bits .and .u64 y 4294967295) + IntKind.u64.wrap (bits .and .u64 x 4294967295 * bits .and .u64 y 4294967295) / 4294967296)) 4294967295) * 4294967296)) (bits .and .u64 (IntKind.u64.wrap (bits .and .u64 x 4294967295 * bits .and .u64 y 4294967295)) 4294967295) = x * y % 18446744073709551616 := by
  rw [and_mask x h1 h2, and_mask y h3 h4]
  have m := mul_halves x y
  have b11 := mul_bd (x / 4294967296) (y / 4294967296) (by omega) (by omega) (by omega) (by omega)
  have b10 := mul_bd (x / 4294967296) (y % 4294967296) (by omega) (by omega) (by omega) (by omega)
  have b01 := mul_bd (x % 4294967296) (y / 4294967296) (by omega) (by omega) (by omega) (by omega)
  have b00 := mul_bd (x % 4294967296) (y % 4294967296) (by omega) (by omega) (by omega) (by omega)
  have hb : x * y < 340282366920938463463374607431768211456 := by
    have := Int.mul_le_mul (show x ≤ 18446744073709551615 by omega) (show y ≤ 18446744073709551615 by omega) h3 (by omega)
    omega
  generalize x / 4294967296 * (y / 4294967296) = p11 at *
  generalize x / 4294967296 * (y % 4294967296) = p10 at *
  generalize x % 4294967296 * (y / 4294967296) = p01 at *
  generalize x % 4294967296 * (y % 4294967296) = p00 at *
  generalize x * y = P at *
  have k := prod_parts p11 p10 p01 p00 P b11 b10 b01 b00 m hb
  rw [w64 (a := p00) (by omega) (by omega), w64 (a := p10) (by omega) (by omega), w64 (a := p01) (by omega) (by omega), w64 (a := p11) (by omega) (by omega)]
  rw [w64 (a := p10 + p00 / 4294967296) (by omega) (by omega)]
  rw [and_mask (p10 + p00 / 4294967296) (by omega) (by omega)]
  rw [w64 (a := p01 + (p10 + p00 / 4294967296) % 4294967296) (by omega) (by omega)]
  rw [and_mask p00 (by omega) (by omega)]
  rw [w64 (a := p11 + (p10 + p00 / 4294967296) / 4294967296) (by omega) (by omega)]
  rw [w64 (a := p11 + (p10 + p00 / 4294967296) / 4294967296 + (p01 + (p10 + p00 / 4294967296) % 4294967296) / 4294967296) (by omega) (by omega)]
  rw [IntKind.wrap_u64, or_join _ _ (by omega) (by omega) (by omega) (by omega) (by omega)]
  exact k

/-! The same halves of a number with a sign. -/
theorem and_mask_i (n : Int) : bits .and .i64 n 4294967295 = n % 4294967296 := by
  have key : (BitVec.ofInt 64 n &&& BitVec.ofInt 64 4294967295).toNat = (n % 4294967296).toNat := by
    rw [BitVec.toNat_and]
    have h2 : (BitVec.ofInt 64 4294967295).toNat = 2 ^ 32 - 1 := by decide
    rw [h2, Nat.and_two_pow_sub_one_eq_mod, BitVec.toNat_ofInt]
    omega
  show IntKind.i64.wrap ((BitVec.ofInt 64 n &&& BitVec.ofInt 64 4294967295).toNat : Nat) = n % 4294967296
  rw [key, IntKind.wrap_i64]
  omega
theorem or_join_i (a b : Int) (h1 : -2147483648 ≤ a) (h2 : a ≤ 2147483647) (h4 : 0 ≤ b) (h5 : b < 4294967296) : bits .or .i64 (a * 4294967296) b = a * 4294967296 + b := by
  have key : (BitVec.ofInt 64 (a * 4294967296) ||| BitVec.ofInt 64 b).toNat = ((a * 4294967296) % 18446744073709551616).toNat + b.toNat := by
    rw [BitVec.toNat_or, BitVec.toNat_ofInt, BitVec.toNat_ofInt]
    have e1 : (b % ((2 ^ 64 : Nat) : Int)).toNat = b.toNat := by omega
    rw [e1, nat_join 32 _ _ (by omega) (by omega)]
    omega
  show IntKind.i64.wrap ((BitVec.ofInt 64 (a * 4294967296) ||| BitVec.ofInt 64 b).toNat : Nat) = _
  rw [key, IntKind.wrap_i64]
  omega

/-- The sum of all. -/
def sumL (l : List Int) : Int := l.foldr (· + ·) 0
theorem sumL_append (a b : List Int) : sumL (a ++ b) = sumL a + sumL b := by
  induction a with
  | nil => simp [sumL]
  | cons x a ih => simp only [sumL, List.cons_append, List.foldr_cons] at *; rw [ih]; omega
theorem sumL_take (l : List Int) (k : Nat) (h : k < l.length) : sumL (l.take (k + 1)) = sumL (l.take k) + l.getD k 0 := by
  rw [List.take_succ_eq_append_getElem h, sumL_append]
  simp [sumL, List.getD_eq_getElem?_getD, List.getElem?_eq_getElem h]
/-- Bounds of a list of numbers. -/
def Fits (l : List Int) : Prop := ∀ x ∈ l, -9223372036854775808 ≤ x ∧ x ≤ 9223372036854775807
theorem fits_getD {l : List Int} (h : Fits l) (k : Nat) : -9223372036854775808 ≤ l.getD k 0 ∧ l.getD k 0 ≤ 9223372036854775807 := by
  rw [List.getD_eq_getElem?_getD]
  by_cases hk : k < l.length
  · rw [List.getElem?_eq_getElem hk]; exact h _ (List.getElem_mem hk)
  · rw [List.getElem?_eq_none (by omega)]; simp
end Go.Proofs.Ytipbjoeekbgnbaa
