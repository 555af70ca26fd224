/- Spans of numbers: their middle, their corners, what is greatest and least. Nothing of the program. -/
import Derived.Test.YtipbjoeekbgnbaaMath
import Derived.Laws.BitsAllLaws
namespace Go.Proofs.Ytipbjoeekbgnbaa
set_option linter.unusedVariables false
set_option maxRecDepth 100000

theorem nat_and_xor (a b : Nat) : a + b = (a ^^^ b) + 2 * (a &&& b) := by
  induction a using Nat.strongRecOn generalizing b with
  | ind a ih =>
    by_cases h : a = 0
    · subst h; simp
    · have e := ih (a / 2) (by omega) (b / 2)
      have hx : (a ^^^ b) / 2 = a / 2 ^^^ b / 2 := by
        have := Nat.xor_div_two_pow (a := a) (b := b) (n := 1); simpa using this
      have ha : (a &&& b) / 2 = a / 2 &&& b / 2 := by
        have := Nat.and_div_two_pow (a := a) (b := b) (n := 1); simpa using this
      have mx : (a ^^^ b) % 2 = 1 ↔ ¬(a % 2 = 1 ↔ b % 2 = 1) := Nat.xor_mod_two_eq_one
      have ma : (a &&& b) % 2 = 1 ↔ a % 2 = 1 ∧ b % 2 = 1 := Nat.and_mod_two_eq_one
      rw [← hx, ← ha] at e
      generalize a ^^^ b = x at *
      generalize a &&& b = y at *
      omega
theorem top_bit (a : Nat) (h : a < 18446744073709551616) : a.testBit 63 = decide (9223372036854775808 ≤ a) := by
  rw [Nat.testBit_eq_decide_div_mod_eq]
  have : a / 2 ^ 63 < 2 := by omega
  by_cases k : 9223372036854775808 ≤ a
  · have : a / 2 ^ 63 = 1 := by omega
    simp [k, this]
  · have : a / 2 ^ 63 = 0 := by omega
    simp [k, this]
theorem and_xor_i64 (a b : Int) (a1 : -9223372036854775808 ≤ a) (a2 : a ≤ 9223372036854775807) (b1 : -9223372036854775808 ≤ b) (b2 : b ≤ 9223372036854775807) :
    2 * bits .and .i64 a b + bits .xor .i64 a b = a + b ∧ -9223372036854775808 ≤ bits .and .i64 a b ∧ bits .and .i64 a b ≤ 9223372036854775807 ∧ -9223372036854775808 ≤ bits .xor .i64 a b ∧ bits .xor .i64 a b ≤ 9223372036854775807 := by
  show 2 * IntKind.i64.wrap ((BitVec.ofInt 64 a &&& BitVec.ofInt 64 b).toNat : Int) + IntKind.i64.wrap ((BitVec.ofInt 64 a ^^^ BitVec.ofInt 64 b).toNat : Int) = a + b ∧ -9223372036854775808 ≤ IntKind.i64.wrap ((BitVec.ofInt 64 a &&& BitVec.ofInt 64 b).toNat : Int) ∧ IntKind.i64.wrap ((BitVec.ofInt 64 a &&& BitVec.ofInt 64 b).toNat : Int) ≤ 9223372036854775807 ∧ -9223372036854775808 ≤ IntKind.i64.wrap ((BitVec.ofInt 64 a ^^^ BitVec.ofInt 64 b).toNat : Int) ∧ IntKind.i64.wrap ((BitVec.ofInt 64 a ^^^ BitVec.ofInt 64 b).toNat : Int) ≤ 9223372036854775807
  rw [BitVec.toNat_and, BitVec.toNat_xor, BitVec.toNat_ofInt, BitVec.toNat_ofInt]
  have eA : (a % ((2 ^ 64 : Nat) : Int)).toNat = (a % 18446744073709551616).toNat := rfl
  have eB : (b % ((2 ^ 64 : Nat) : Int)).toNat = (b % 18446744073709551616).toNat := rfl
  rw [eA, eB]
  have hA : (a % 18446744073709551616).toNat < 18446744073709551616 := by omega
  have hB : (b % 18446744073709551616).toNat < 18446744073709551616 := by omega
  have vA : ((a % 18446744073709551616).toNat : Int) = a % 18446744073709551616 := by omega
  have vB : ((b % 18446744073709551616).toNat : Int) = b % 18446744073709551616 := by omega
  generalize (a % 18446744073709551616).toNat = A at *
  generalize (b % 18446744073709551616).toNat = B at *
  have hs := nat_and_xor A B
  have hX : A ^^^ B < 18446744073709551616 := Nat.xor_lt_two_pow (n := 64) hA hB
  have hC : A &&& B < 18446744073709551616 := Nat.and_lt_two_pow (n := 64) A hB
  have tX := Nat.testBit_xor A B 63
  have tC := Nat.testBit_and A B 63
  rw [top_bit _ hX, top_bit _ hA, top_bit _ hB] at tX
  rw [top_bit _ hC, top_bit _ hA, top_bit _ hB] at tC
  generalize A ^^^ B = X at *
  generalize A &&& B = C at *
  rw [IntKind.wrap_i64, IntKind.wrap_i64]
  by_cases p : 9223372036854775808 ≤ A <;> by_cases q : 9223372036854775808 ≤ B <;> simp [p, q] at tX tC <;> omega
theorem mid_i64 (a b : Int) (a1 : -9223372036854775808 ≤ a) (a2 : a ≤ 9223372036854775807) (b1 : -9223372036854775808 ≤ b) (b2 : b ≤ 9223372036854775807) : bits .and .i64 a b + bits .xor .i64 a b / 2 = (a + b) / 2 := by
  have := (and_xor_i64 a b a1 a2 b1 b2).1
  omega

/-! Corners of a product. -/
theorem corner_le {a b c d u v : Int} (h1 : a ≤ u) (h2 : u ≤ b) (h3 : c ≤ v) (h4 : v ≤ d) : a * c ≤ u * v ∨ a * d ≤ u * v ∨ b * c ≤ u * v ∨ b * d ≤ u * v := by
  by_cases hv : 0 ≤ v
  · have e1 := Int.mul_le_mul_of_nonneg_right h1 hv
    by_cases ha : 0 ≤ a
    · have := Int.mul_le_mul_of_nonneg_left h3 ha; omega
    · have := Int.mul_le_mul_of_nonpos_left (a := a) (show a ≤ 0 by omega) h4; omega
  · have e1 := Int.mul_le_mul_of_nonpos_right h2 (show v ≤ 0 by omega)
    by_cases hb : 0 ≤ b
    · have := Int.mul_le_mul_of_nonneg_left h3 hb; omega
    · have := Int.mul_le_mul_of_nonpos_left (a := b) (show b ≤ 0 by omega) h4; omega
theorem corner_ge {a b c d u v : Int} (h1 : a ≤ u) (h2 : u ≤ b) (h3 : c ≤ v) (h4 : v ≤ d) : u * v ≤ a * c ∨ u * v ≤ a * d ∨ u * v ≤ b * c ∨ u * v ≤ b * d := by
  have := corner_le (a := -b) (b := -a) (c := c) (d := d) (u := -u) (v := v) (by omega) (by omega) h3 h4
  rw [Int.neg_mul, Int.neg_mul, Int.neg_mul, Int.neg_mul, Int.neg_mul] at this
  omega
theorem mulF_le {P Q : Int} (x y u v : Int) (hP : x * y = P) (hQ : u * v = Q) (h : P ≤ Q) (up : Bool) : mulF x y up ≤ mulF u v up := by
  unfold mulF; rw [hP, hQ]; split <;> omega
theorem mulF_up (x y : Int) : mulF x y false ≤ mulF x y true ∧ mulF x y true ≤ mulF x y false + 1 := by
  unfold mulF; simp only [Bool.false_eq_true, if_false, if_true]; omega
theorem mulF_comm (x y : Int) (up : Bool) : mulF x y up = mulF y x up := by unfold mulF; rw [Int.mul_comm]
theorem mulF_one (x : Int) (up : Bool) : mulF x 4294967296 up = x := by unfold mulF; split <;> omega
theorem mulF_zero (x : Int) (up : Bool) : mulF x 0 up = 0 := by unfold mulF; split <;> simp
theorem mulF_minus (x : Int) (up : Bool) : mulF x (-4294967296) up = -x := by unfold mulF; split <;> omega
/-- The least and the greatest of four. -/
def min4 (a b c d : Int) : Int := min (min (min a b) c) d
def max4 (a b c d : Int) : Int := max (max (max a b) c) d
def crossLo (a b c d : Int) : Int := min4 (clampF (mulF a c false)) (clampF (mulF a d false)) (clampF (mulF b c false)) (clampF (mulF b d false))
def crossHi (a b c d : Int) : Int := max4 (clampF (mulF a c true)) (clampF (mulF a d true)) (clampF (mulF b c true)) (clampF (mulF b d true))
def crossOv (a b c d : Int) (up : Bool) : Bool := overF (mulF a c up) || overF (mulF a d up) || overF (mulF b c up) || overF (mulF b d up)
/-- What is made of numbers of the spans lies between. -/
theorem cross_le {a b c d u v : Int} (h1 : a ≤ u) (h2 : u ≤ b) (h3 : c ≤ v) (h4 : v ≤ d) : crossLo a b c d ≤ clampF (mulF u v false) := by
  unfold crossLo min4
  rcases corner_le h1 h2 h3 h4 with h | h | h | h
  all_goals
    have := clampF_mono (mulF_le _ _ _ _ rfl rfl h false)
    omega
theorem cross_ge {a b c d u v : Int} (h1 : a ≤ u) (h2 : u ≤ b) (h3 : c ≤ v) (h4 : v ≤ d) : clampF (mulF u v true) ≤ crossHi a b c d := by
  unfold crossHi max4
  rcases corner_ge h1 h2 h3 h4 with h | h | h | h
  all_goals
    have := clampF_mono (mulF_le _ _ _ _ rfl rfl h true)
    omega
theorem clamp_up (x y : Int) : clampF (mulF x y false) ≤ clampF (mulF x y true) := clampF_mono (mulF_up x y).1
theorem cross_some {a b c d : Int} (h1 : a ≤ b) (h2 : c ≤ d) : crossLo a b c d ≤ crossHi a b c d := by
  have k1 := cross_le (u := a) (v := c) (Int.le_refl a) h1 (Int.le_refl c) h2
  have k2 := cross_ge (u := a) (v := c) (Int.le_refl a) h1 (Int.le_refl c) h2
  have := clamp_up a c
  omega
/-- No number stays at an end where no corner does. -/
theorem cross_in {a b c d u v : Int} (h1 : a ≤ u) (h2 : u ≤ b) (h3 : c ≤ v) (h4 : v ≤ d) (hl : crossOv a b c d false = false) (hh : crossOv a b c d true = false) (up : Bool) : overF (mulF u v up) = false := by
  unfold crossOv at hl hh
  simp only [Bool.or_eq_false_iff] at hl hh
  obtain ⟨⟨⟨l1, l2⟩, l3⟩, l4⟩ := hl
  obtain ⟨⟨⟨r1, r2⟩, r3⟩, r4⟩ := hh
  have l1 := overF_false l1; have l2 := overF_false l2; have l3 := overF_false l3; have l4 := overF_false l4
  have r1 := overF_false r1; have r2 := overF_false r2; have r3 := overF_false r3; have r4 := overF_false r4
  have k := mulF_up u v
  have lo : -9223372036854775808 ≤ mulF u v false := by
    rcases corner_le h1 h2 h3 h4 with h | h | h | h
    all_goals
      have := mulF_le _ _ _ _ rfl rfl h false
      omega
  have hi : mulF u v true ≤ 9223372036854775807 := by
    rcases corner_ge h1 h2 h3 h4 with h | h | h | h
    all_goals
      have := mulF_le _ _ _ _ rfl rfl h true
      omega
  cases up
  · exact overF_in (by omega) (by omega)
  · exact overF_in (by omega) (by omega)
/-- Of a wider span it is no narrower. -/
theorem cross_grow {a b a' b' c d : Int} (h1 : a' ≤ a) (h2 : a ≤ b) (h3 : b ≤ b') (h4 : c ≤ d) : crossLo a' b' c d ≤ crossLo a b c d ∧ crossHi a b c d ≤ crossHi a' b' c d := by
  have k1 := cross_le (a := a') (b := b') (c := c) (d := d) (u := a) (v := c) (by omega) (by omega) (by omega) (by omega)
  have k2 := cross_le (a := a') (b := b') (c := c) (d := d) (u := a) (v := d) (by omega) (by omega) (by omega) (by omega)
  have k3 := cross_le (a := a') (b := b') (c := c) (d := d) (u := b) (v := c) (by omega) (by omega) (by omega) (by omega)
  have k4 := cross_le (a := a') (b := b') (c := c) (d := d) (u := b) (v := d) (by omega) (by omega) (by omega) (by omega)
  have g1 := cross_ge (a := a') (b := b') (c := c) (d := d) (u := a) (v := c) (by omega) (by omega) (by omega) (by omega)
  have g2 := cross_ge (a := a') (b := b') (c := c) (d := d) (u := a) (v := d) (by omega) (by omega) (by omega) (by omega)
  have g3 := cross_ge (a := a') (b := b') (c := c) (d := d) (u := b) (v := c) (by omega) (by omega) (by omega) (by omega)
  have g4 := cross_ge (a := a') (b := b') (c := c) (d := d) (u := b) (v := d) (by omega) (by omega) (by omega) (by omega)
  generalize crossLo a' b' c d = L at *
  generalize crossHi a' b' c d = H at *
  unfold crossLo crossHi min4 max4
  omega
/-- By a number that is not below nought, and by one that is. -/
theorem cross_pos {a b c : Int} (h : a ≤ b) (hc : 0 ≤ c) : crossLo a b c c = clampF (mulF a c false) ∧ crossHi a b c c = clampF (mulF b c true) := by
  have m := Int.mul_le_mul_of_nonneg_right h hc
  have k1 := clampF_mono (mulF_le a c b c rfl rfl m false)
  have k2 := clampF_mono (mulF_le a c b c rfl rfl m true)
  unfold crossLo crossHi min4 max4
  omega
theorem cross_neg {a b c : Int} (h : a ≤ b) (hc : c ≤ 0) : crossLo a b c c = clampF (mulF b c false) ∧ crossHi a b c c = clampF (mulF a c true) := by
  have m := Int.mul_le_mul_of_nonpos_right h hc
  have k1 := clampF_mono (mulF_le b c a c rfl rfl m false)
  have k2 := clampF_mono (mulF_le b c a c rfl rfl m true)
  unfold crossLo crossHi min4 max4
  omega
end Go.Proofs.Ytipbjoeekbgnbaa
