/- The contract of fix's Mul: the exact product, rounded down or up, kept at its ends. Conditions: the numbers' own ranges. -/
import Derived.Test.YtjnnjjajlafchaaAcc
namespace Go.Proofs.Ytjnnjjajlafchaa
open Go.RowKit
set_option linter.unusedVariables false
set_option maxRecDepth 100000

theorem product_is (x y P : Int) (w : World) (h1 : 0 ≤ x) (h2 : x < 18446744073709551616) (h3 : 0 ≤ y) (h4 : y < 18446744073709551616) (hP : Hid (x * y = P)) :
    Calls Try.prog 91 #[.int .u64 x, .int .u64 y] w fun e w' => e = .returned (.tuple #[.int .u64 (P / 18446744073709551616), .int .u64 (P % 18446744073709551616)]) ∧ w' = w := by
  rw [← hP.out]; exact product_any x y w h1 h2 h3 h4

theorem hi_join (P : Int) (h0 : 0 ≤ P) (h1 : P < 79228162514264337593543950336) : bits .or .u64 (P / 18446744073709551616 * 4294967296) (P % 18446744073709551616 / 4294967296) = P / 4294967296 := by
  rw [or_join _ _ (by omega) (by omega) (by omega) (by omega) (by omega)]; omega
theorem ne_dec (a : Int) : (a != 0) = decide (a ≠ 0) := by
  by_cases h : a = 0 <;> simp [h]
theorem round_mul (p : Option Addr) (o below up : Bool) (P : Int) (w : World) (h : AccIs w p o) (h0 : 0 ≤ P) (h1 : P < 79228162514264337593543950336) :
    Calls Try.prog 93 #[.pointer p, .int .u64 (bits .or .u64 (P / 18446744073709551616 * 4294967296) (P % 18446744073709551616 / 4294967296)), .bool (bits .and .u64 (P % 18446744073709551616) 4294967295 != 0), .bool below, .bool up] w
      (Tells w p o (rnd (P / 4294967296) (decide (P % 4294967296 ≠ 0)) below up)) := by
  rw [hi_join P h0 h1, and_mask _ (by omega) (by omega), show P % 18446744073709551616 % 4294967296 = P % 4294967296 by omega, ne_dec]
  exact round_any p o _ below up _ w h (by omega) (by omega)
theorem rnd_mul (x y P : Int) (below up : Bool) (h0 : 0 ≤ P) (hx : x * y = if below then -P else P) : rnd (P / 4294967296) (decide (P % 4294967296 ≠ 0)) below up = mulF x y up := by
  rw [rnd_of (x * y) (P / 4294967296) (P % 4294967296) _ below up (by omega) (by omega) (by rw [hx, show P / 4294967296 * 4294967296 + P % 4294967296 = P by omega]) rfl]
  rfl
theorem mulF_far (x y P : Int) (below up : Bool) (h1 : 79228162514264337593543950336 ≤ P) (hx : x * y = if below then -P else P) : if below then mulF x y up < -9223372036854775808 else 9223372036854775807 < mulF x y up := by
  unfold mulF; rw [hx]
  cases below <;> cases up <;> simp <;> omega

theorem abs_mul (x y : Int) : (x.natAbs : Int) * (y.natAbs : Int) = ((x * y).natAbs : Int) := by
  rw [Int.natAbs_mul]; simp
theorem mul_sign (x y P : Int) (hP : (x.natAbs : Int) * (y.natAbs : Int) = P) : 0 ≤ P ∧ ((x < 0 ∧ y < 0) ∨ (0 ≤ x ∧ 0 ≤ y) → x * y = P) ∧ ((x < 0 ∧ 0 ≤ y) ∨ (0 ≤ x ∧ y < 0) → x * y = -P) := by
  refine ⟨by rw [← hP, abs_mul]; omega, ?_, ?_⟩
  · rintro (⟨h1, h2⟩ | ⟨h1, h2⟩)
    · have := Int.mul_nonneg (show 0 ≤ -x by omega) (show 0 ≤ -y by omega)
      rw [Int.neg_mul_neg] at this
      rw [← hP, abs_mul]; omega
    · have := Int.mul_nonneg h1 h2
      rw [← hP, abs_mul]; omega
  · rintro (⟨h1, h2⟩ | ⟨h1, h2⟩)
    · have := Int.mul_nonneg (show 0 ≤ -x by omega) h2
      rw [Int.neg_mul] at this
      rw [← hP, abs_mul]; omega
    · have := Int.mul_nonneg h1 (show 0 ≤ -y by omega)
      rw [Int.mul_neg] at this
      rw [← hP, abs_mul]; omega

set_option maxHeartbeats 600000 in
/-- Mul, the signs and the product of the sizes being known. -/
theorem mul_walk (p : Option Addr) (o up below bx by' : Bool) (x y P : Int) (w : World) (h : AccIs w p o) (x1 : -9223372036854775808 ≤ x) (x2 : x ≤ 9223372036854775807) (y1 : -9223372036854775808 ≤ y) (y2 : y ≤ 9223372036854775807)
    (h0 : 0 ≤ P) (hP : Hid (absF x * absF y = P)) (hxy : Hid (x * y = if below then -P else P))
    (hbx : decide (x < 0) = bx) (hby : decide (y < 0) = by') (hs : (bx != by') = below) :
    Calls Try.prog 85 #[.pointer p, .int .i64 x, .int .i64 y, .bool up] w (Tells w p o (mulF x y up)) := by
  have ax := absF_bd x x1 x2
  have ay := absF_bd y y1 y2
  by_cases hb : P < 79228162514264337593543950336
  · have hr := rnd_mul x y P below up h0 hxy.out
    have hz : (P / 18446744073709551616 / 4294967296 != 0) = false := by rw [show P / 18446744073709551616 / 4294967296 = 0 by omega]; rfl
    have HR : Hid (∀ w, AccIs w p o → Calls Try.prog 93 #[.pointer p, .int .u64 (bits .or .u64 (P / 18446744073709551616 * 4294967296) (P % 18446744073709551616 / 4294967296)), .bool (bits .and .u64 (P % 18446744073709551616) 4294967295 != 0), .bool below, .bool up] w (Tells w p o (mulF x y up))) := by
      intro w h; rw [← hr]; exact round_mul p o below up P w h h0 hb
    clear hr
    subst hs
    cases bx <;> cases by'
    all_goals
      go_enter Try.func85, Try.ntmps85
      go_wp2_with (first | (go_at_call 92; refine (sizeOf_any _ _ (by omega) (by omega)).mono ?_; rintro e w' ⟨rfl, rfl⟩) | (go_at_call 91; refine (product_is _ _ P _ (by omega) (by omega) (by omega) (by omega) hP).mono ?_; rintro e w' ⟨rfl, rfl⟩))
      refine Calls.mono (HR.out _ h) ?_
      intro e w2 ht
      obtain ⟨he, hw⟩ := ht
      subst he
      subst hw
      go_wp2
      go_ret
      exact ⟨rfl, rfl⟩
  · have hf := mulF_far x y P below up (by omega) hxy.out
    have hz : (P / 18446744073709551616 / 4294967296 != 0) = true := by rw [ne_dec]; simp; omega
    have HT : Hid (∀ w, Tells w p o (mulF x y up) (.returned (.int .i64 (endF below))) (accSet w p true)) := by
      intro w
      cases below
      · exact tells_hi (by simpa using hf)
      · exact tells_lo (by simpa using hf)
    clear hf hb
    subst hs
    cases bx <;> cases by'
    all_goals
      go_enter Try.func85, Try.ntmps85
      go_wp2_with (first | (go_at_call 92; refine (sizeOf_any _ _ (by omega) (by omega)).mono ?_; rintro e w' ⟨rfl, rfl⟩) | (go_at_call 91; refine (product_is _ _ P _ (by omega) (by omega) (by omega) (by omega) hP).mono ?_; rintro e w' ⟨rfl, rfl⟩) | (go_at_call 79; refine (end_any _ _ _ _ h).mono ?_; rintro e w' ⟨rfl, rfl⟩))
      go_ret
      exact HT.out _

theorem mul_any (p : Option Addr) (o up : Bool) (x y : Int) (w : World) (h : AccIs w p o) (x1 : -9223372036854775808 ≤ x) (x2 : x ≤ 9223372036854775807) (y1 : -9223372036854775808 ≤ y) (y2 : y ≤ 9223372036854775807) :
    Calls Try.prog 85 #[.pointer p, .int .i64 x, .int .i64 y, .bool up] w (Tells w p o (mulF x y up)) := by
  obtain ⟨h0, k1, k2⟩ := mul_sign x y _ rfl
  by_cases hx : x < 0 <;> by_cases hy : y < 0
  · exact mul_walk p o up false true true x y _ w h x1 x2 y1 y2 h0 rfl (by simpa [Hid] using k1 (.inl ⟨hx, hy⟩)) (by simp [hx]) (by simp [hy]) rfl
  · exact mul_walk p o up true true false x y _ w h x1 x2 y1 y2 h0 rfl (by simpa [Hid] using k2 (.inl ⟨hx, by omega⟩)) (by simp [hx]) (by simp; omega) rfl
  · exact mul_walk p o up true false true x y _ w h x1 x2 y1 y2 h0 rfl (by simpa [Hid] using k2 (.inr ⟨by omega, hy⟩)) (by simp; omega) (by simp [hy]) rfl
  · exact mul_walk p o up false false false x y _ w h x1 x2 y1 y2 h0 rfl (by simpa [Hid] using k1 (.inr ⟨by omega, by omega⟩)) (by simp; omega) (by simp; omega) rfl
end Go.Proofs.Ytjnnjjajlafchaa
