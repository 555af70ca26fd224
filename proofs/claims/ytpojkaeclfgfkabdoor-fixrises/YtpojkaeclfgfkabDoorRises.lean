/- FixRises: what is greater stays greater: the law's walk. Conditions: the library's own variables as they are laid. -/
import Derived.Test.YtpojkaeclfgfkabDoorSmall
namespace Go.Proofs.YtpojkaeclfgfkabDoor
open Go.RowKit
set_option linter.unusedVariables false

theorem mulF_mono {x y z : Int} (h : x ≤ y) (hz : 0 ≤ z) (up : Bool) : mulF x z up ≤ mulF y z up := by
  have := Int.mul_le_mul_of_nonneg_right h hz
  unfold mulF; split <;> omega
theorem mulF_anti {x y z : Int} (h : x ≤ y) (hz : z ≤ 0) (up : Bool) : mulF y z up ≤ mulF x z up := by
  have := Int.mul_le_mul_of_nonpos_right h hz
  unfold mulF; split <;> omega

/-- What the walk needs of the numbers, x being no greater than y. -/
structure Rise (x y z : Int) : Prop where
  h1 : clampF (x + z) ≤ clampF (y + z)
  h2 : clampF (x - z) ≤ clampF (y - z)
  h3 : clampF (z - y) ≤ clampF (z - x)
  h4 : clampF (-y) ≤ clampF (-x)
theorem rise {x y : Int} (z : Int) (h : x ≤ y) : Rise x y z := ⟨clampF_mono (by omega), clampF_mono (by omega), clampF_mono (by omega), clampF_mono (by omega)⟩

set_option maxHeartbeats 2000000 in
theorem rises_pos (x y z : Int) (w : World) (hm : MaxLenIs w) (ht : PowsAre w) (x1 : -9223372036854775808 ≤ x) (x2 : x ≤ 9223372036854775807) (y1 : -9223372036854775808 ≤ y) (y2 : y ≤ 9223372036854775807) (z1 : -9223372036854775808 ≤ z) (z2 : z ≤ 9223372036854775807) (h : x ≤ y) (hz : 0 ≤ z) :
    Calls Tryd.prog 8 #[.int .i64 x, .int .i64 y, .int .i64 z] w fun e w' => e = .returned (.bool true) ∧ Below w.heap.size w w' := by
  obtain ⟨f1, f2, f3, f4⟩ := rise (x := x) (y := y) z (by omega)
  have f5 := clampF_mono (mulF_mono (x := x) (y := y) (z := z) (by omega) (by omega) false)
  have f6 := clampF_mono (mulF_mono (x := x) (y := y) (z := z) (by omega) (by omega) true)
  have HM : Hid (MaxLenIs w ∧ PowsAre w) := ⟨hm, ht⟩
  have L := Live.make w w false (Below.refl _ w)
  clear hm ht
  go_enter Tryd.func8, Tryd.ntmps8
  go_wp2_with fail
  refine Calls.mono (add_two L _ (by simp) (by omega) (by omega) (by omega) (by omega)) ?_
  clear L
  rintro e W1 ⟨rfl, L, _⟩
  go_wp2_with fail
  refine Calls.mono (add_two L _ rfl (by omega) (by omega) (by omega) (by omega)) ?_
  clear L
  rintro e W1 ⟨rfl, L, _⟩
  go_wp2_with fail
  refine Calls.mono (sub_live L (by omega) (by omega) (by omega) (by omega)) ?_
  clear L
  rintro e W1 ⟨rfl, L, _⟩
  go_wp2_with fail
  refine Calls.mono (sub_live L (by omega) (by omega) (by omega) (by omega)) ?_
  clear L
  rintro e W1 ⟨rfl, L, _⟩
  go_wp2_with fail
  refine Calls.mono (sub_live L (by omega) (by omega) (by omega) (by omega)) ?_
  clear L
  rintro e W1 ⟨rfl, L, _⟩
  go_wp2_with fail
  refine Calls.mono (sub_live L (by omega) (by omega) (by omega) (by omega)) ?_
  clear L
  rintro e W1 ⟨rfl, L, _⟩
  go_wp2_with fail
  refine Calls.mono (neg_live L (by omega) (by omega)) ?_
  clear L
  rintro e W1 ⟨rfl, L, _⟩
  go_wp2_with fail
  refine Calls.mono (neg_live L (by omega) (by omega)) ?_
  clear L
  rintro e W1 ⟨rfl, L, _⟩
  go_wp2_with fail
  refine Calls.mono (alive_live L HM.out.1 HM.out.2) ?_
  clear L
  rintro e W1 ⟨rfl, L, _⟩
  go_wp2_with fail
  refine Calls.mono (mul_live L false (by omega) (by omega) (by omega) (by omega)) ?_
  clear L
  rintro e W1 ⟨rfl, L, _⟩
  go_wp2_with fail
  refine Calls.mono (mul_live L false (by omega) (by omega) (by omega) (by omega)) ?_
  clear L
  rintro e W1 ⟨rfl, L, _⟩
  go_wp2_with fail
  refine Calls.mono (mul_live L true (by omega) (by omega) (by omega) (by omega)) ?_
  clear L
  rintro e W1 ⟨rfl, L, _⟩
  go_wp2_with fail
  refine Calls.mono (mul_live L true (by omega) (by omega) (by omega) (by omega)) ?_
  clear L
  rintro e W1 ⟨rfl, L, _⟩
  go_wp2
  go_ret
  exact ⟨rfl, L.below⟩
set_option maxHeartbeats 2000000 in
theorem rises_neg (x y z : Int) (w : World) (hm : MaxLenIs w) (ht : PowsAre w) (x1 : -9223372036854775808 ≤ x) (x2 : x ≤ 9223372036854775807) (y1 : -9223372036854775808 ≤ y) (y2 : y ≤ 9223372036854775807) (z1 : -9223372036854775808 ≤ z) (z2 : z ≤ 9223372036854775807) (h : x ≤ y) (hz : z < 0) :
    Calls Tryd.prog 8 #[.int .i64 x, .int .i64 y, .int .i64 z] w fun e w' => e = .returned (.bool true) ∧ Below w.heap.size w w' := by
  obtain ⟨f1, f2, f3, f4⟩ := rise (x := x) (y := y) z (by omega)
  have f5 := clampF_mono (mulF_anti (x := x) (y := y) (z := z) (by omega) (by omega) false)
  have f6 := clampF_mono (mulF_anti (x := x) (y := y) (z := z) (by omega) (by omega) true)
  have HM : Hid (MaxLenIs w ∧ PowsAre w) := ⟨hm, ht⟩
  have L := Live.make w w false (Below.refl _ w)
  clear hm ht
  go_enter Tryd.func8, Tryd.ntmps8
  go_wp2_with fail
  refine Calls.mono (add_two L _ (by simp) (by omega) (by omega) (by omega) (by omega)) ?_
  clear L
  rintro e W1 ⟨rfl, L, _⟩
  go_wp2_with fail
  refine Calls.mono (add_two L _ rfl (by omega) (by omega) (by omega) (by omega)) ?_
  clear L
  rintro e W1 ⟨rfl, L, _⟩
  go_wp2_with fail
  refine Calls.mono (sub_live L (by omega) (by omega) (by omega) (by omega)) ?_
  clear L
  rintro e W1 ⟨rfl, L, _⟩
  go_wp2_with fail
  refine Calls.mono (sub_live L (by omega) (by omega) (by omega) (by omega)) ?_
  clear L
  rintro e W1 ⟨rfl, L, _⟩
  go_wp2_with fail
  refine Calls.mono (sub_live L (by omega) (by omega) (by omega) (by omega)) ?_
  clear L
  rintro e W1 ⟨rfl, L, _⟩
  go_wp2_with fail
  refine Calls.mono (sub_live L (by omega) (by omega) (by omega) (by omega)) ?_
  clear L
  rintro e W1 ⟨rfl, L, _⟩
  go_wp2_with fail
  refine Calls.mono (neg_live L (by omega) (by omega)) ?_
  clear L
  rintro e W1 ⟨rfl, L, _⟩
  go_wp2_with fail
  refine Calls.mono (neg_live L (by omega) (by omega)) ?_
  clear L
  rintro e W1 ⟨rfl, L, _⟩
  go_wp2_with fail
  refine Calls.mono (alive_live L HM.out.1 HM.out.2) ?_
  clear L
  rintro e W1 ⟨rfl, L, _⟩
  go_wp2_with fail
  refine Calls.mono (mul_live L false (by omega) (by omega) (by omega) (by omega)) ?_
  clear L
  rintro e W1 ⟨rfl, L, _⟩
  go_wp2_with fail
  refine Calls.mono (mul_live L false (by omega) (by omega) (by omega) (by omega)) ?_
  clear L
  rintro e W1 ⟨rfl, L, _⟩
  go_wp2_with fail
  refine Calls.mono (mul_live L true (by omega) (by omega) (by omega) (by omega)) ?_
  clear L
  rintro e W1 ⟨rfl, L, _⟩
  go_wp2_with fail
  refine Calls.mono (mul_live L true (by omega) (by omega) (by omega) (by omega)) ?_
  clear L
  rintro e W1 ⟨rfl, L, _⟩
  go_wp2
  go_ret
  exact ⟨rfl, L.below⟩
set_option maxHeartbeats 2000000 in
theorem rises_pos_turned (x y z : Int) (w : World) (hm : MaxLenIs w) (ht : PowsAre w) (x1 : -9223372036854775808 ≤ x) (x2 : x ≤ 9223372036854775807) (y1 : -9223372036854775808 ≤ y) (y2 : y ≤ 9223372036854775807) (z1 : -9223372036854775808 ≤ z) (z2 : z ≤ 9223372036854775807) (h : y < x) (hz : 0 ≤ z) :
    Calls Tryd.prog 8 #[.int .i64 x, .int .i64 y, .int .i64 z] w fun e w' => e = .returned (.bool true) ∧ Below w.heap.size w w' := by
  obtain ⟨f1, f2, f3, f4⟩ := rise (x := y) (y := x) z (by omega)
  have f5 := clampF_mono (mulF_mono (x := y) (y := x) (z := z) (by omega) (by omega) false)
  have f6 := clampF_mono (mulF_mono (x := y) (y := x) (z := z) (by omega) (by omega) true)
  have HM : Hid (MaxLenIs w ∧ PowsAre w) := ⟨hm, ht⟩
  have L := Live.make w w false (Below.refl _ w)
  clear hm ht
  go_enter Tryd.func8, Tryd.ntmps8
  go_wp2_with fail
  refine Calls.mono (add_two L _ (by simp) (by omega) (by omega) (by omega) (by omega)) ?_
  clear L
  rintro e W1 ⟨rfl, L, _⟩
  go_wp2_with fail
  refine Calls.mono (add_two L _ rfl (by omega) (by omega) (by omega) (by omega)) ?_
  clear L
  rintro e W1 ⟨rfl, L, _⟩
  go_wp2_with fail
  refine Calls.mono (sub_live L (by omega) (by omega) (by omega) (by omega)) ?_
  clear L
  rintro e W1 ⟨rfl, L, _⟩
  go_wp2_with fail
  refine Calls.mono (sub_live L (by omega) (by omega) (by omega) (by omega)) ?_
  clear L
  rintro e W1 ⟨rfl, L, _⟩
  go_wp2_with fail
  refine Calls.mono (sub_live L (by omega) (by omega) (by omega) (by omega)) ?_
  clear L
  rintro e W1 ⟨rfl, L, _⟩
  go_wp2_with fail
  refine Calls.mono (sub_live L (by omega) (by omega) (by omega) (by omega)) ?_
  clear L
  rintro e W1 ⟨rfl, L, _⟩
  go_wp2_with fail
  refine Calls.mono (neg_live L (by omega) (by omega)) ?_
  clear L
  rintro e W1 ⟨rfl, L, _⟩
  go_wp2_with fail
  refine Calls.mono (neg_live L (by omega) (by omega)) ?_
  clear L
  rintro e W1 ⟨rfl, L, _⟩
  go_wp2_with fail
  refine Calls.mono (alive_live L HM.out.1 HM.out.2) ?_
  clear L
  rintro e W1 ⟨rfl, L, _⟩
  go_wp2_with fail
  refine Calls.mono (mul_live L false (by omega) (by omega) (by omega) (by omega)) ?_
  clear L
  rintro e W1 ⟨rfl, L, _⟩
  go_wp2_with fail
  refine Calls.mono (mul_live L false (by omega) (by omega) (by omega) (by omega)) ?_
  clear L
  rintro e W1 ⟨rfl, L, _⟩
  go_wp2_with fail
  refine Calls.mono (mul_live L true (by omega) (by omega) (by omega) (by omega)) ?_
  clear L
  rintro e W1 ⟨rfl, L, _⟩
  go_wp2_with fail
  refine Calls.mono (mul_live L true (by omega) (by omega) (by omega) (by omega)) ?_
  clear L
  rintro e W1 ⟨rfl, L, _⟩
  go_wp2
  go_ret
  exact ⟨rfl, L.below⟩
set_option maxHeartbeats 2000000 in
theorem rises_neg_turned (x y z : Int) (w : World) (hm : MaxLenIs w) (ht : PowsAre w) (x1 : -9223372036854775808 ≤ x) (x2 : x ≤ 9223372036854775807) (y1 : -9223372036854775808 ≤ y) (y2 : y ≤ 9223372036854775807) (z1 : -9223372036854775808 ≤ z) (z2 : z ≤ 9223372036854775807) (h : y < x) (hz : z < 0) :
    Calls Tryd.prog 8 #[.int .i64 x, .int .i64 y, .int .i64 z] w fun e w' => e = .returned (.bool true) ∧ Below w.heap.size w w' := by
  obtain ⟨f1, f2, f3, f4⟩ := rise (x := y) (y := x) z (by omega)
  have f5 := clampF_mono (mulF_anti (x := y) (y := x) (z := z) (by omega) (by omega) false)
  have f6 := clampF_mono (mulF_anti (x := y) (y := x) (z := z) (by omega) (by omega) true)
  have HM : Hid (MaxLenIs w ∧ PowsAre w) := ⟨hm, ht⟩
  have L := Live.make w w false (Below.refl _ w)
  clear hm ht
  go_enter Tryd.func8, Tryd.ntmps8
  go_wp2_with fail
  refine Calls.mono (add_two L _ (by simp) (by omega) (by omega) (by omega) (by omega)) ?_
  clear L
  rintro e W1 ⟨rfl, L, _⟩
  go_wp2_with fail
  refine Calls.mono (add_two L _ rfl (by omega) (by omega) (by omega) (by omega)) ?_
  clear L
  rintro e W1 ⟨rfl, L, _⟩
  go_wp2_with fail
  refine Calls.mono (sub_live L (by omega) (by omega) (by omega) (by omega)) ?_
  clear L
  rintro e W1 ⟨rfl, L, _⟩
  go_wp2_with fail
  refine Calls.mono (sub_live L (by omega) (by omega) (by omega) (by omega)) ?_
  clear L
  rintro e W1 ⟨rfl, L, _⟩
  go_wp2_with fail
  refine Calls.mono (sub_live L (by omega) (by omega) (by omega) (by omega)) ?_
  clear L
  rintro e W1 ⟨rfl, L, _⟩
  go_wp2_with fail
  refine Calls.mono (sub_live L (by omega) (by omega) (by omega) (by omega)) ?_
  clear L
  rintro e W1 ⟨rfl, L, _⟩
  go_wp2_with fail
  refine Calls.mono (neg_live L (by omega) (by omega)) ?_
  clear L
  rintro e W1 ⟨rfl, L, _⟩
  go_wp2_with fail
  refine Calls.mono (neg_live L (by omega) (by omega)) ?_
  clear L
  rintro e W1 ⟨rfl, L, _⟩
  go_wp2_with fail
  refine Calls.mono (alive_live L HM.out.1 HM.out.2) ?_
  clear L
  rintro e W1 ⟨rfl, L, _⟩
  go_wp2_with fail
  refine Calls.mono (mul_live L false (by omega) (by omega) (by omega) (by omega)) ?_
  clear L
  rintro e W1 ⟨rfl, L, _⟩
  go_wp2_with fail
  refine Calls.mono (mul_live L false (by omega) (by omega) (by omega) (by omega)) ?_
  clear L
  rintro e W1 ⟨rfl, L, _⟩
  go_wp2_with fail
  refine Calls.mono (mul_live L true (by omega) (by omega) (by omega) (by omega)) ?_
  clear L
  rintro e W1 ⟨rfl, L, _⟩
  go_wp2_with fail
  refine Calls.mono (mul_live L true (by omega) (by omega) (by omega) (by omega)) ?_
  clear L
  rintro e W1 ⟨rfl, L, _⟩
  go_wp2
  go_ret
  exact ⟨rfl, L.below⟩

theorem rises_any (x y z : Int) (w : World) (hm : MaxLenIs w) (ht : PowsAre w) (x1 : -9223372036854775808 ≤ x) (x2 : x ≤ 9223372036854775807) (y1 : -9223372036854775808 ≤ y) (y2 : y ≤ 9223372036854775807) (z1 : -9223372036854775808 ≤ z) (z2 : z ≤ 9223372036854775807) :
    Calls Tryd.prog 8 #[.int .i64 x, .int .i64 y, .int .i64 z] w fun e w' => e = .returned (.bool true) ∧ Below w.heap.size w w' := by
  by_cases h : x ≤ y <;> by_cases hz : 0 ≤ z
  · exact rises_pos x y z w hm ht x1 x2 y1 y2 z1 z2 h hz
  · exact rises_neg x y z w hm ht x1 x2 y1 y2 z1 z2 h (by omega)
  · exact rises_pos_turned x y z w hm ht x1 x2 y1 y2 z1 z2 (by omega) hz
  · exact rises_neg_turned x y z w hm ht x1 x2 y1 y2 z1 z2 (by omega) (by omega)
end Go.Proofs.YtpojkaeclfgfkabDoor
