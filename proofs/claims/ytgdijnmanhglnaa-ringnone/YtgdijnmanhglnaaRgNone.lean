/- RingNone: the law's walk. Conditions: none. -/
import Derived.Test.YtgdijnmanhglnaaRgNoneT4
import Derived.Deep.RegionHeld3
namespace Go.Proofs.Ytgdijnmanhglnaa
open Go.RowKit
set_option linter.unusedVariables false
set_option maxRecDepth 100000
set_option maxHeartbeats 4000000 in
theorem none_any (n : Int) (w : World) : Calls Try.prog 5 #[.int .i64 n] w fun e w' => e = .returned (.bool true) ∧ Below w.heap.size w w' := by
  go_enter Try.func5, Try.ntmps5
  go_wp2_with fail
  refine Calls.mono (push_nil _ _ _ _) ?_
  rintro e W1 ⟨rfl, hw⟩
  have Z1 : Hid (Zeros w W1 w.heap.size (w.heap.size + 1) (w.heap.size + 1 + 1)) := by rw [hw]; first | exact (zeros_made w).stays ((Below.refl _ _).alloc (Nat.le_refl _) _) | exact zeros_made w
  clear hw
  go_wp2_with fail
  refine Calls.mono (push_zero (Z1.out.stays ((Below.refl _ _).alloc (Nat.le_refl _) _)).b0 _ _ _) ?_
  rintro e W2 ⟨rfl, hw⟩
  have Z2 : Hid (Zeros w W2 w.heap.size (w.heap.size + 1) (w.heap.size + 1 + 1)) := by rw [hw]; first | exact (Z1.out).stays ((Below.refl _ _).alloc (Nat.le_refl _) _) | exact Z1.out
  clear hw Z1
  go_wp2_with fail
  refine Calls.mono (tpush_nil _ _ _ _) ?_
  rintro e W3 ⟨rfl, hw⟩
  have Z3 : Hid (Zeros w W3 w.heap.size (w.heap.size + 1) (w.heap.size + 1 + 1)) := by rw [hw]; first | exact (Z2.out).stays ((Below.refl _ _).alloc (Nat.le_refl _) _) | exact Z2.out
  clear hw Z2
  go_wp2_with fail
  refine Calls.mono (tpush_zero (Z3.out.stays ((Below.refl _ _).alloc (Nat.le_refl _) _)) _ _) ?_
  rintro e W4 ⟨rfl, hz⟩
  have Z4 : Hid (Zeros w W4 w.heap.size (w.heap.size + 1) (w.heap.size + 1 + 1)) := hz
  clear hz Z3
  have u0 := Z4.out.u0
  go_wp2_with fail
  clear u0
  refine Calls.mono (clear_nil _) ?_
  rintro e W5 ⟨rfl, hw⟩
  have Z5 : Hid (Zeros w W5 w.heap.size (w.heap.size + 1) (w.heap.size + 1 + 1)) := by rw [hw]; first | exact (Z4.out).stays ((Below.refl _ _).alloc (Nat.le_refl _) _) | exact Z4.out
  clear hw Z4
  go_wp2_with fail
  refine Calls.mono (tclear_nil _) ?_
  rintro e W6 ⟨rfl, hw⟩
  have Z6 : Hid (Zeros w W6 w.heap.size (w.heap.size + 1) (w.heap.size + 1 + 1)) := by rw [hw]; first | exact (Z5.out).stays ((Below.refl _ _).alloc (Nat.le_refl _) _) | exact Z5.out
  clear hw Z5
  go_wp2_with fail
  refine Calls.mono (tclear_zero Z6.out) ?_
  rintro e W7 ⟨rfl, hz⟩
  have Z7 : Hid (Zeros w W7 w.heap.size (w.heap.size + 1) (w.heap.size + 1 + 1)) := hz
  clear hz Z6
  have u0 := Z7.out.u0
  go_wp2_with fail
  clear u0
  refine Calls.mono (zero_nil _) ?_
  rintro e W8 ⟨rfl, hw⟩
  have Z8 : Hid (Zeros w W8 w.heap.size (w.heap.size + 1) (w.heap.size + 1 + 1)) := by rw [hw]; first | exact (Z7.out).stays ((Below.refl _ _).alloc (Nat.le_refl _) _) | exact Z7.out
  clear hw Z7
  go_wp2_with fail
  refine Calls.mono (ago_nil _ _) ?_
  rintro e W9 ⟨rfl, hw⟩
  have Z9 : Hid (Zeros w W9 w.heap.size (w.heap.size + 1) (w.heap.size + 1 + 1)) := by rw [hw]; first | exact (Z8.out).stays ((Below.refl _ _).alloc (Nat.le_refl _) _) | exact Z8.out
  clear hw Z8
  have u0 := Z9.out.u0
  go_wp2_with fail
  refine Calls.mono (ago_zero Z9.out.b2 _) ?_
  rintro e W10 ⟨rfl, hw⟩
  have Z10 : Hid (Zeros w W10 w.heap.size (w.heap.size + 1) (w.heap.size + 1 + 1)) := by rw [hw]; first | exact (Z9.out).stays ((Below.refl _ _).alloc (Nat.le_refl _) _) | exact Z9.out
  clear hw Z9
  clear u0
  have u0 := Z10.out.u0
  go_wp2_with fail
  refine Calls.mono (ago_nil _ _) ?_
  rintro e W11 ⟨rfl, hw⟩
  have Z11 : Hid (Zeros w W11 w.heap.size (w.heap.size + 1) (w.heap.size + 1 + 1)) := by rw [hw]; first | exact (Z10.out).stays ((Below.refl _ _).alloc (Nat.le_refl _) _) | exact Z10.out
  clear hw Z10
  go_wp2_with fail
  clear u0
  refine Calls.mono (tmax_nil _) ?_
  rintro e W12 ⟨rfl, hw⟩
  have Z12 : Hid (Zeros w W12 w.heap.size (w.heap.size + 1) (w.heap.size + 1 + 1)) := by rw [hw]; first | exact (Z11.out).stays ((Below.refl _ _).alloc (Nat.le_refl _) _) | exact Z11.out
  clear hw Z11
  go_wp2_with fail
  refine Calls.mono (tmin_zero Z12.out) ?_
  rintro e W13 ⟨rfl, hz⟩
  have Z13 : Hid (Zeros w W13 w.heap.size (w.heap.size + 1) (w.heap.size + 1 + 1)) := hz
  clear hz Z12
  have u0 := Z13.out.u0
  go_wp2_with fail
  clear u0
  refine none_tail w _ _ _ _ _ _ _ _ _ _ _ _ _ _ _ _ _ _ _ _ _ _ _ _ _ _ _ _ _ _ _ _ _ _ _ _ _ _ _ _ _ _ _ _ _ _ _ _ _ _ _ _ _ _ _ _ _ _ _ _ _ _ _ _ _ _ _ _ _ _ _ _ _ _ _ _ _ _ _ _ _ _ _ _ _ _ _ _ _ _ _ _ _ _ _ _ _ _ _ _ _ _ _ _ _ _ _ _ _ _ _ _ _ _ _ _ _ _ _ _ _ _ _ _ _ _ _ _ _ _ _ (fun c a dd vv w h => by cases dd <;> exact h) Z13.out ?_
  intro X g46 g50 Z
  have HB : Hid (Below w.heap.size w X) := Z.bel
  clear Z
  go_wp2
  go_ret
  exact ⟨rfl, HB.out⟩
end Go.Proofs.Ytgdijnmanhglnaa
