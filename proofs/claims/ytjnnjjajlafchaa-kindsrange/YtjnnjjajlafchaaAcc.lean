/- The contracts of fix's Acc: round, Mul, byNought, Div, Add, Sub, Neg: each tells the exact number kept at its ends, and remembers whether it stayed there. Conditions: the numbers' own ranges; of Add at most 1000000 numbers. -/
import Derived.Test.YtjnnjjajlafchaaEnds
namespace Go.Proofs.Ytjnnjjajlafchaa
open Go.RowKit
set_option linter.unusedVariables false
set_option maxRecDepth 100000

/-- How a method of an Acc ends: it tells the number v kept at its ends, and remembers. -/
def Tells (w : World) (p : Option Addr) (o : Bool) (v : Int) (e : Ending) (w' : World) : Prop := e = .returned (.int .i64 (clampF v)) ∧ w' = accSet w p (o || overF v)
theorem tells_in {w : World} {p : Option Addr} {o : Bool} {v x : Int} (h : AccIs w p o) (h1 : -9223372036854775808 ≤ v) (h2 : v ≤ 9223372036854775807) (hx : x = v) : Tells w p o v (.returned (.int .i64 x)) w := by
  subst hx
  refine ⟨by rw [clampF_in h1 h2], ?_⟩
  rw [overF_in h1 h2, Bool.or_false, accSet_self h]
theorem tells_hi {w : World} {p : Option Addr} {o : Bool} {v : Int} (h : 9223372036854775807 < v) : Tells w p o v (.returned (.int .i64 (endF false))) (accSet w p true) :=
  ⟨by rw [clampF_hi h]; rfl, by rw [overF_hi h, Bool.or_true]⟩
theorem tells_lo {w : World} {p : Option Addr} {o : Bool} {v : Int} (h : v < -9223372036854775808) : Tells w p o v (.returned (.int .i64 (endF true))) (accSet w p true) :=
  ⟨by rw [clampF_lo h]; rfl, by rw [overF_lo h, Bool.or_true]⟩

set_option maxHeartbeats 1000000 in
theorem round_above (p : Option Addr) (o cut up : Bool) (s : Int) (w : World) (h : AccIs w p o) (h1 : 0 ≤ s) (h2 : s < 18446744073709551616) :
    Calls Try.prog 93 #[.pointer p, .int .u64 s, .bool cut, .bool false, .bool up] w (Tells w p o (rnd s cut false up)) := by
  by_cases hk : cut = true ∧ up = true
  · obtain ⟨rfl, rfl⟩ := hk
    have hr : Hid (rnd s true false true = s + 1) := by simp [rnd, Hid]
    by_cases hs : s + 1 < 9223372036854775808
    · have hs' : s ≤ 9223372036854775808 := by omega
      go_enter Try.func93, Try.ntmps93
      go_wp2_with (go_at_call 95; refine (signed_above _ _ (by omega) (by omega)).mono ?_; rintro e w' ⟨rfl, rfl⟩)
      go_ret
      exact tells_in h (by rw [hr.out]; omega) (by rw [hr.out]; omega) hr.out.symm
    · by_cases hs' : s ≤ 9223372036854775808
      all_goals
        go_enter Try.func93, Try.ntmps93
        go_wp2_with (first | (go_at_call 95; refine (signed_above_no _ _ (by omega) (by omega)).mono ?_; rintro e w' ⟨rfl, rfl⟩) | (go_at_call 79; refine (end_any _ _ _ _ h).mono ?_; rintro e w' ⟨rfl, rfl⟩))
        go_ret
        exact tells_hi (by rw [hr.out]; omega)
  · have hr : Hid (rnd s cut false up = s) := by revert hk; cases cut <;> cases up <;> simp [rnd, Hid]
    have hk' : (cut = false ∧ up = false) ∨ (cut = false ∧ up = true) ∨ (cut = true ∧ up = false) := by revert hk; cases cut <;> cases up <;> simp
    clear hk
    by_cases hs : s < 9223372036854775808
    · rcases hk' with ⟨rfl, rfl⟩ | ⟨rfl, rfl⟩ | ⟨rfl, rfl⟩
      all_goals
        go_enter Try.func93, Try.ntmps93
        go_wp2_with (go_at_call 95; refine (signed_above _ _ (by omega) (by omega)).mono ?_; rintro e w' ⟨rfl, rfl⟩)
        go_ret
        exact tells_in h (by rw [hr.out]; omega) (by rw [hr.out]; omega) hr.out.symm
    · rcases hk' with ⟨rfl, rfl⟩ | ⟨rfl, rfl⟩ | ⟨rfl, rfl⟩
      all_goals
        go_enter Try.func93, Try.ntmps93
        go_wp2_with (first | (go_at_call 95; refine (signed_above_no _ _ (by omega) (by omega)).mono ?_; rintro e w' ⟨rfl, rfl⟩) | (go_at_call 79; refine (end_any _ _ _ _ h).mono ?_; rintro e w' ⟨rfl, rfl⟩))
        go_ret
        exact tells_hi (by rw [hr.out]; omega)
set_option maxHeartbeats 1000000 in
theorem round_below (p : Option Addr) (o cut up : Bool) (s : Int) (w : World) (h : AccIs w p o) (h1 : 0 ≤ s) (h2 : s < 18446744073709551616) :
    Calls Try.prog 93 #[.pointer p, .int .u64 s, .bool cut, .bool true, .bool up] w (Tells w p o (rnd s cut true up)) := by
  by_cases hk : cut = true ∧ up = false
  · obtain ⟨rfl, rfl⟩ := hk
    have hr : Hid (rnd s true true false = -(s + 1)) := by simp [rnd, Hid]
    by_cases hs : s + 1 ≤ 9223372036854775808
    · have hs' : s ≤ 9223372036854775808 := by omega
      go_enter Try.func93, Try.ntmps93
      go_wp2_with (go_at_call 95; refine (signed_below _ _ (by omega) (by omega)).mono ?_; rintro e w' ⟨rfl, rfl⟩)
      go_ret
      exact tells_in h (by rw [hr.out]; omega) (by rw [hr.out]; omega) hr.out.symm
    · by_cases hs' : s ≤ 9223372036854775808
      all_goals
        go_enter Try.func93, Try.ntmps93
        go_wp2_with (first | (go_at_call 95; refine (signed_below_no _ _ (by omega) (by omega)).mono ?_; rintro e w' ⟨rfl, rfl⟩) | (go_at_call 79; refine (end_any _ _ _ _ h).mono ?_; rintro e w' ⟨rfl, rfl⟩))
        go_ret
        exact tells_lo (by rw [hr.out]; omega)
  · have hr : Hid (rnd s cut true up = -s) := by revert hk; cases cut <;> cases up <;> simp [rnd, Hid]
    have hk' : (cut = false ∧ up = false) ∨ (cut = false ∧ up = true) ∨ (cut = true ∧ up = true) := by revert hk; cases cut <;> cases up <;> simp
    clear hk
    by_cases hs : s ≤ 9223372036854775808
    · rcases hk' with ⟨rfl, rfl⟩ | ⟨rfl, rfl⟩ | ⟨rfl, rfl⟩
      all_goals
        go_enter Try.func93, Try.ntmps93
        go_wp2_with (go_at_call 95; refine (signed_below _ _ (by omega) (by omega)).mono ?_; rintro e w' ⟨rfl, rfl⟩)
        go_ret
        exact tells_in h (by rw [hr.out]; omega) (by rw [hr.out]; omega) hr.out.symm
    · rcases hk' with ⟨rfl, rfl⟩ | ⟨rfl, rfl⟩ | ⟨rfl, rfl⟩
      all_goals
        go_enter Try.func93, Try.ntmps93
        go_wp2_with (first | (go_at_call 95; refine (signed_below_no _ _ (by omega) (by omega)).mono ?_; rintro e w' ⟨rfl, rfl⟩) | (go_at_call 79; refine (end_any _ _ _ _ h).mono ?_; rintro e w' ⟨rfl, rfl⟩))
        go_ret
        exact tells_lo (by rw [hr.out]; omega)
theorem round_any (p : Option Addr) (o cut below up : Bool) (s : Int) (w : World) (h : AccIs w p o) (h1 : 0 ≤ s) (h2 : s < 18446744073709551616) :
    Calls Try.prog 93 #[.pointer p, .int .u64 s, .bool cut, .bool below, .bool up] w (Tells w p o (rnd s cut below up)) := by
  cases below
  · exact round_above p o cut up s w h h1 h2
  · exact round_below p o cut up s w h h1 h2
end Go.Proofs.Ytjnnjjajlafchaa
