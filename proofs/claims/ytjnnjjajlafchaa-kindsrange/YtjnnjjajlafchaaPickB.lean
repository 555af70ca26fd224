/- The greatest, the least, what is kept between two: the contracts of fix's Max, Min, Clamp. Conditions: the slice's own length. -/
import Derived.Test.YtjnnjjajlafchaaInts
import Derived.Test.YtjnnjjajlafchaaShelf2
namespace Go.Proofs.Ytjnnjjajlafchaa
open Go.RowKit
set_option linter.unusedVariables false
set_option maxRecDepth 100000

set_option maxHeartbeats 400000 in
theorem max_any (a : Option Addr) (zs : List Int) (cap : Nat) (w : World) (h : IntRow w a zs) (hl : zs.length ≤ 9223372036854775807) :
    Calls Try.prog 78 #[.slice a zs.length cap] w fun e w' => e = .returned (.int .i64 (Lib.maxOf zs)) ∧ w' = w := by
  by_cases h0 : zs.length = 0
  · obtain rfl : zs = [] := List.length_eq_zero_iff.1 h0
    clear h h0
    go_enter Try.func78, Try.ntmps78
    go_wp2
    go_ret
    exact ⟨rfl, rfl⟩
  · obtain ⟨b, off, rfl, hc⟩ := h.at (by omega)
    have HM : Hid (∀ w' : World, w' = w → Calls Try.prog 86 #[.slice (some ⟨b, off, none⟩) zs.length cap] w' fun e w'' => e = .returned (.int .i64 (Lib.maxOf zs)) ∧ w'' = w') := by
      rintro w' rfl
      have := Try.slices_Max_int b off zs.length cap zs w' (by omega) (Nat.le_refl _) hl hc
      rw [List.take_length] at this; exact this
    have hne : ((zs.length : Int) == 0) = false := by rw [beq_eq_false_iff_ne]; omega
    clear h hc
    go_enter Try.func78, Try.ntmps78
    go_wp2_with fail
    refine Calls.mono (HM.out _ rfl) ?_
    rintro e w' ⟨rfl, hw⟩
    subst hw
    go_wp2
    go_ret
    exact ⟨rfl, rfl⟩
set_option maxHeartbeats 400000 in
theorem min_any (a : Option Addr) (zs : List Int) (cap : Nat) (w : World) (h : IntRow w a zs) (hl : zs.length ≤ 9223372036854775807) :
    Calls Try.prog 76 #[.slice a zs.length cap] w fun e w' => e = .returned (.int .i64 (Lib.minOf zs)) ∧ w' = w := by
  by_cases h0 : zs.length = 0
  · obtain rfl : zs = [] := List.length_eq_zero_iff.1 h0
    clear h h0
    go_enter Try.func76, Try.ntmps76
    go_wp2
    go_ret
    exact ⟨rfl, rfl⟩
  · obtain ⟨b, off, rfl, hc⟩ := h.at (by omega)
    have HM : Hid (∀ w' : World, w' = w → Calls Try.prog 84 #[.slice (some ⟨b, off, none⟩) zs.length cap] w' fun e w'' => e = .returned (.int .i64 (Lib.minOf zs)) ∧ w'' = w') := by
      rintro w' rfl
      have := Try.slices_Min_int b off zs.length cap zs w' (by omega) (Nat.le_refl _) hl hc
      rw [List.take_length] at this; exact this
    have hne : ((zs.length : Int) == 0) = false := by rw [beq_eq_false_iff_ne]; omega
    clear h hc
    go_enter Try.func76, Try.ntmps76
    go_wp2_with fail
    refine Calls.mono (HM.out _ rfl) ?_
    rintro e w' ⟨rfl, hw⟩
    subst hw
    go_wp2
    go_ret
    exact ⟨rfl, rfl⟩

/-- hi, if x is above hi; else lo, if x is below lo; else x. -/
def keepF (x lo hi : Int) : Int := if hi < x then hi else if x < lo then lo else x
end Go.Proofs.Ytjnnjjajlafchaa
