/- The greatest, the least, what is kept between two: the contracts of fix's Max, Min, Clamp. Conditions: the slice's own length. -/
import Derived.Test.YthnhlgiibiephabInts
import Derived.Test.YthnhlgiibiephabShelf2
namespace Go.Proofs.Ythnhlgiibiephab
open Go.RowKit
set_option linter.unusedVariables false
set_option maxRecDepth 100000

set_option maxHeartbeats 400000 in
theorem max_any (a : Option Addr) (zs : List Int) (cap : Nat) (w : World) (h : IntRow w a zs) (hl : zs.length ≤ 9223372036854775807) :
    Calls Try.prog 29 #[.slice a zs.length cap] w fun e w' => e = .returned (.int .i64 (Lib.maxOf zs)) ∧ w' = w := by
  by_cases h0 : zs.length = 0
  · obtain rfl : zs = [] := List.length_eq_zero_iff.1 h0
    clear h h0
    go_enter Try.func29, Try.ntmps29
    go_wp2
    go_ret
    exact ⟨rfl, rfl⟩
  · obtain ⟨b, off, rfl, hc⟩ := h.at (by omega)
    have HM : Hid (∀ w' : World, w' = w → Calls Try.prog 39 #[.slice (some ⟨b, off, none⟩) zs.length cap] w' fun e w'' => e = .returned (.int .i64 (Lib.maxOf zs)) ∧ w'' = w') := by
      rintro w' rfl
      have := Try.slices_Max_int b off zs.length cap zs w' (by omega) (Nat.le_refl _) hl hc
      rw [List.take_length] at this; exact this
    have hne : ((zs.length : Int) == 0) = false := by rw [beq_eq_false_iff_ne]; omega
    clear h hc
    go_enter Try.func29, Try.ntmps29
    go_wp2_with fail
    refine Calls.mono (HM.out _ rfl) ?_
    rintro e w' ⟨rfl, hw⟩
    subst hw
    go_wp2
    go_ret
    exact ⟨rfl, rfl⟩
set_option maxHeartbeats 400000 in
theorem min_any (a : Option Addr) (zs : List Int) (cap : Nat) (w : World) (h : IntRow w a zs) (hl : zs.length ≤ 9223372036854775807) :
    Calls Try.prog 30 #[.slice a zs.length cap] w fun e w' => e = .returned (.int .i64 (Lib.minOf zs)) ∧ w' = w := by
  by_cases h0 : zs.length = 0
  · obtain rfl : zs = [] := List.length_eq_zero_iff.1 h0
    clear h h0
    go_enter Try.func30, Try.ntmps30
    go_wp2
    go_ret
    exact ⟨rfl, rfl⟩
  · obtain ⟨b, off, rfl, hc⟩ := h.at (by omega)
    have HM : Hid (∀ w' : World, w' = w → Calls Try.prog 40 #[.slice (some ⟨b, off, none⟩) zs.length cap] w' fun e w'' => e = .returned (.int .i64 (Lib.minOf zs)) ∧ w'' = w') := by
      rintro w' rfl
      have := Try.slices_Min_int b off zs.length cap zs w' (by omega) (Nat.le_refl _) hl hc
      rw [List.take_length] at this; exact this
    have hne : ((zs.length : Int) == 0) = false := by rw [beq_eq_false_iff_ne]; omega
    clear h hc
    go_enter Try.func30, Try.ntmps30
    go_wp2_with fail
    refine Calls.mono (HM.out _ rfl) ?_
    rintro e w' ⟨rfl, hw⟩
    subst hw
    go_wp2
    go_ret
    exact ⟨rfl, rfl⟩

/-- hi, if x is above hi; else lo, if x is below lo; else x. -/
def keepF (x lo hi : Int) : Int := if hi < x then hi else if x < lo then lo else x
set_option maxHeartbeats 400000 in
theorem clamp_any (x lo hi : Int) (w : World) : Calls Try.prog 18 #[.int .i64 x, .int .i64 lo, .int .i64 hi] w fun e w' => e = .returned (.int .i64 (keepF x lo hi)) ∧ w' = w := by
  by_cases h1 : hi < x
  · have H : Hid (keepF x lo hi = hi) := by simp [Hid, keepF, h1]
    go_enter Try.func18, Try.ntmps18
    go_wp2
    go_ret
    exact ⟨ret_int H.out.symm, rfl⟩
  · by_cases h2 : x < lo
    · have H : Hid (keepF x lo hi = lo) := by simp [Hid, keepF, h1, h2]
      go_enter Try.func18, Try.ntmps18
      go_wp2
      go_ret
      exact ⟨ret_int H.out.symm, rfl⟩
    · have H : Hid (keepF x lo hi = x) := by simp [Hid, keepF, h1, h2]
      go_enter Try.func18, Try.ntmps18
      go_wp2
      go_ret
      exact ⟨ret_int H.out.symm, rfl⟩
end Go.Proofs.Ythnhlgiibiephab
