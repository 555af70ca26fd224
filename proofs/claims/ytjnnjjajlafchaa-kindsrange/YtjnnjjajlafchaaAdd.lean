/- The contract of fix's Add: the exact sum of all, kept at its ends. Conditions: at most 1000000 numbers, each an int. -/
import Derived.Test.YtjnnjjajlafchaaAcc
namespace Go.Proofs.Ytjnnjjajlafchaa
open Go.RowKit
set_option linter.unusedVariables false
set_option maxRecDepth 100000

/-- A slice's numbers in memory. -/
def IntRow (w : World) (a : Option Addr) (zs : List Int) : Prop := ∀ i, i < zs.length → ∃ b off, a = some ⟨b, off, none⟩ ∧ w.cell? ⟨b, off + i, none⟩ = some (.int .i64 (zs.getD i 0))

set_option maxHeartbeats 400000 in
theorem add_any (p : Option Addr) (o : Bool) (a : Option Addr) (zs : List Int) (cap : Nat) (w : World) (h : AccIs w p o) (hz : IntRow w a zs) (hb : Fits zs) (hl : zs.length ≤ 1000000) :
    Calls Try.prog 66 #[.pointer p, .slice a zs.length cap] w (Tells w p o (sumL zs)) := by
  go_enter Try.func66, Try.ntmps66
  go_wp2
  go_loop [5, 6, 11] (fun hi lo i => ∃ k : Nat, k ≤ zs.length ∧ i = .int .i64 k ∧ ∃ H L : Int, hi = .int .i64 H ∧ lo = .int .i64 L ∧ 0 ≤ L ∧ L < 4294967296 ∧ -(2147483649 * (k : Int)) ≤ H ∧ H ≤ 2147483649 * (k : Int) ∧ H * 4294967296 + L = sumL (zs.take k)) (fun _ _ i => zs.length - (intOf i).toNat)
  case atStart => exact ⟨0, Nat.zero_le _, rfl, 0, 0, rfl, rfl, by omega, by omega, by omega, by omega, rfl⟩
  case round =>
    obtain ⟨k, hk, rfl, H, L, rfl, rfl, l1, l2, b1, b2, hs⟩ := hrel
    have HS : Hid (H * 4294967296 + L = sumL (zs.take k)) := hs
    clear hs
    by_cases hlt : k < zs.length
    · obtain ⟨b, off, rfl, hc⟩ := hz k hlt
      have hx := fits_getD hb k
      have HT := sumL_take zs k hlt
      have HT' : Hid (sumL (zs.take (k + 1)) = sumL (zs.take k) + zs.getD k 0) := HT
      clear HT
      generalize zs.getD k 0 = x at *
      have m1 := and_mask_i x
      have m2 := and_mask_i (L + x % 4294967296)
      go_wp2
      go_round
      case rel => exact ⟨k + 1, by omega, by go_num, _, _, rfl, rfl, by omega, by omega, by omega, by omega, by rw [HT'.out, ← HS.out]; omega⟩
      case measure => simp [intOf]; omega
    · have hkk : k = zs.length := by omega
      have HE : Hid (H * 4294967296 + L = sumL zs) := by
        have := HS.out; rw [hkk, List.take_length] at this; exact this
      clear HS hkk hz hb
      by_cases g1 : 2147483647 < H
      · have g2 : (decide (H < 0)) = false := by simp; omega
        go_wp2_with (go_at_call 79; refine (end_any _ _ _ _ h).mono ?_; rintro e w' ⟨rfl, rfl⟩)
        go_ret
        exact tells_hi (by rw [← HE.out]; omega)
      · by_cases g2 : H < -2147483648
        · have g3 : (decide (H < 0)) = true := by simp; omega
          go_wp2_with (go_at_call 79; refine (end_any _ _ _ _ h).mono ?_; rintro e w' ⟨rfl, rfl⟩)
          go_ret
          exact tells_lo (by rw [← HE.out]; omega)
        · have J := or_join_i H L (by omega) (by omega) l1 l2
          have JH : Hid (bits .or .i64 (H * 4294967296) L = H * 4294967296 + L) := J
          clear J
          go_wp2
          go_ret
          exact tells_in h (by rw [← HE.out]; omega) (by rw [← HE.out]; omega) (by rw [← HE.out]; exact JH.out)
end Go.Proofs.Ytjnnjjajlafchaa
