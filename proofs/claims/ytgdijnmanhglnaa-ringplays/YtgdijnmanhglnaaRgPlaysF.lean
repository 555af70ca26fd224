/- The contracts of the document's own ring: Ago, Max, Min. Conditions: a ring of at most 2000 numbers. -/
import Derived.Test.YtgdijnmanhglnaaRgPlaysE
namespace Go.Proofs.Ytgdijnmanhglnaa
open Go.RowKit
set_option linter.unusedVariables false
set_option maxRecDepth 100000

theorem topV_step (s : Bool) (zs : List Int) (k : Nat) (h : k < zs.length) (h0 : 0 < k) : topV s (zs.take (k + 1)) = if betB s (zs.getD k 0) (topV s (zs.take k)) then zs.getD k 0 else topV s (zs.take k) := by
  unfold topV
  have e : (zs.take (k + 1)).headD 0 = (zs.take k).headD 0 := by
    cases zs with
    | nil => simp at h
    | cons z zs => obtain ⟨j, rfl⟩ : ∃ j, k = j + 1 := ⟨k - 1, by omega⟩; rfl
  rw [e, List.take_succ_eq_append_getElem h, List.foldl_append]
  simp [List.getD_eq_getElem?_getD, List.getElem?_eq_getElem h]
theorem topV_one (s : Bool) (zs : List Int) (h : 0 < zs.length) : topV s (zs.take 1) = zs.getD 0 0 := by
  cases zs with
  | nil => simp at h
  | cons z zs => simp [topV, betB_self]
theorem topV_rev (s : Bool) (xs : List Int) : topV s xs.reverse = topV s xs := by
  by_cases h : xs.length = 0
  · obtain rfl : xs = [] := List.length_eq_zero_iff.1 h
    rfl
  · exact betB_antisymm (topV_best s xs _ (by have := topV_mem s xs.reverse (by simp; omega); simpa using this)) (topV_best s xs.reverse _ (by have := topV_mem s xs (by omega); simpa using this))
set_option maxHeartbeats 4000000 in
theorem rmax_any (a : Option Addr) (zs : List Int) (cap : Nat) (W : World) (hz : IntRow W a zs) (hl : zs.length ≤ 1000000) (h0 : 0 < zs.length) :
    Calls Try.prog 33 #[.slice a zs.length cap] W fun e w' => e = .returned (.int .i64 (topV true zs)) ∧ w' = W := by
  have HZ : Hid (IntRow W a zs) := hz
  clear hz
  go_enter Try.func33, Try.ntmps33
  go_wp2
  go_loop [3, 4] (fun v i => ∃ (k : Nat) (m : Int), k ≤ zs.length ∧ i = .int .i64 k ∧ v = .int .i64 m ∧ (0 < k → m = topV true (zs.take k))) (fun _ i => zs.length - (intOf i).toNat)
  case atStart => exact ⟨0, 0, Nat.zero_le _, rfl, rfl, fun h => by omega⟩
  case round =>
    obtain ⟨k, m, hk, rfl, rfl, hm⟩ := hrel
    have HM : Hid (0 < k → m = topV true (zs.take k)) := hm
    clear hm
    by_cases hlt : k < zs.length
    · obtain ⟨b', off, rfl, hc⟩ := HZ.out k hlt
      obtain ⟨x, hx⟩ : ∃ x, zs.getD k 0 = x := ⟨_, rfl⟩
      rw [hx] at hc
      by_cases hk0 : k = 0
      · subst hk0
        rw [Nat.add_zero] at hc
        have HE : Hid (x = topV true (zs.take (0 + 1))) := by show _ = _; rw [topV_one _ _ h0]; exact hx.symm
        clear hx
        go_wp2
        go_round
        case rel => exact ⟨0 + 1, _, by omega, by go_num, rfl, fun _ => HE.out⟩
        case measure => simp [intOf]; omega
      · have hk1 : ((k : Int) == 0) = false := by rw [beq_eq_false_iff_ne]; omega
        have hst := topV_step true zs k hlt (by omega)
        rw [hx, ← HM.out (by omega)] at hst
        by_cases hb : m < x
        · have HE : Hid (x = topV true (zs.take (k + 1))) := by show _ = _; rw [hst, if_pos (by simp [betB]; exact hb)]
          clear hx hst hk0
          go_wp2
          go_round
          case rel => exact ⟨k + 1, _, by omega, by go_num, rfl, fun _ => HE.out⟩
          case measure => simp [intOf]; omega
        · have HE : Hid (m = topV true (zs.take (k + 1))) := by show _ = _; rw [hst, if_neg (by simp [betB]; omega)]
          clear hx hst hk0
          go_wp2
          go_round
          case rel => exact ⟨k + 1, _, by omega, by go_num, rfl, fun _ => HE.out⟩
          case measure => simp [intOf]; omega
    · have HE : Hid (m = topV true zs) := by have := HM.out (by omega); rw [List.take_of_length_le (by omega)] at this; exact this
      go_wp2
      go_ret
      exact ⟨ret_int HE.out, rfl⟩
set_option maxHeartbeats 4000000 in
theorem rmin_any (a : Option Addr) (zs : List Int) (cap : Nat) (W : World) (hz : IntRow W a zs) (hl : zs.length ≤ 1000000) (h0 : 0 < zs.length) :
    Calls Try.prog 34 #[.slice a zs.length cap] W fun e w' => e = .returned (.int .i64 (topV false zs)) ∧ w' = W := by
  have HZ : Hid (IntRow W a zs) := hz
  clear hz
  go_enter Try.func34, Try.ntmps34
  go_wp2
  go_loop [3, 4] (fun v i => ∃ (k : Nat) (m : Int), k ≤ zs.length ∧ i = .int .i64 k ∧ v = .int .i64 m ∧ (0 < k → m = topV false (zs.take k))) (fun _ i => zs.length - (intOf i).toNat)
  case atStart => exact ⟨0, 0, Nat.zero_le _, rfl, rfl, fun h => by omega⟩
  case round =>
    obtain ⟨k, m, hk, rfl, rfl, hm⟩ := hrel
    have HM : Hid (0 < k → m = topV false (zs.take k)) := hm
    clear hm
    by_cases hlt : k < zs.length
    · obtain ⟨b', off, rfl, hc⟩ := HZ.out k hlt
      obtain ⟨x, hx⟩ : ∃ x, zs.getD k 0 = x := ⟨_, rfl⟩
      rw [hx] at hc
      by_cases hk0 : k = 0
      · subst hk0
        rw [Nat.add_zero] at hc
        have HE : Hid (x = topV false (zs.take (0 + 1))) := by show _ = _; rw [topV_one _ _ h0]; exact hx.symm
        clear hx
        go_wp2
        go_round
        case rel => exact ⟨0 + 1, _, by omega, by go_num, rfl, fun _ => HE.out⟩
        case measure => simp [intOf]; omega
      · have hk1 : ((k : Int) == 0) = false := by rw [beq_eq_false_iff_ne]; omega
        have hst := topV_step false zs k hlt (by omega)
        rw [hx, ← HM.out (by omega)] at hst
        by_cases hb : x < m
        · have HE : Hid (x = topV false (zs.take (k + 1))) := by show _ = _; rw [hst, if_pos (by simp [betB]; exact hb)]
          clear hx hst hk0
          go_wp2
          go_round
          case rel => exact ⟨k + 1, _, by omega, by go_num, rfl, fun _ => HE.out⟩
          case measure => simp [intOf]; omega
        · have HE : Hid (m = topV false (zs.take (k + 1))) := by show _ = _; rw [hst, if_neg (by simp [betB]; omega)]
          clear hx hst hk0
          go_wp2
          go_round
          case rel => exact ⟨k + 1, _, by omega, by go_num, rfl, fun _ => HE.out⟩
          case measure => simp [intOf]; omega
    · have HE : Hid (m = topV false zs) := by have := HM.out (by omega); rw [List.take_of_length_le (by omega)] at this; exact this
      go_wp2
      go_ret
      exact ⟨ret_int HE.out, rfl⟩
set_option maxHeartbeats 2000000 in
theorem qmax_any {W : World} {r n : Nat} {xs : List Int} {S : List Nat} (h : RefR W r n xs.reverse S) (hl : xs.length ≤ 2000) :
    Calls Try.prog 21 #[.pointer (some ⟨r, 0, none⟩)] W fun e w' => e = .returned (.tuple #[.int .i64 (topV true xs), .int .i64 (topE xs)]) ∧ w' = W := by
  obtain ⟨a, cap, R⟩ := h
  have HR : Hid (RefRAt W r n xs.reverse S a cap) := R
  have c1 := R.c1
  clear R
  by_cases h0 : xs.length = 0
  · obtain rfl : xs = [] := List.length_eq_zero_iff.1 h0
    go_enter Try.func21, Try.ntmps21
    go_wp2
    go_ret2
    exact ⟨rfl, rfl⟩
  · have hE : topE xs = 0 := by unfold topE; rw [if_neg h0]
    have HM : Hid (Calls Try.prog 33 #[.slice a xs.reverse.length cap] W fun e w' => e = .returned (.int .i64 (topV true xs)) ∧ w' = W) := by
      have := rmax_any a xs.reverse cap W HR.out.row (by simp; omega) (by simp; omega)
      rw [topV_rev] at this; exact this
    rw [hE]
    clear hE
    generalize topV true xs = v at *
    have hne : ((xs.reverse.length : Int) == 0) = false := by rw [beq_eq_false_iff_ne, List.length_reverse]; omega
    generalize xs.reverse.length = q at *
    clear h0
    go_enter Try.func21, Try.ntmps21
    go_wp2_with fail
    refine Calls.mono HM.out ?_
    rintro e w' ⟨rfl, hw⟩
    have hw' := hw.symm; subst hw'; clear hw
    go_wp2
    go_ret2
    exact ⟨rfl, rfl⟩
set_option maxHeartbeats 2000000 in
theorem qmin_any {W : World} {r n : Nat} {xs : List Int} {S : List Nat} (h : RefR W r n xs.reverse S) (hl : xs.length ≤ 2000) :
    Calls Try.prog 22 #[.pointer (some ⟨r, 0, none⟩)] W fun e w' => e = .returned (.tuple #[.int .i64 (topV false xs), .int .i64 (topE xs)]) ∧ w' = W := by
  obtain ⟨a, cap, R⟩ := h
  have HR : Hid (RefRAt W r n xs.reverse S a cap) := R
  have c1 := R.c1
  clear R
  by_cases h0 : xs.length = 0
  · obtain rfl : xs = [] := List.length_eq_zero_iff.1 h0
    go_enter Try.func22, Try.ntmps22
    go_wp2
    go_ret2
    exact ⟨rfl, rfl⟩
  · have hE : topE xs = 0 := by unfold topE; rw [if_neg h0]
    have HM : Hid (Calls Try.prog 34 #[.slice a xs.reverse.length cap] W fun e w' => e = .returned (.int .i64 (topV false xs)) ∧ w' = W) := by
      have := rmin_any a xs.reverse cap W HR.out.row (by simp; omega) (by simp; omega)
      rw [topV_rev] at this; exact this
    rw [hE]
    clear hE
    generalize topV false xs = v at *
    have hne : ((xs.reverse.length : Int) == 0) = false := by rw [beq_eq_false_iff_ne, List.length_reverse]; omega
    generalize xs.reverse.length = q at *
    clear h0
    go_enter Try.func22, Try.ntmps22
    go_wp2_with fail
    refine Calls.mono HM.out ?_
    rintro e w' ⟨rfl, hw⟩
    have hw' := hw.symm; subst hw'; clear hw
    go_wp2
    go_ret2
    exact ⟨rfl, rfl⟩
set_option maxHeartbeats 2000000 in
theorem qago_any {W : World} {r n : Nat} {xs : List Int} {S : List Nat} (h : RefR W r n xs.reverse S) (hl : xs.length ≤ 2000) (i : Int) :
    Calls Try.prog 16 #[.pointer (some ⟨r, 0, none⟩), .int .i64 i] W fun e w' => e = .returned (.tuple #[.int .i64 (agoV xs i), .int .i64 (agoE xs i)]) ∧ Below W.heap.size W w' := by
  obtain ⟨a, cap, R⟩ := h
  have HR : Hid (RefRAt W r n xs.reverse S a cap) := R
  have c1 := R.c1
  rw [List.length_reverse] at c1
  clear R
  by_cases hi : 0 ≤ i ∧ i < xs.length
  · obtain ⟨j, rfl⟩ : ∃ j : Nat, i = j := ⟨i.toNat, by omega⟩
    obtain ⟨b', off, rfl, hc⟩ := HR.out.row (xs.length - 1 - j) (by simp; omega)
    have hx : xs.reverse.getD (xs.length - 1 - j) 0 = xs.getD j 0 := by
      rw [List.getD_eq_getElem?_getD, List.getElem?_reverse (by omega), List.getD_eq_getElem?_getD, show xs.length - 1 - (xs.length - 1 - j) = j by omega]
    have hv : agoV xs j = xs.getD j 0 := agoV_nat xs j
    have he : agoE xs j = 0 := by unfold agoE; rw [if_pos hi]
    rw [hx] at hc
    rw [hv, he]
    generalize xs.getD j 0 = x at *
    have hj : j < xs.length := by omega
    have hc2 : W.cell? ⟨b', off + ((xs.length : Int) - 1 - j).toNat, none⟩ = some (.int .i64 x) := by rw [show ((xs.length : Int) - 1 - j).toNat = xs.length - 1 - j by omega]; exact hc
    generalize xs.length = q at *
    clear hx hv he hi HR
    go_enter Try.func16, Try.ntmps16
    go_wp2
    go_region
    go_wp2
    go_ret2
    exact ⟨rfl, (Below.refl _ _).drew⟩
  · have hv : agoV xs i = 0 := by unfold agoV; rw [if_neg hi]
    have he : agoE xs i = 3 := by unfold agoE; rw [if_neg hi]
    rw [hv, he]
    clear hv he HR
    by_cases h0 : i < 0
    · clear hi
      go_enter Try.func16, Try.ntmps16
      go_wp2
      go_ret2
      exact ⟨rfl, Below.refl _ _⟩
    · have h1 : (xs.length : Int) ≤ i := by omega
      clear hi
      go_enter Try.func16, Try.ntmps16
      go_wp2
      go_ret2
      exact ⟨rfl, Below.refl _ _⟩
end Go.Proofs.Ytgdijnmanhglnaa
