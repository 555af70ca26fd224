/- The greatest, the least, what is kept between two: the contracts of fix's and of the document's own Max, Min, Clamp; the walk of FixPicks. Conditions: the library's own variables as they are laid. -/
import Derived.Test.YtpojkaeclfgfkaaDoorInts
import Derived.Test.YtpojkaeclfgfkaaDoorShelf2
namespace Go.Proofs.YtpojkaeclfgfkaaDoor
open Go.RowKit
set_option linter.unusedVariables false
set_option maxRecDepth 100000

set_option maxHeartbeats 400000 in
theorem max_any (a : Option Addr) (zs : List Int) (cap : Nat) (w : World) (h : IntRow w a zs) (hl : zs.length ≤ 9223372036854775807) :
    Calls Tryd.prog 20 #[.slice a zs.length cap] w fun e w' => e = .returned (.int .i64 (Lib.maxOf zs)) ∧ w' = w := by
  by_cases h0 : zs.length = 0
  · obtain rfl : zs = [] := List.length_eq_zero_iff.1 h0
    clear h h0
    go_enter Tryd.func20, Tryd.ntmps20
    go_wp2
    go_ret
    exact ⟨rfl, rfl⟩
  · obtain ⟨b, off, rfl, hc⟩ := h.at (by omega)
    have HM : Hid (∀ w' : World, w' = w → Calls Tryd.prog 56 #[.slice (some ⟨b, off, none⟩) zs.length cap] w' fun e w'' => e = .returned (.int .i64 (Lib.maxOf zs)) ∧ w'' = w') := by
      rintro w' rfl
      have := Tryd.slices_Max_int b off zs.length cap zs w' (by omega) (Nat.le_refl _) hl hc
      rw [List.take_length] at this; exact this
    have hne : ((zs.length : Int) == 0) = false := by rw [beq_eq_false_iff_ne]; omega
    clear h hc
    go_enter Tryd.func20, Tryd.ntmps20
    go_wp2_with fail
    refine Calls.mono (HM.out _ rfl) ?_
    rintro e w' ⟨rfl, hw⟩
    subst hw
    go_wp2
    go_ret
    exact ⟨rfl, rfl⟩
set_option maxHeartbeats 400000 in
theorem min_any (a : Option Addr) (zs : List Int) (cap : Nat) (w : World) (h : IntRow w a zs) (hl : zs.length ≤ 9223372036854775807) :
    Calls Tryd.prog 22 #[.slice a zs.length cap] w fun e w' => e = .returned (.int .i64 (Lib.minOf zs)) ∧ w' = w := by
  by_cases h0 : zs.length = 0
  · obtain rfl : zs = [] := List.length_eq_zero_iff.1 h0
    clear h h0
    go_enter Tryd.func22, Tryd.ntmps22
    go_wp2
    go_ret
    exact ⟨rfl, rfl⟩
  · obtain ⟨b, off, rfl, hc⟩ := h.at (by omega)
    have HM : Hid (∀ w' : World, w' = w → Calls Tryd.prog 57 #[.slice (some ⟨b, off, none⟩) zs.length cap] w' fun e w'' => e = .returned (.int .i64 (Lib.minOf zs)) ∧ w'' = w') := by
      rintro w' rfl
      have := Tryd.slices_Min_int b off zs.length cap zs w' (by omega) (Nat.le_refl _) hl hc
      rw [List.take_length] at this; exact this
    have hne : ((zs.length : Int) == 0) = false := by rw [beq_eq_false_iff_ne]; omega
    clear h hc
    go_enter Tryd.func22, Tryd.ntmps22
    go_wp2_with fail
    refine Calls.mono (HM.out _ rfl) ?_
    rintro e w' ⟨rfl, hw⟩
    subst hw
    go_wp2
    go_ret
    exact ⟨rfl, rfl⟩

/-- hi, if x is above hi; else lo, if x is below lo; else x. -/
def keepF (x lo hi : Int) : Int := if hi < x then hi else if x < lo then lo else x
set_option maxHeartbeats 400000 in
theorem clamp_any (x lo hi : Int) (w : World) : Calls Tryd.prog 24 #[.int .i64 x, .int .i64 lo, .int .i64 hi] w fun e w' => e = .returned (.int .i64 (keepF x lo hi)) ∧ w' = w := by
  by_cases h1 : hi < x
  · have H : Hid (keepF x lo hi = hi) := by simp [Hid, keepF, h1]
    go_enter Tryd.func24, Tryd.ntmps24
    go_wp2
    go_ret
    exact ⟨ret_int H.out.symm, rfl⟩
  · by_cases h2 : x < lo
    · have H : Hid (keepF x lo hi = lo) := by simp [Hid, keepF, h1, h2]
      go_enter Tryd.func24, Tryd.ntmps24
      go_wp2
      go_ret
      exact ⟨ret_int H.out.symm, rfl⟩
    · have H : Hid (keepF x lo hi = x) := by simp [Hid, keepF, h1, h2]
      go_enter Tryd.func24, Tryd.ntmps24
      go_wp2
      go_ret
      exact ⟨ret_int H.out.symm, rfl⟩
set_option maxHeartbeats 400000 in
theorem rclamp_any (x lo hi : Int) (w : World) : Calls Tryd.prog 25 #[.int .i64 x, .int .i64 lo, .int .i64 hi] w fun e w' => e = .returned (.int .i64 (keepF x lo hi)) ∧ w' = w := by
  by_cases h1 : hi < x
  · have H : Hid (keepF x lo hi = hi) := by simp [Hid, keepF, h1]
    go_enter Tryd.func25, Tryd.ntmps25
    go_wp2
    go_ret
    exact ⟨ret_int H.out.symm, rfl⟩
  · by_cases h2 : x < lo
    · have H : Hid (keepF x lo hi = lo) := by simp [Hid, keepF, h1, h2]
      go_enter Tryd.func25, Tryd.ntmps25
      go_wp2
      go_ret
      exact ⟨ret_int H.out.symm, rfl⟩
    · have H : Hid (keepF x lo hi = x) := by simp [Hid, keepF, h1, h2]
      go_enter Tryd.func25, Tryd.ntmps25
      go_wp2
      go_ret
      exact ⟨ret_int H.out.symm, rfl⟩
theorem maxOf_take (zs : List Int) (k : Nat) (h : k < zs.length) : Lib.maxOf (zs.take (k + 1)) = if k = 0 then zs.getD k 0 else max (Lib.maxOf (zs.take k)) (zs.getD k 0) := by
  cases zs with
  | nil => simp at h
  | cons z zs =>
    cases k with
    | zero => simp [Lib.maxOf]
    | succ k =>
      have hk : k < zs.length := by simpa using h
      rw [if_neg (by omega)]
      simp only [Lib.maxOf, List.take_succ_cons, List.headD_cons, List.foldl_cons, List.getD_cons_succ]
      rw [List.take_succ_eq_append_getElem hk, List.foldl_append]
      simp [List.getD_eq_getElem?_getD, hk]
theorem minOf_take (zs : List Int) (k : Nat) (h : k < zs.length) : Lib.minOf (zs.take (k + 1)) = if k = 0 then zs.getD k 0 else min (Lib.minOf (zs.take k)) (zs.getD k 0) := by
  cases zs with
  | nil => simp at h
  | cons z zs =>
    cases k with
    | zero => simp [Lib.minOf]
    | succ k =>
      have hk : k < zs.length := by simpa using h
      rw [if_neg (by omega)]
      simp only [Lib.minOf, List.take_succ_cons, List.headD_cons, List.foldl_cons, List.getD_cons_succ]
      rw [List.take_succ_eq_append_getElem hk, List.foldl_append]
      simp [List.getD_eq_getElem?_getD, hk]
set_option maxHeartbeats 600000 in
theorem rmax_any (a : Option Addr) (zs : List Int) (cap : Nat) (w : World) (h : IntRow w a zs) (hl : zs.length ≤ 9223372036854775807) :
    Calls Tryd.prog 21 #[.slice a zs.length cap] w fun e w' => e = .returned (.int .i64 (Lib.maxOf zs)) ∧ w' = w := by
  have HR : Hid (IntRow w a zs) := h
  clear h
  go_enter Tryd.func21, Tryd.ntmps21
  go_wp2
  go_loop [3, 4] (fun m i => ∃ k : Nat, k ≤ zs.length ∧ i = .int .i64 k ∧ m = .int .i64 (Lib.maxOf (zs.take k))) (fun _ i => zs.length - (intOf i).toNat)
  case atStart => exact ⟨0, Nat.zero_le _, rfl, rfl⟩
  case round =>
    obtain ⟨k, hk, rfl, rfl⟩ := hrel
    by_cases hlt : k < zs.length
    · obtain ⟨b, off, rfl, hc⟩ := HR.out k hlt
      have HN := maxOf_take zs k hlt
      generalize zs.getD k 0 = z at *
      generalize Lib.maxOf (zs.take k) = m at *
      by_cases h0 : k = 0
      · subst h0
        have HN' : Hid (Lib.maxOf (zs.take (0 + 1)) = z) := by rw [HN]; rfl
        have hc0 : w.cell? ⟨b, off, none⟩ = some (.int .i64 z) := hc
        clear HN hc
        go_wp2
        go_round
        case rel => exact ⟨0 + 1, by omega, by go_num, by rw [HN'.out]⟩
        case measure => simp [intOf]; omega
      · have h0' : ((k : Int) == 0) = false := by rw [beq_eq_false_iff_ne]; omega
        by_cases hz : m < z
        · have HN' : Hid (Lib.maxOf (zs.take (k + 1)) = z) := by rw [HN, if_neg h0]; simp only [Hid]; omega
          clear HN h0
          go_wp2
          go_round
          case rel => exact ⟨k + 1, by omega, by go_num, by rw [HN'.out]⟩
          case measure => simp [intOf]; omega
        · have HN' : Hid (Lib.maxOf (zs.take (k + 1)) = m) := by rw [HN, if_neg h0]; simp only [Hid]; omega
          clear HN h0
          go_wp2
          go_round
          case rel => exact ⟨k + 1, by omega, by go_num, by rw [HN'.out]⟩
          case measure => simp [intOf]; omega
    · have hkk : k = zs.length := by omega
      subst hkk
      go_wp2
      go_ret
      exact ⟨by simp, rfl⟩
set_option maxHeartbeats 600000 in
theorem rmin_any (a : Option Addr) (zs : List Int) (cap : Nat) (w : World) (h : IntRow w a zs) (hl : zs.length ≤ 9223372036854775807) :
    Calls Tryd.prog 23 #[.slice a zs.length cap] w fun e w' => e = .returned (.int .i64 (Lib.minOf zs)) ∧ w' = w := by
  have HR : Hid (IntRow w a zs) := h
  clear h
  go_enter Tryd.func23, Tryd.ntmps23
  go_wp2
  go_loop [3, 4] (fun m i => ∃ k : Nat, k ≤ zs.length ∧ i = .int .i64 k ∧ m = .int .i64 (Lib.minOf (zs.take k))) (fun _ i => zs.length - (intOf i).toNat)
  case atStart => exact ⟨0, Nat.zero_le _, rfl, rfl⟩
  case round =>
    obtain ⟨k, hk, rfl, rfl⟩ := hrel
    by_cases hlt : k < zs.length
    · obtain ⟨b, off, rfl, hc⟩ := HR.out k hlt
      have HN := minOf_take zs k hlt
      generalize zs.getD k 0 = z at *
      generalize Lib.minOf (zs.take k) = m at *
      by_cases h0 : k = 0
      · subst h0
        have HN' : Hid (Lib.minOf (zs.take (0 + 1)) = z) := by rw [HN]; rfl
        have hc0 : w.cell? ⟨b, off, none⟩ = some (.int .i64 z) := hc
        clear HN hc
        go_wp2
        go_round
        case rel => exact ⟨0 + 1, by omega, by go_num, by rw [HN'.out]⟩
        case measure => simp [intOf]; omega
      · have h0' : ((k : Int) == 0) = false := by rw [beq_eq_false_iff_ne]; omega
        by_cases hz : z < m
        · have HN' : Hid (Lib.minOf (zs.take (k + 1)) = z) := by rw [HN, if_neg h0]; simp only [Hid]; omega
          clear HN h0
          go_wp2
          go_round
          case rel => exact ⟨k + 1, by omega, by go_num, by rw [HN'.out]⟩
          case measure => simp [intOf]; omega
        · have HN' : Hid (Lib.minOf (zs.take (k + 1)) = m) := by rw [HN, if_neg h0]; simp only [Hid]; omega
          clear HN h0
          go_wp2
          go_round
          case rel => exact ⟨k + 1, by omega, by go_num, by rw [HN'.out]⟩
          case measure => simp [intOf]; omega
    · have hkk : k = zs.length := by omega
      subst hkk
      go_wp2
      go_ret
      exact ⟨by simp, rfl⟩

set_option maxHeartbeats 600000 in
theorem picks_many (x lo hi : Int) (a : Option Addr) (len cap : Nat) (w : World) (hm : MaxLenIs w) (ht : PowsAre w) (h : 200 < len) (hb : len ≤ 9223372036854775807) :
    Calls Tryd.prog 4 #[.int .i64 x, .int .i64 lo, .int .i64 hi, .slice a len cap] w fun e w' => e = .returned (.bool true) ∧ Below w.heap.size w w' := by
  have HA : Hid (Calls Tryd.prog 9 #[] w fun e w' => e = .returned (.bool true) ∧ Below w.heap.size w w') := alive_any w hm ht
  clear hm ht
  go_enter Tryd.func4, Tryd.ntmps4
  go_wp2_with fail
  refine Calls.mono HA.out ?_
  rintro e w1 ⟨rfl, hbel⟩
  go_wp2
  go_ret
  exact ⟨rfl, hbel⟩
set_option maxHeartbeats 1000000 in
theorem picks_few (x lo hi : Int) (a : Option Addr) (zs : List Int) (cap : Nat) (w : World) (hm : MaxLenIs w) (ht : PowsAre w) (h : IntRow w a zs) (hl : zs.length ≤ 200) :
    Calls Tryd.prog 4 #[.int .i64 x, .int .i64 lo, .int .i64 hi, .slice a zs.length cap] w fun e w' => e = .returned (.bool true) ∧ Below w.heap.size w w' := by
  have HA : Hid (Calls Tryd.prog 9 #[] w fun e w' => e = .returned (.bool true) ∧ Below w.heap.size w w') := alive_any w hm ht
  have HR : Hid (IntRow w a zs) := h
  clear hm ht h
  go_enter Tryd.func4, Tryd.ntmps4
  go_wp2_with fail
  refine Calls.mono HA.out ?_
  rintro e w1 ⟨rfl, hbel⟩
  have HR1 : Hid (IntRow w1 a zs) := HR.out.stays hbel (Nat.le_refl _)
  have HB : Hid (Below w.heap.size w w1) := hbel
  clear hbel HR HA
  go_wp2_with fail
  refine Calls.mono (max_any a zs cap w1 HR1.out (by omega)) ?_
  rintro e w2 ⟨rfl, hw⟩
  subst hw
  go_wp2_with fail
  refine Calls.mono (rmax_any a zs cap _ HR1.out (by omega)) ?_
  rintro e w2 ⟨rfl, hw⟩
  subst hw
  go_wp2_with fail
  refine Calls.mono (min_any a zs cap _ HR1.out (by omega)) ?_
  rintro e w2 ⟨rfl, hw⟩
  subst hw
  go_wp2_with fail
  refine Calls.mono (rmin_any a zs cap _ HR1.out (by omega)) ?_
  rintro e w2 ⟨rfl, hw⟩
  subst hw
  go_wp2_with fail
  refine Calls.mono (clamp_any x lo hi _) ?_
  rintro e w2 ⟨rfl, hw⟩
  subst hw
  go_wp2_with fail
  refine Calls.mono (rclamp_any x lo hi _) ?_
  rintro e w2 ⟨rfl, hw⟩
  subst hw
  go_wp2
  go_ret
  exact ⟨rfl, HB.out⟩
theorem picks_any (x lo hi : Int) (a : Option Addr) (len cap : Nat) (zs : List Int) (w : World) (hm : MaxLenIs w) (ht : PowsAre w) (x1 : -9223372036854775808 ≤ x) (x2 : x ≤ 9223372036854775807) (l1 : -9223372036854775808 ≤ lo) (l2 : lo ≤ 9223372036854775807) (h1 : -9223372036854775808 ≤ hi) (h2 : hi ≤ 9223372036854775807) (hz : IsInts w a len cap zs) :
    Calls Tryd.prog 4 #[.int .i64 x, .int .i64 lo, .int .i64 hi, .slice a len cap] w fun e w' => e = .returned (.bool true) ∧ Below w.heap.size w w' := by
  obtain ⟨r1, r2, r3, r4⟩ := hz.row
  by_cases h : 200 < len
  · exact picks_many x lo hi a len cap w hm ht h r4
  · have := picks_few x lo hi a (zs.take len) cap w hm ht r1 (by omega)
    rw [r2] at this; exact this
end Go.Proofs.YtpojkaeclfgfkaaDoor
