/- FixQuotients: by one it is the number, by minus one the other one, nought by whatever is nought; by itself it is one: the law's walk. Conditions: the library's own variables as they are laid. -/
import Derived.Test.YtpojkaeclfgfkabDoorQuotM
namespace Go.Proofs.YtpojkaeclfgfkabDoor
open Go.RowKit
set_option linter.unusedVariables false
set_option maxRecDepth 100000

set_option maxHeartbeats 20000000 in
theorem quot_a (x y : Int) (up : Bool) (w : World) (hm : MaxLenIs w) (ht : PowsAre w) (x1 : -9223372036854775808 ≤ x) (x2 : x ≤ 9223372036854775807) (y1 : -9223372036854775808 ≤ y) (y2 : y ≤ 9223372036854775807) (hy : y ≠ 0) (hx : -9223372036854775808 < x) :
    Calls Tryd.prog 4 #[.int .i64 x, .int .i64 y, .bool up] w fun e w' => e = .returned (.bool true) ∧ Below w.heap.size w w' := by
  have HM : Hid (MaxLenIs w ∧ PowsAre w) := ⟨hm, ht⟩
  have HS0 : Hid (Two w w.heap.size (w.heap.size + 1) ((w.alloc (.cells #[.bool false] 28)).alloc (.cells #[.bool false] 28)).drew false false) := by
    have h := Live.make w (w.alloc (.cells #[.bool false] 28)) false ((Below.refl _ w).alloc (Nat.le_refl _) _)
    have e : (w.alloc (.cells #[.bool false] 28)).heap.size = w.heap.size + 1 := by simp
    rw [e] at h
    exact Two.drew ⟨(Live.make w w false (Below.refl _ w)).alloc _, h⟩
  have HD1 : Hid (∀ W m, Two w w.heap.size (w.heap.size + 1) W false false → m = 4294967296 → Calls Tryd.prog 12 #[.pointer (some ⟨w.heap.size, 0, none⟩), .int .i64 x, .int .i64 m, .bool up] W fun e W' => e = .returned (.int .i64 x) ∧ W'.cell? ⟨w.heap.size, 0, none⟩ = some (.bool false) ∧ W'.cell? ⟨w.heap.size + 1, 0, none⟩ = some (.bool false) ∧ Two w w.heap.size (w.heap.size + 1) W' false false) := fun W m h hme => by
    subst hme
    refine Calls.mono (div_live h.1 up x1 x2 (by omega) (by omega) (by omega)) fun e W' s => ?_
    rw [divF_one] at s
    obtain ⟨r1, r2⟩ := h.left (by omega) s
    rw [clampF_in x1 x2] at r1
    rw [overF_in x1 x2] at r2
    exact ⟨r1, r2.1.cell, r2.2.cell, r2⟩
  obtain ⟨V, hV⟩ : ∃ V, clampF (-x) = V := ⟨_, rfl⟩
  have hO : overF (-x) = false := overF_in (by omega) (by omega)
  have HD2 : Hid (∀ W m, Two w w.heap.size (w.heap.size + 1) W false false → m = -4294967296 → Calls Tryd.prog 12 #[.pointer (some ⟨w.heap.size, 0, none⟩), .int .i64 x, .int .i64 m, .bool up] W fun e W' => e = .returned (.int .i64 V) ∧ W'.cell? ⟨w.heap.size, 0, none⟩ = some (.bool false) ∧ W'.cell? ⟨w.heap.size + 1, 0, none⟩ = some (.bool false) ∧ Two w w.heap.size (w.heap.size + 1) W' false false) := fun W m h hme => by
    subst hme
    refine Calls.mono (div_live h.1 up x1 x2 (by omega) (by omega) (by omega)) fun e W' s => ?_
    rw [divF_minus] at s
    obtain ⟨r1, r2⟩ := h.left (by omega) s
    rw [hV] at r1
    rw [hO, Bool.false_or] at r2
    exact ⟨r1, r2.1.cell, r2.2.cell, r2⟩
  have HN : Hid (∀ W, Two w w.heap.size (w.heap.size + 1) W false false → Calls Tryd.prog 13 #[.pointer (some ⟨w.heap.size + 1, 0, none⟩), .int .i64 x] W fun e W' => e = .returned (.int .i64 V) ∧ W'.cell? ⟨w.heap.size, 0, none⟩ = some (.bool false) ∧ W'.cell? ⟨w.heap.size + 1, 0, none⟩ = some (.bool false) ∧ Hid (Below w.heap.size w W')) := fun W h => by
    refine Calls.mono (neg_live h.2 x1 x2) fun e W' s => ?_
    obtain ⟨r1, r2⟩ := h.right (by omega) s
    rw [hV] at r1
    rw [hO, Bool.false_or] at r2
    exact ⟨r1, r2.1.cell, r2.2.cell, r2.1.below⟩
  have hxx : (x != x) = false := bne_self_eq_false _
  have hVV : (V != V) = false := bne_self_eq_false _
  clear hm ht hV hO
  go_enter Tryd.func4, Tryd.ntmps4
  go_wp2_with fail
  have hs0 := HS0.out
  have hq1 := hs0.1.cell
  have hq2 := hs0.2.cell
  simp only [World.cell?_drew] at hq1 hq2
  go_region_held3 (fun W' => W'.cell? ⟨w.heap.size, 0, none⟩ = some (.bool false) ∧ W'.cell? ⟨w.heap.size + 1, 0, none⟩ = some (.bool false)) (first | exact ⟨by assumption, by assumption⟩ | go_keep) (first
    | (go_at_call 12; refine (HD1.out _ _ (by assumption) (by decide)).mono ?_; rintro e W1 ⟨rfl, hc1, hd1, hs1⟩)
    | (go_at_call 12; refine (HD2.out _ _ (by assumption) (by decide)).mono ?_; rintro e W2 ⟨rfl, hc2, hd2, hs2⟩)
    | (go_at_call 13; refine (HN.out _ (by assumption)).mono ?_; rintro e W3 ⟨rfl, hc3, hd3, HB3⟩))
  clear hs0 hq1 hq2 HS0 HD1 HD2 HN hs1 hs2 hc1 hd1 hc2 hd2 hc3 hd3 W1 W2 hxx hVV
  have LC : Live w W3.heap.size (W3.alloc (.cells #[.bool false] 28)) false := Live.make w W3 false HB3.out
  have HE1 : Hid (∀ W m, Live w W3.heap.size W false → m = 0 → Calls Tryd.prog 12 #[.pointer (some ⟨W3.heap.size, 0, none⟩), .int .i64 m, .int .i64 y, .bool up] W fun e W' => e = .returned (.int .i64 0) ∧ W'.cell? ⟨W3.heap.size, 0, none⟩ = some (.bool false) ∧ Live w W3.heap.size W' false) := fun W m h hme => by
    subst hme
    refine Calls.mono (div_live h up (by omega) (by omega) y1 y2 hy) fun e W' s => ?_
    rw [divF_zero] at s
    exact ⟨s.1, s.2.1.cell, s.2.1⟩
  have HE2 : Hid (∀ W, Live w W3.heap.size W false → Calls Tryd.prog 12 #[.pointer (some ⟨W3.heap.size, 0, none⟩), .int .i64 y, .int .i64 y, .bool up] W fun e W' => e = .returned (.int .i64 4294967296) ∧ W'.cell? ⟨W3.heap.size, 0, none⟩ = some (.bool false) ∧ Live w W3.heap.size W' false) := fun W h => by
    refine Calls.mono (div_live h up y1 y2 y1 y2 hy) fun e W' s => ?_
    rw [divF_self y hy] at s
    exact ⟨s.1, s.2.1.cell, s.2.1⟩
  have hy' : (y != 0) = true := by rw [bne_iff_ne]; exact hy
  go_wp2_with fail
  refine Calls.mono (HE1.out _ 0 LC rfl) ?_
  rintro e W4 ⟨rfl, hc4, hs4⟩
  go_wp2_with fail
  refine Calls.mono (HE2.out _ hs4) ?_
  rintro e W5 ⟨rfl, hc5, hs5⟩
  clear HE1 HE2 LC hc4 hs4
  have L5 : Hid (Live w W3.heap.size W5 false) := hs5
  clear hs5
  go_wp2_with fail
  refine Calls.mono (div_nought L5.out up) ?_
  rintro e W6 ⟨rfl, hL6, _⟩
  clear L5
  obtain ⟨Z, hZ⟩ : ∃ Z, noughtF x = Z := ⟨_, rfl⟩
  rw [hZ]
  have HZ : Hid (noughtF x = Z) := hZ
  clear hZ
  go_wp2_with fail
  refine Calls.mono (alive_live hL6 HM.out.1 HM.out.2) ?_
  rintro e W7 ⟨rfl, hL7, _⟩
  have hc7 := hL7.cell
  have HB7 : Hid (Below w.heap.size w W7) := hL7.below
  clear hL6 hL7
  by_cases p1 : 0 < x
  · have hz := HZ.out
    unfold noughtF at hz
    rw [if_neg (by omega), if_neg (by omega)] at hz
    subst hz
    clear HZ
    go_wp2
    go_ret
    exact ⟨rfl, HB7.out⟩
  · have pd1 : decide (0 < x) = false := by simpa using p1
    by_cases p2 : x < 0
    · have hz := HZ.out
      unfold noughtF at hz
      rw [if_pos p2] at hz
      subst hz
      clear HZ
      go_wp2
      go_ret
      exact ⟨rfl, HB7.out⟩
    · obtain rfl : x = 0 := by omega
      have hz : (0 : Int) = Z := HZ.out
      subst hz
      clear HZ
      go_wp2
      go_ret
      exact ⟨rfl, HB7.out⟩
set_option maxHeartbeats 20000000 in
theorem quot_a0 (x y : Int) (up : Bool) (w : World) (hm : MaxLenIs w) (ht : PowsAre w) (x1 : -9223372036854775808 ≤ x) (x2 : x ≤ 9223372036854775807) (y1 : -9223372036854775808 ≤ y) (y2 : y ≤ 9223372036854775807) (hy : y = 0) (hx : -9223372036854775808 < x) :
    Calls Tryd.prog 4 #[.int .i64 x, .int .i64 y, .bool up] w fun e w' => e = .returned (.bool true) ∧ Below w.heap.size w w' := by
  subst hy
  have HM : Hid (MaxLenIs w ∧ PowsAre w) := ⟨hm, ht⟩
  have HS0 : Hid (Two w w.heap.size (w.heap.size + 1) ((w.alloc (.cells #[.bool false] 28)).alloc (.cells #[.bool false] 28)).drew false false) := by
    have h := Live.make w (w.alloc (.cells #[.bool false] 28)) false ((Below.refl _ w).alloc (Nat.le_refl _) _)
    have e : (w.alloc (.cells #[.bool false] 28)).heap.size = w.heap.size + 1 := by simp
    rw [e] at h
    exact Two.drew ⟨(Live.make w w false (Below.refl _ w)).alloc _, h⟩
  have HD1 : Hid (∀ W m, Two w w.heap.size (w.heap.size + 1) W false false → m = 4294967296 → Calls Tryd.prog 12 #[.pointer (some ⟨w.heap.size, 0, none⟩), .int .i64 x, .int .i64 m, .bool up] W fun e W' => e = .returned (.int .i64 x) ∧ W'.cell? ⟨w.heap.size, 0, none⟩ = some (.bool false) ∧ W'.cell? ⟨w.heap.size + 1, 0, none⟩ = some (.bool false) ∧ Two w w.heap.size (w.heap.size + 1) W' false false) := fun W m h hme => by
    subst hme
    refine Calls.mono (div_live h.1 up x1 x2 (by omega) (by omega) (by omega)) fun e W' s => ?_
    rw [divF_one] at s
    obtain ⟨r1, r2⟩ := h.left (by omega) s
    rw [clampF_in x1 x2] at r1
    rw [overF_in x1 x2] at r2
    exact ⟨r1, r2.1.cell, r2.2.cell, r2⟩
  obtain ⟨V, hV⟩ : ∃ V, clampF (-x) = V := ⟨_, rfl⟩
  have hO : overF (-x) = false := overF_in (by omega) (by omega)
  have HD2 : Hid (∀ W m, Two w w.heap.size (w.heap.size + 1) W false false → m = -4294967296 → Calls Tryd.prog 12 #[.pointer (some ⟨w.heap.size, 0, none⟩), .int .i64 x, .int .i64 m, .bool up] W fun e W' => e = .returned (.int .i64 V) ∧ W'.cell? ⟨w.heap.size, 0, none⟩ = some (.bool false) ∧ W'.cell? ⟨w.heap.size + 1, 0, none⟩ = some (.bool false) ∧ Two w w.heap.size (w.heap.size + 1) W' false false) := fun W m h hme => by
    subst hme
    refine Calls.mono (div_live h.1 up x1 x2 (by omega) (by omega) (by omega)) fun e W' s => ?_
    rw [divF_minus] at s
    obtain ⟨r1, r2⟩ := h.left (by omega) s
    rw [hV] at r1
    rw [hO, Bool.false_or] at r2
    exact ⟨r1, r2.1.cell, r2.2.cell, r2⟩
  have HN : Hid (∀ W, Two w w.heap.size (w.heap.size + 1) W false false → Calls Tryd.prog 13 #[.pointer (some ⟨w.heap.size + 1, 0, none⟩), .int .i64 x] W fun e W' => e = .returned (.int .i64 V) ∧ W'.cell? ⟨w.heap.size, 0, none⟩ = some (.bool false) ∧ W'.cell? ⟨w.heap.size + 1, 0, none⟩ = some (.bool false) ∧ Hid (Below w.heap.size w W')) := fun W h => by
    refine Calls.mono (neg_live h.2 x1 x2) fun e W' s => ?_
    obtain ⟨r1, r2⟩ := h.right (by omega) s
    rw [hV] at r1
    rw [hO, Bool.false_or] at r2
    exact ⟨r1, r2.1.cell, r2.2.cell, r2.1.below⟩
  have hxx : (x != x) = false := bne_self_eq_false _
  have hVV : (V != V) = false := bne_self_eq_false _
  clear hm ht hV hO
  go_enter Tryd.func4, Tryd.ntmps4
  go_wp2_with fail
  have hs0 := HS0.out
  have hq1 := hs0.1.cell
  have hq2 := hs0.2.cell
  simp only [World.cell?_drew] at hq1 hq2
  go_region_held3 (fun W' => W'.cell? ⟨w.heap.size, 0, none⟩ = some (.bool false) ∧ W'.cell? ⟨w.heap.size + 1, 0, none⟩ = some (.bool false)) (first | exact ⟨by assumption, by assumption⟩ | go_keep) (first
    | (go_at_call 12; refine (HD1.out _ _ (by assumption) (by decide)).mono ?_; rintro e W1 ⟨rfl, hc1, hd1, hs1⟩)
    | (go_at_call 12; refine (HD2.out _ _ (by assumption) (by decide)).mono ?_; rintro e W2 ⟨rfl, hc2, hd2, hs2⟩)
    | (go_at_call 13; refine (HN.out _ (by assumption)).mono ?_; rintro e W3 ⟨rfl, hc3, hd3, HB3⟩))
  clear hs0 hq1 hq2 HS0 HD1 HD2 HN hs1 hs2 hc1 hd1 hc2 hd2 hc3 hd3 W1 W2 hxx hVV
  have LC : Live w W3.heap.size (W3.alloc (.cells #[.bool false] 28)) false := Live.make w W3 false HB3.out
  have L5 : Hid (Live w W3.heap.size (W3.alloc (.cells #[.bool false] 28)) false) := LC
  clear LC
  go_wp2_with fail
  refine Calls.mono (div_nought L5.out up) ?_
  rintro e W6 ⟨rfl, hL6, _⟩
  clear L5
  obtain ⟨Z, hZ⟩ : ∃ Z, noughtF x = Z := ⟨_, rfl⟩
  rw [hZ]
  have HZ : Hid (noughtF x = Z) := hZ
  clear hZ
  go_wp2_with fail
  refine Calls.mono (alive_live hL6 HM.out.1 HM.out.2) ?_
  rintro e W7 ⟨rfl, hL7, _⟩
  have hc7 := hL7.cell
  have HB7 : Hid (Below w.heap.size w W7) := hL7.below
  clear hL6 hL7
  by_cases p1 : 0 < x
  · have hz := HZ.out
    unfold noughtF at hz
    rw [if_neg (by omega), if_neg (by omega)] at hz
    subst hz
    clear HZ
    go_wp2
    go_ret
    exact ⟨rfl, HB7.out⟩
  · have pd1 : decide (0 < x) = false := by simpa using p1
    by_cases p2 : x < 0
    · have hz := HZ.out
      unfold noughtF at hz
      rw [if_pos p2] at hz
      subst hz
      clear HZ
      go_wp2
      go_ret
      exact ⟨rfl, HB7.out⟩
    · obtain rfl : x = 0 := by omega
      have hz : (0 : Int) = Z := HZ.out
      subst hz
      clear HZ
      go_wp2
      go_ret
      exact ⟨rfl, HB7.out⟩
end Go.Proofs.YtpojkaeclfgfkabDoor
