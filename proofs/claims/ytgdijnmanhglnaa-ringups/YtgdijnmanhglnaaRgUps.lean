/- RingUps: the law's walk. Conditions: none but the numbers' own ranges. -/
import Derived.Test.YtgdijnmanhglnaaRingI
namespace Go.Proofs.Ytgdijnmanhglnaa
open Go.RowKit
set_option linter.unusedVariables false
set_option maxRecDepth 100000

theorem up_one {W : World} {c : Nat} {most now : Int} (h : CountAt W c most now) (x v : Int) (hv : min (now + max x 0) most = v) (g : Nat) (hg : g = W.heap.size) :
    Calls Try.prog 27 #[.pointer (some ⟨c, 0, none⟩), .slice (some ⟨g, 0, none⟩) 1 1] (W.alloc (.cells #[.int .i64 x] 3)) fun e w' => e = .returned (.int .i64 v) ∧ CountAt w' c most v ∧ Mod [c] W w' := by
  subst hg
  have hal := (Below.refl W.heap.size W).alloc (Nat.le_refl _) (.cells #[.int .i64 x] 3)
  have t := up_any (h.below hal) (some ⟨W.heap.size, 0, none⟩) [x] 1 (row_lit W [x] _ _ rfl) (off_new _ _ (by have := h.lt; simp; omega)) (by simp)
  rw [show upL most now (upsOf [x]) = v by rw [← hv]; simp [upL, upsOf, upS]; have := h.hi; omega] at t
  exact Calls.mono t fun e w' ⟨h1, h2, h3⟩ => ⟨h1, h2, (Mod.of_below hal).trans h3⟩
theorem up_two {W : World} {c : Nat} {most now : Int} (h : CountAt W c most now) (g : Nat) (hg : g = W.heap.size) :
    Calls Try.prog 27 #[.pointer (some ⟨c, 0, none⟩), .slice (some ⟨g, 0, none⟩) 2 2] (W.alloc (.cells #[.int .i64 0, .int .i64 (-1)] 3)) fun e w' => e = .returned (.int .i64 now) ∧ CountAt w' c most now ∧ Mod [c] W w' := by
  subst hg
  have hal := (Below.refl W.heap.size W).alloc (Nat.le_refl _) (.cells #[.int .i64 0, .int .i64 (-1)] 3)
  have t := up_any (h.below hal) (some ⟨W.heap.size, 0, none⟩) [0, -1] 2 (row_lit W [0, -1] _ _ rfl) (off_new _ _ (by have := h.lt; simp; omega)) (by simp)
  rw [show upL most now (upsOf [0, -1]) = now by simp [upL, upsOf, upS]; have := h.hi; omega] at t
  exact Calls.mono t fun e w' ⟨h1, h2, h3⟩ => ⟨h1, h2, (Mod.of_below hal).trans h3⟩
set_option maxHeartbeats 4000000 in
theorem ups_none (most : Int) (a : Option Addr) (len cap : Nat) (w : World) (h : most < 0 ∨ 1099511627776 < most ∨ 200 < len) :
    Calls Try.prog 8 #[.int .i64 most, .slice a len cap] w fun e w' => e = .returned (.bool true) ∧ Below w.heap.size w w' := by
  by_cases h1 : most < 0
  · clear h
    go_enter Try.func8, Try.ntmps8
    go_wp2_with (go_at_call 9; refine (alive_any _).mono ?_; rintro e w' ⟨rfl, hb⟩)
    go_ret
    exact ⟨rfl, hb⟩
  · by_cases h2 : 1099511627776 < most
    · clear h
      go_enter Try.func8, Try.ntmps8
      go_wp2_with (go_at_call 9; refine (alive_any _).mono ?_; rintro e w' ⟨rfl, hb⟩)
      go_ret
      exact ⟨rfl, hb⟩
    · have h3 : (200 : Int) < (len : Int) := by omega
      clear h
      go_enter Try.func8, Try.ntmps8
      go_wp2_with (go_at_call 9; refine (alive_any _).mono ?_; rintro e w' ⟨rfl, hb⟩)
      go_ret
      exact ⟨rfl, hb⟩
set_option maxHeartbeats 8000000 in
theorem ups_some (most : Int) (a : Option Addr) (cap : Nat) (zs : List Int) (w : World) (hz : IntRow w a zs) (h64 : ∀ z ∈ zs, B64 z) (h0 : 0 ≤ most) (h1 : most ≤ 1099511627776) (h2 : zs.length ≤ 200) :
    Calls Try.prog 8 #[.int .i64 most, .slice a zs.length cap] w fun e w' => e = .returned (.bool true) ∧ Below w.heap.size w w' := by
  have HZ : Hid (IntRow w a zs) := hz
  have H64 : Hid (∀ z ∈ zs, B64 z) := h64
  clear hz h64
  go_enter Try.func8, Try.ntmps8
  go_wp2_with fail
  refine Calls.mono (newcount_ok most w h0 (by omega)) ?_
  rintro e w1 ⟨c, rfl, hc, hC, hB⟩
  have HC : Hid (CountAt w1 c most 0) := hC
  have HB : Hid (Below w.heap.size w w1) := hB
  have Hc : Hid (w.heap.size ≤ c) := hc
  clear hc hC hB
  go_wp2
  go_loopw [7, 8] (fun v i wr => ∃ (k : Nat) (y : Int), k ≤ zs.length ∧ i = .int .i64 k ∧ v = .int .i64 y ∧ CountAt wr c most y ∧ Below w.heap.size w wr) (fun _ i _ => zs.length - (intOf i).toNat)
  case atStart => exact ⟨0, 0, Nat.zero_le _, rfl, rfl, HC.out, HB.out⟩
  case round =>
    obtain ⟨k, y, hk, rfl, rfl, hC, hB⟩ := hrel
    clear HC HB
    have HC : Hid (CountAt wr c most y) := hC
    have HB : Hid (Below w.heap.size w wr) := hB
    have y0 := hC.lo
    have y1 := hC.hi
    clear hC hB
    by_cases hlt : k < zs.length
    · obtain ⟨b', off, rfl, hcell⟩ := (HZ.out.below HB.out) k hlt
      have hx := b64_getD H64.out k
      generalize zs.getD k 0 = x at *
      obtain ⟨hx1, hx2⟩ := hx
      by_cases hbig : 1099511627776 < x
      · go_wp2_with (go_at_call 9; refine (alive_any _).mono ?_; rintro e w' ⟨rfl, hb⟩)
        go_ret
        exact ⟨rfl, HB.out.trans (hb.mono HB.out.size)⟩
      · by_cases hx0 : x ≤ 0
        · by_cases hxn : x < 0
          · have HV : Hid (min (y + max x 0) most = y) := by show _ = _; omega
            go_wp2_with fail
            refine Calls.mono (up_one HC.out x _ HV.out _ rfl) ?_
            rintro e w2 ⟨rfl, hC2, hM2⟩
            have HC2 : Hid (CountAt w2 c most (y)) := hC2
            have HB2 : Hid (Below w.heap.size w w2) := hM2.below HB.out (by have := Hc.out; simpa using this)
            clear hC2 hM2
            go_wp2_with fail
            refine Calls.mono (up_two HC2.out _ rfl) ?_
            rintro e w3 ⟨rfl, hC3, hM3⟩
            have HC3 : Hid (CountAt w3 c most (y)) := hC3
            have HB3 : Hid (Below w.heap.size w w3) := hM3.below HB2.out (by have := Hc.out; simpa using this)
            clear hC3 hM3
            go_wp2
            go_roundw
            case rel => exact ⟨k + 1, _, by omega, by go_num, rfl, HC3.out, HB3.out⟩
            case measure => simp [intOf]; omega
          · obtain rfl : x = 0 := by omega
            have HV : Hid (min (y + max (0 : Int) 0) most = y) := by show _ = _; omega
            go_wp2_with fail
            refine Calls.mono (up_one HC.out 0 _ HV.out _ rfl) ?_
            rintro e w2 ⟨rfl, hC2, hM2⟩
            have HC2 : Hid (CountAt w2 c most (y)) := hC2
            have HB2 : Hid (Below w.heap.size w w2) := hM2.below HB.out (by have := Hc.out; simpa using this)
            clear hC2 hM2
            go_wp2_with fail
            refine Calls.mono (up_two HC2.out _ rfl) ?_
            rintro e w3 ⟨rfl, hC3, hM3⟩
            have HC3 : Hid (CountAt w3 c most (y)) := hC3
            have HB3 : Hid (Below w.heap.size w w3) := hM3.below HB2.out (by have := Hc.out; simpa using this)
            clear hC3 hM3
            go_wp2
            go_roundw
            case rel => exact ⟨k + 1, _, by omega, by go_num, rfl, HC3.out, HB3.out⟩
            case measure => simp [intOf]; omega
        · by_cases hm : y + x ≤ most
          · have HV : Hid (min (y + max x 0) most = y + x) := by show _ = _; omega
            go_wp2_with fail
            refine Calls.mono (up_one HC.out x _ HV.out _ rfl) ?_
            rintro e w2 ⟨rfl, hC2, hM2⟩
            have HC2 : Hid (CountAt w2 c most (y + x)) := hC2
            have HB2 : Hid (Below w.heap.size w w2) := hM2.below HB.out (by have := Hc.out; simpa using this)
            clear hC2 hM2
            go_wp2_with fail
            refine Calls.mono (up_two HC2.out _ rfl) ?_
            rintro e w3 ⟨rfl, hC3, hM3⟩
            have HC3 : Hid (CountAt w3 c most (y + x)) := hC3
            have HB3 : Hid (Below w.heap.size w w3) := hM3.below HB2.out (by have := Hc.out; simpa using this)
            clear hC3 hM3
            go_wp2
            go_roundw
            case rel => exact ⟨k + 1, _, by omega, by go_num, rfl, HC3.out, HB3.out⟩
            case measure => simp [intOf]; omega
          · have HV : Hid (min (y + max x 0) most = most) := by show _ = _; omega
            go_wp2_with fail
            refine Calls.mono (up_one HC.out x _ HV.out _ rfl) ?_
            rintro e w2 ⟨rfl, hC2, hM2⟩
            have HC2 : Hid (CountAt w2 c most (most)) := hC2
            have HB2 : Hid (Below w.heap.size w w2) := hM2.below HB.out (by have := Hc.out; simpa using this)
            clear hC2 hM2
            go_wp2_with fail
            refine Calls.mono (up_two HC2.out _ rfl) ?_
            rintro e w3 ⟨rfl, hC3, hM3⟩
            have HC3 : Hid (CountAt w3 c most (most)) := hC3
            have HB3 : Hid (Below w.heap.size w w3) := hM3.below HB2.out (by have := Hc.out; simpa using this)
            clear hC3 hM3
            go_wp2
            go_roundw
            case rel => exact ⟨k + 1, _, by omega, by go_num, rfl, HC3.out, HB3.out⟩
            case measure => simp [intOf]; omega
    · by_cases hm : y + 1 ≤ most
      · have HV : Hid (upL most y (upsOf []) = y + 1) := by show _ = _; simp [upL, upsOf, upS]; omega
        go_wp2_with fail
        refine Calls.mono (up_any HC.out none [] 0 (fun i hi => by simp at hi) (fun x hx => by cases hx) (by simp)) ?_
        rintro e w2 ⟨rfl, hC2, hM2⟩
        have HC2 : Hid (CountAt w2 c most (y + 1)) := by rw [HV.out] at hC2; exact hC2
        have HB2 : Hid (Below w.heap.size w w2) := hM2.below HB.out (by have := Hc.out; simpa using this)
        clear hC2 hM2
        rw [HV.out]
        go_wp2_with fail
        refine Calls.mono (zero_any HC2.out) ?_
        rintro e w3 ⟨rfl, hC3, hM3⟩
        have HC3 : Hid (CountAt w3 c most 0) := hC3
        have HB3 : Hid (Below w.heap.size w w3) := hM3.below HB2.out (by have := Hc.out; simpa using this)
        clear hC3 hM3
        go_wp2_with fail
        refine Calls.mono (alive_any _) ?_
        rintro e w4 ⟨rfl, hb⟩
        have HC4 : Hid (CountAt w4 c most 0) := HC3.out.below hb
        have HB4 : Hid (Below w.heap.size w w4) := HB3.out.trans (hb.mono HB3.out.size)
        clear hb
        go_wp2_with fail
        refine Calls.mono (now_any HC4.out) ?_
        rintro e w' ⟨rfl, hw⟩
        have hw' := hw.symm; subst hw'; clear hw
        go_wp2
        go_ret
        exact ⟨rfl, HB4.out⟩
      · have HV : Hid (upL most y (upsOf []) = most) := by show _ = _; simp [upL, upsOf, upS]; omega
        go_wp2_with fail
        refine Calls.mono (up_any HC.out none [] 0 (fun i hi => by simp at hi) (fun x hx => by cases hx) (by simp)) ?_
        rintro e w2 ⟨rfl, hC2, hM2⟩
        have HC2 : Hid (CountAt w2 c most (most)) := by rw [HV.out] at hC2; exact hC2
        have HB2 : Hid (Below w.heap.size w w2) := hM2.below HB.out (by have := Hc.out; simpa using this)
        clear hC2 hM2
        rw [HV.out]
        go_wp2_with fail
        refine Calls.mono (zero_any HC2.out) ?_
        rintro e w3 ⟨rfl, hC3, hM3⟩
        have HC3 : Hid (CountAt w3 c most 0) := hC3
        have HB3 : Hid (Below w.heap.size w w3) := hM3.below HB2.out (by have := Hc.out; simpa using this)
        clear hC3 hM3
        go_wp2_with fail
        refine Calls.mono (alive_any _) ?_
        rintro e w4 ⟨rfl, hb⟩
        have HC4 : Hid (CountAt w4 c most 0) := HC3.out.below hb
        have HB4 : Hid (Below w.heap.size w w4) := HB3.out.trans (hb.mono HB3.out.size)
        clear hb
        go_wp2_with fail
        refine Calls.mono (now_any HC4.out) ?_
        rintro e w' ⟨rfl, hw⟩
        have hw' := hw.symm; subst hw'; clear hw
        go_wp2
        go_ret
        exact ⟨rfl, HB4.out⟩
theorem ups_any (most : Int) (a : Option Addr) (len cap : Nat) (zs : List Int) (w : World) (hm : -9223372036854775808 ≤ most ∧ most ≤ 9223372036854775807) (h : IsInts w a len cap zs) :
    Calls Try.prog 8 #[.int .i64 most, .slice a len cap] w fun e w' => e = .returned (.bool true) ∧ Below w.heap.size w w' := by
  by_cases hc : most < 0 ∨ 1099511627776 < most ∨ 200 < len
  · exact ups_none most a len cap w hc
  · obtain ⟨r1, r2, r3, r4⟩ := h.row
    have := ups_some most a cap (zs.take len) w r1 r3 (by omega) (by omega) (by omega)
    rw [r2] at this; exact this
end Go.Proofs.Ytgdijnmanhglnaa
