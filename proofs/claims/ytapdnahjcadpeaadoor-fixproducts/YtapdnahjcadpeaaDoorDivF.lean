/- The contract of fix's Div, of an Acc that the law itself made. Conditions: the numbers' own ranges. -/
import Derived.Test.YtapdnahjcadpeaaDoorLive
import Derived.Test.YtapdnahjcadpeaaDoorDiv
namespace Go.Proofs.YtapdnahjcadpeaaDoor
open Go.RowKit
set_option linter.unusedVariables false
set_option maxRecDepth 100000

/-- What is divided by the divisor's size, with the quotient's sign. -/
def numF (x y : Int) : Int := if (decide (x < 0) != decide (y < 0)) = true then -(absF x * 4294967296) else absF x * 4294967296
/-- The quotient as numbers of 2^-32, rounded down or up; y is not nought. -/
def divF (x y : Int) (up : Bool) : Int := if up then -(-(numF x y) / absF y) else numF x y / absF y
theorem rnd_by (P q r d : Int) (cut below up : Bool) (hd : 0 < d) (h0 : 0 ≤ r) (h1 : r < d) (hP : P = (if below then -(q * d + r) else q * d + r)) (hc : cut = decide (r ≠ 0)) :
    rnd q cut below up = if up then -(-P / d) else P / d := by
  subst hP hc
  have e1 : (q * d + r) / d = q := by rw [Int.add_comm, Int.add_mul_ediv_right _ _ (by omega), Int.ediv_eq_zero_of_lt h0 h1]; omega
  have e2 : r = 0 → -(q * d + r) / d = -q := by
    intro h; subst h; rw [Int.add_zero, ← Int.neg_mul, Int.mul_ediv_cancel _ (by omega)]
  have e3 : ¬ r = 0 → -(q * d + r) / d = -q - 1 := by
    intro h
    have e : -(q * d + r) = (d - r) + (-q - 1) * d := by rw [Int.sub_mul, Int.neg_mul, Int.one_mul]; omega
    rw [e, Int.add_mul_ediv_right _ _ (by omega), Int.ediv_eq_zero_of_lt (by omega) (by omega)]; omega
  by_cases hr : r = 0
  · have e4 := e2 hr
    subst hr
    rw [Int.add_zero] at e1 e4
    rw [Int.add_zero]
    cases below <;> cases up <;> simp only [rnd, Bool.false_eq_true, if_true, if_false, e1, e4, Int.neg_neg] <;> simp
  · have := e3 hr
    cases below <;> cases up <;> simp only [rnd] <;> simp <;> omega
theorem rnd_div (x y q r : Int) (up : Bool) (hd : 0 < absF y) (hq : absF x * 4294967296 / absF y = q) (hr : absF x * 4294967296 % absF y = r) :
    rnd q (decide (r ≠ 0)) (decide (x < 0) != decide (y < 0)) up = divF x y up := by
  have e := Int.emod_add_mul_ediv (absF x * 4294967296) (absF y)
  rw [hq, hr, Int.mul_comm (absF y)] at e
  rw [rnd_by (numF x y) q r (absF y) _ _ up hd (by rw [← hr]; exact Int.emod_nonneg _ (by omega)) (by rw [← hr]; exact Int.emod_lt_of_pos _ hd) (by unfold numF; rw [show q * absF y + r = absF x * 4294967296 by omega]) rfl]
  rfl
theorem divF_far (x y : Int) (up : Bool) (hd : 0 < absF y) (h : absF y ≤ absF x / 4294967296) : if (decide (x < 0) != decide (y < 0)) = true then divF x y up < -9223372036854775808 else 9223372036854775807 < divF x y up := by
  have hq : 18446744073709551616 ≤ absF x * 4294967296 / absF y := by
    apply Int.le_ediv_of_mul_le hd
    omega
  rw [← rnd_div x y _ _ up hd rfl rfl]
  generalize absF x * 4294967296 / absF y = q at *
  generalize decide (absF x * 4294967296 % absF y ≠ 0) = c
  cases decide (x < 0) <;> cases decide (y < 0) <;> cases c <;> cases up <;> simp [rnd] <;> omega
theorem div_parts (a : Int) (h0 : 0 ≤ a) (h1 : a ≤ 9223372036854775808) : a / 4294967296 * 18446744073709551616 + IntKind.u64.wrap (a * 4294967296) = a * 4294967296 := by
  rw [IntKind.wrap_u64]; omega
theorem div64_any (hi lo y : Int) (w : World) (h0 : 0 ≤ hi) (h1 : hi < y) (l0 : 0 ≤ lo) (l1 : lo < 18446744073709551616) (y1 : y < 18446744073709551616) :
    Calls Tryd.prog 41 #[.int .u64 hi, .int .u64 lo, .int .u64 y] w fun e w' => e = .returned (.tuple #[.int .u64 ((hi * 18446744073709551616 + lo) / y), .int .u64 ((hi * 18446744073709551616 + lo) % y)]) ∧ Below w.heap.size w w' := by
  by_cases h : hi = 0
  · subst h
    have := div64_low lo y w l0 l1 h1 y1
    rw [Int.zero_mul, Int.zero_add]; exact this
  · exact div64_high hi lo y w (by omega) h1 l0 l1 y1

set_option maxHeartbeats 2000000 in
theorem div_live {w W : World} {b : Nat} {o : Bool} (L : Live w b W o) {x y : Int} (up : Bool) (x1 : -9223372036854775808 ≤ x) (x2 : x ≤ 9223372036854775807) (y1 : -9223372036854775808 ≤ y) (y2 : y ≤ 9223372036854775807) (hy : y ≠ 0) :
    Calls Tryd.prog 14 #[.pointer (some ⟨b, 0, none⟩), .int .i64 x, .int .i64 y, .bool up] W (Says w b o W (divF x y up)) := by
  have ax := absF_bd x x1 x2
  have ay := absF_bd y y1 y2
  have ay0 : 0 < absF y := by unfold absF; omega
  have hne : (y == 0) = false := by rw [beq_eq_false_iff_ne]; exact hy
  by_cases hfar : absF y ≤ absF x / 4294967296
  · have hf := divF_far x y up ay0 hfar
    have HT : Hid (∀ below, (decide (x < 0) != decide (y < 0)) = below → Calls Tryd.prog 29 #[.pointer (some ⟨b, 0, none⟩), .bool below] W (Says w b o W (divF x y up))) := by
      rintro below rfl
      refine Calls.mono (end_any _ o _ W L.acc) ?_
      rintro e w' ⟨rfl, rfl⟩
      revert hf
      cases (decide (x < 0) != decide (y < 0)) with
      | true => intro hf; exact says_of L (Kept.refl b W) (tells_lo (by simpa using hf))
      | false => intro hf; exact says_of L (Kept.refl b W) (tells_hi (by simpa using hf))
    clear hf
    by_cases hx : x < 0 <;> by_cases hyn : y < 0
    · have HT2 : Hid (Calls Tryd.prog 29 #[.pointer (some ⟨b, 0, none⟩), .bool false] W (Says w b o W (divF x y up))) := HT.out _ (by simp [hx, hyn])
      clear HT
      generalize hV : divF x y up = V at *
      go_enter Tryd.func14, Tryd.ntmps14
      go_wp2_with (go_at_call 36; refine (sizeOf_any _ _ (by omega) (by omega)).mono ?_; rintro e w' ⟨rfl, hw⟩; have hw' := hw.symm; subst hw'; clear hw)
      refine Calls.mono HT2.out ?_
      rintro e w' ⟨rfl, L1, L2⟩
      go_wp2
      go_ret
      exact ⟨rfl, L1, L2⟩
    · have HT2 : Hid (Calls Tryd.prog 29 #[.pointer (some ⟨b, 0, none⟩), .bool true] W (Says w b o W (divF x y up))) := HT.out _ (by simp [hx]; omega)
      have hd2 : decide (y < 0) = false := by simpa using hyn
      clear HT
      generalize hV : divF x y up = V at *
      go_enter Tryd.func14, Tryd.ntmps14
      go_wp2_with (go_at_call 36; refine (sizeOf_any _ _ (by omega) (by omega)).mono ?_; rintro e w' ⟨rfl, hw⟩; have hw' := hw.symm; subst hw'; clear hw)
      refine Calls.mono HT2.out ?_
      rintro e w' ⟨rfl, L1, L2⟩
      go_wp2
      go_ret
      exact ⟨rfl, L1, L2⟩
    · have HT2 : Hid (Calls Tryd.prog 29 #[.pointer (some ⟨b, 0, none⟩), .bool true] W (Says w b o W (divF x y up))) := HT.out _ (by simp [hyn]; omega)
      have hd1 : decide (x < 0) = false := by simpa using hx
      clear HT
      generalize hV : divF x y up = V at *
      go_enter Tryd.func14, Tryd.ntmps14
      go_wp2_with (go_at_call 36; refine (sizeOf_any _ _ (by omega) (by omega)).mono ?_; rintro e w' ⟨rfl, hw⟩; have hw' := hw.symm; subst hw'; clear hw)
      refine Calls.mono HT2.out ?_
      rintro e w' ⟨rfl, L1, L2⟩
      go_wp2
      go_ret
      exact ⟨rfl, L1, L2⟩
    · have HT2 : Hid (Calls Tryd.prog 29 #[.pointer (some ⟨b, 0, none⟩), .bool false] W (Says w b o W (divF x y up))) := HT.out _ (by simp; omega)
      have hd1 : decide (x < 0) = false := by simpa using hx
      have hd2 : decide (y < 0) = false := by simpa using hyn
      clear HT
      generalize hV : divF x y up = V at *
      go_enter Tryd.func14, Tryd.ntmps14
      go_wp2_with (go_at_call 36; refine (sizeOf_any _ _ (by omega) (by omega)).mono ?_; rintro e w' ⟨rfl, hw⟩; have hw' := hw.symm; subst hw'; clear hw)
      refine Calls.mono HT2.out ?_
      rintro e w' ⟨rfl, L1, L2⟩
      go_wp2
      go_ret
      exact ⟨rfl, L1, L2⟩
  · have hpar := div_parts (absF x) ax.1 ax.2
    have hfar' : decide (absF y ≤ absF x / 4294967296) = false := by simpa using hfar
    obtain ⟨q, hq⟩ : ∃ q, absF x * 4294967296 / absF y = q := ⟨_, rfl⟩
    obtain ⟨r, hr⟩ : ∃ r, absF x * 4294967296 % absF y = r := ⟨_, rfl⟩
    have hrd := rnd_div x y q r up ay0 hq hr
    have q0 : 0 ≤ q := by rw [← hq]; exact Int.ediv_nonneg (by omega) (by omega)
    have q1 : q < 18446744073709551616 := by
      rw [← hq]; apply Int.ediv_lt_of_lt_mul ay0; omega
    have r0 : 0 ≤ r := by rw [← hr]; exact Int.emod_nonneg _ (by omega)
    have hl0 : 0 ≤ IntKind.u64.wrap (absF x * 4294967296) ∧ IntKind.u64.wrap (absF x * 4294967296) < 18446744073709551616 := by rw [IntKind.wrap_u64]; omega
    have HD : Hid (∀ w, Calls Tryd.prog 41 #[.int .u64 (absF x / 4294967296), .int .u64 (IntKind.u64.wrap (absF x * 4294967296)), .int .u64 (absF y)] w fun e w' => e = .returned (.tuple #[.int .u64 q, .int .u64 r]) ∧ Below w.heap.size w w') := fun w => by
      have := div64_any (absF x / 4294967296) (IntKind.u64.wrap (absF x * 4294967296)) (absF y) w (by omega) (by omega) hl0.1 hl0.2 (by omega)
      rw [hpar, hq, hr] at this; exact this
    have HR : Hid (∀ W' below, (decide (x < 0) != decide (y < 0)) = below → Below W.heap.size W W' → Calls Tryd.prog 37 #[.pointer (some ⟨b, 0, none⟩), .int .u64 q, .bool (r != 0), .bool below, .bool up] W' (Says w b o W (divF x y up))) := by
      rintro W' below rfl hb
      have L' := L.stays hb
      rw [← hrd, ne_dec]
      exact Calls.mono (round_any _ o _ _ up q W' L'.acc q0 q1) fun _ _ t => says_of L' (Kept.of_below hb) t
    clear hpar hq hr hrd hfar
    generalize hlo : IntKind.u64.wrap (absF x * 4294967296) = lo at *
    by_cases hx : x < 0 <;> by_cases hyn : y < 0
    · have HR2 : Hid (∀ W', Below W.heap.size W W' → Calls Tryd.prog 37 #[.pointer (some ⟨b, 0, none⟩), .int .u64 q, .bool (r != 0), .bool false, .bool up] W' (Says w b o W (divF x y up))) := fun W' hb => HR.out W' _ (by simp [hx, hyn]) hb
      clear HR
      generalize hV : divF x y up = V at *
      go_enter Tryd.func14, Tryd.ntmps14
      go_wp2_with (go_at_call 36; refine (sizeOf_any _ _ (by omega) (by omega)).mono ?_; rintro e w' ⟨rfl, hw⟩; have hw' := hw.symm; subst hw'; clear hw)
      refine Calls.mono (HD.out _) ?_
      rintro e w1 ⟨rfl, hb⟩
      have HB : Hid (Below W.heap.size W w1) := hb
      clear hb
      go_wp2_with fail
      refine Calls.mono (HR2.out _ HB.out) ?_
      rintro e w' ⟨rfl, L1, L2⟩
      go_wp2
      go_ret
      exact ⟨rfl, L1, L2⟩
    · have HR2 : Hid (∀ W', Below W.heap.size W W' → Calls Tryd.prog 37 #[.pointer (some ⟨b, 0, none⟩), .int .u64 q, .bool (r != 0), .bool true, .bool up] W' (Says w b o W (divF x y up))) := fun W' hb => HR.out W' _ (by simp [hx]; omega) hb
      have hd2 : decide (y < 0) = false := by simpa using hyn
      clear HR
      generalize hV : divF x y up = V at *
      go_enter Tryd.func14, Tryd.ntmps14
      go_wp2_with (go_at_call 36; refine (sizeOf_any _ _ (by omega) (by omega)).mono ?_; rintro e w' ⟨rfl, hw⟩; have hw' := hw.symm; subst hw'; clear hw)
      refine Calls.mono (HD.out _) ?_
      rintro e w1 ⟨rfl, hb⟩
      have HB : Hid (Below W.heap.size W w1) := hb
      clear hb
      go_wp2_with fail
      refine Calls.mono (HR2.out _ HB.out) ?_
      rintro e w' ⟨rfl, L1, L2⟩
      go_wp2
      go_ret
      exact ⟨rfl, L1, L2⟩
    · have HR2 : Hid (∀ W', Below W.heap.size W W' → Calls Tryd.prog 37 #[.pointer (some ⟨b, 0, none⟩), .int .u64 q, .bool (r != 0), .bool true, .bool up] W' (Says w b o W (divF x y up))) := fun W' hb => HR.out W' _ (by simp [hyn]; omega) hb
      have hd1 : decide (x < 0) = false := by simpa using hx
      clear HR
      generalize hV : divF x y up = V at *
      go_enter Tryd.func14, Tryd.ntmps14
      go_wp2_with (go_at_call 36; refine (sizeOf_any _ _ (by omega) (by omega)).mono ?_; rintro e w' ⟨rfl, hw⟩; have hw' := hw.symm; subst hw'; clear hw)
      refine Calls.mono (HD.out _) ?_
      rintro e w1 ⟨rfl, hb⟩
      have HB : Hid (Below W.heap.size W w1) := hb
      clear hb
      go_wp2_with fail
      refine Calls.mono (HR2.out _ HB.out) ?_
      rintro e w' ⟨rfl, L1, L2⟩
      go_wp2
      go_ret
      exact ⟨rfl, L1, L2⟩
    · have HR2 : Hid (∀ W', Below W.heap.size W W' → Calls Tryd.prog 37 #[.pointer (some ⟨b, 0, none⟩), .int .u64 q, .bool (r != 0), .bool false, .bool up] W' (Says w b o W (divF x y up))) := fun W' hb => HR.out W' _ (by simp; omega) hb
      have hd1 : decide (x < 0) = false := by simpa using hx
      have hd2 : decide (y < 0) = false := by simpa using hyn
      clear HR
      generalize hV : divF x y up = V at *
      go_enter Tryd.func14, Tryd.ntmps14
      go_wp2_with (go_at_call 36; refine (sizeOf_any _ _ (by omega) (by omega)).mono ?_; rintro e w' ⟨rfl, hw⟩; have hw' := hw.symm; subst hw'; clear hw)
      refine Calls.mono (HD.out _) ?_
      rintro e w1 ⟨rfl, hb⟩
      have HB : Hid (Below W.heap.size W w1) := hb
      clear hb
      go_wp2_with fail
      refine Calls.mono (HR2.out _ HB.out) ?_
      rintro e w' ⟨rfl, L1, L2⟩
      go_wp2
      go_ret
      exact ⟨rfl, L1, L2⟩
/-- By nought. -/
def noughtF (x : Int) : Int := if x < 0 then -9223372036854775808 else if x = 0 then 0 else 9223372036854775807
set_option maxHeartbeats 600000 in
theorem div_nought {w W : World} {b : Nat} {o : Bool} (L : Live w b W o) {x : Int} (up : Bool) :
    Calls Tryd.prog 14 #[.pointer (some ⟨b, 0, none⟩), .int .i64 x, .int .i64 0, .bool up] W fun e W' => e = .returned (.int .i64 (noughtF x)) ∧ Live w b W' true ∧ Kept b W W' := by
  have HB : Hid (Calls Tryd.prog 40 #[.pointer (some ⟨b, 0, none⟩), .int .i64 x] W fun e W' => e = .returned (.int .i64 (noughtF x)) ∧ W' = accSet W (some ⟨b, 0, none⟩) true) := by
    have h := L.acc
    by_cases h0 : x = 0
    · subst h0
      go_enter Tryd.func40, Tryd.ntmps40
      go_wp2_with (go_at_call 52; refine (note_any _ _ _ h).mono ?_; rintro e w' ⟨rfl, rfl⟩)
      go_ret
      exact ⟨rfl, rfl⟩
    · have h0' : (x == 0) = false := by rw [beq_eq_false_iff_ne]; exact h0
      by_cases hx : x < 0
      · have e : Hid (noughtF x = endF true) := by unfold noughtF; rw [if_pos hx]; rfl
        go_enter Tryd.func40, Tryd.ntmps40
        go_wp2_with (go_at_call 29; refine (end_any _ _ _ _ h).mono ?_; rintro e w' ⟨rfl, rfl⟩)
        go_ret
        exact ⟨by rw [e.out]; rfl, rfl⟩
      · have e : Hid (noughtF x = endF false) := by unfold noughtF; rw [if_neg hx, if_neg h0]; rfl
        have hd : decide (x < 0) = false := by simpa using hx
        go_enter Tryd.func40, Tryd.ntmps40
        go_wp2_with (go_at_call 29; refine (end_any _ _ _ _ h).mono ?_; rintro e w' ⟨rfl, rfl⟩)
        go_ret
        exact ⟨by rw [e.out]; rfl, rfl⟩
  have HL : Hid (Live w b (accSet W (some ⟨b, 0, none⟩) true) true ∧ Kept b W (accSet W (some ⟨b, 0, none⟩) true)) := ⟨L.set true, Kept.setCell b W 0 _⟩
  clear L
  go_enter Tryd.func14, Tryd.ntmps14
  go_wp2_with fail
  refine Calls.mono HB.out ?_
  rintro e w' ⟨rfl, hw⟩
  subst hw
  go_wp2
  go_ret
  exact ⟨rfl, HL.out.1, HL.out.2⟩
end Go.Proofs.YtapdnahjcadpeaaDoor
