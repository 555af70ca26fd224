/- FixOrder: bytes have an order that goes on; of numbers with as many digits the greater one has the greater digits: the law's walk. Conditions: the library's own variables as they are laid. -/
import Derived.Test.YtpojkaeclfgfkabDoorOrder
namespace Go.Proofs.YtpojkaeclfgfkabDoor
open Go.RowKit
set_option linter.unusedVariables false
set_option maxRecDepth 100000

theorem bytes_toList (a : ByteArray) : a.toList = a.data.toList := Lib.toList_data a
set_option maxHeartbeats 600000 in
theorem order_many (a b c : ByteArray) (n m : Int) (w : World) (hm : MaxLenIs w) (ht : PowsAre w) (h1 : a.size ≤ 140737488351232) (h2 : b.size ≤ 140737488351232) (h3 : c.size ≤ 140737488351232) (h : 6000 < a.size + b.size + c.size) :
    Calls Tryd.prog 3 #[.string a, .string b, .string c, .int .i64 n, .int .i64 m] w fun e w' => e = .returned (.bool true) ∧ Below w.heap.size w w' := by
  have HA : Hid (Calls Tryd.prog 9 #[] w fun e w' => e = .returned (.bool true) ∧ Below w.heap.size w w') := alive_any w hm ht
  clear hm ht
  go_enter Tryd.func3, Tryd.ntmps3
  go_wp2_with fail
  refine Calls.mono HA.out ?_
  rintro e w1 ⟨rfl, hbel⟩
  go_wp2
  go_ret
  exact ⟨rfl, hbel⟩

set_option maxHeartbeats 1000000 in
theorem order_few (a b c : ByteArray) (n m X Y Z : Int) (w : World) (hm : MaxLenIs w) (ht : PowsAre w) (h : a.size + b.size + c.size ≤ 6000) (n1 : -9223372036854775808 ≤ n) (n2 : n ≤ 9223372036854775807) (m1 : -9223372036854775808 ≤ m) (m2 : m ≤ 9223372036854775807)
    (hX : Lib.compareBytes a.data.toList b.data.toList = X) (hY : Lib.compareBytes b.data.toList c.data.toList = Y) (hZ : Lib.compareBytes a.data.toList c.data.toList = Z) :
    Calls Tryd.prog 3 #[.string a, .string b, .string c, .int .i64 n, .int .i64 m] w fun e w' => e = .returned (.bool true) ∧ Below w.heap.size w w' := by
  have hXv : -1 ≤ X ∧ X ≤ 1 := by have := cmp_vals a.data.toList b.data.toList; omega
  have hT : X ≤ 0 → Y ≤ 0 → Z ≤ 0 := fun e1 e2 => by have := cmp_trans a.data.toList b.data.toList c.data.toList (by omega) (by omega); omega
  have HX : Hid (∀ w, Calls Tryd.prog 10 #[.string a, .string b] w fun e w' => e = .returned (.int .i64 X) ∧ w' = w) := by rw [← hX]; exact compare_any a b
  have HY : Hid (∀ w, Calls Tryd.prog 10 #[.string b, .string c] w fun e w' => e = .returned (.int .i64 Y) ∧ w' = w) := by rw [← hY]; exact compare_any b c
  have HZ : Hid (∀ w, Calls Tryd.prog 10 #[.string a, .string c] w fun e w' => e = .returned (.int .i64 Z) ∧ w' = w) := by rw [← hZ]; exact compare_any a c
  have HX' : Hid (∀ w, Calls Tryd.prog 10 #[.string b, .string a] w fun e w' => e = .returned (.int .i64 (-X)) ∧ w' = w) := by rw [← hX, ← cmp_swap]; exact compare_any b a
  have hE : (X == 0) = (a.toList == b.toList) := by
    have e : (X = 0) ↔ a.data.toList = b.data.toList := by rw [← hX]; exact cmp_zero _ _
    rw [bytes_toList, bytes_toList, Bool.eq_iff_iff, beq_iff_eq, beq_iff_eq]; exact e
  have HE : Hid (MaxLenIs w ∧ PowsAre w) := ⟨hm, ht⟩
  clear hm ht hX hY hZ
  go_enter Tryd.func3, Tryd.ntmps3
  go_wp2_with fail
  refine Calls.mono (HX.out _) ?_
  rintro e w1 ⟨rfl, hw⟩
  subst hw
  go_wp2_with fail
  refine Calls.mono (HY.out _) ?_
  rintro e w2 ⟨rfl, hw⟩
  subst hw
  go_wp2_with fail
  refine Calls.mono (HZ.out _) ?_
  rintro e w3 ⟨rfl, hw⟩
  subst hw
  go_wp2_with fail
  refine Calls.mono (HX'.out _) ?_
  rintro e w4 ⟨rfl, hw⟩
  subst hw
  go_wp2_with fail
  all_goals
    refine Calls.mono (digits_any n _ n1 n2 HE.out.2) ?_
    rintro e w5 ⟨rfl, hb5⟩
    have HB5 : Hid (Below w4.heap.size w4 w5) := hb5
    clear hb5
    go_wp2_with fail
    refine Calls.mono (digits_any m _ m1 m2 (HE.out.2.stays HB5.out)) ?_
    rintro e w6 ⟨rfl, hb6⟩
    have HB6 : Hid (Below w4.heap.size w4 w6) := HB5.out.trans (hb6.mono HB5.out.size)
    clear hb6 HB5
    go_wp2_with fail
    refine Calls.mono (alive_any w6 (HE.out.1.stays HB6.out (Nat.le_refl _)) (HE.out.2.stays HB6.out)) ?_
    rintro e w7 ⟨rfl, hb7⟩
    have HB7 : Hid (Below w4.heap.size w4 w7) := HB6.out.trans (hb7.mono HB6.out.size)
    clear hb7 HB6
    go_wp2_with fail
    all_goals first | (go_ret; exact ⟨rfl, HB7.out⟩) | skip
    all_goals
      have hl : ((Lib.itoa n).length : Int) = ((Lib.itoa m).length : Int) := by assumption
      have h0 : 0 ≤ n := by assumption
      have h00 : 0 ≤ m := by assumption
      have hc := itoa_order n m h0 h00 (by omega)
      have HC : Hid (∀ w, Calls Tryd.prog 10 #[.string ⟨(Lib.itoa n).toArray⟩, .string ⟨(Lib.itoa m).toArray⟩] w fun e w' => e = .returned (.int .i64 (Lib.compareBytes (Lib.itoa n) (Lib.itoa m))) ∧ w' = w) := fun w => compare_any ⟨(Lib.itoa n).toArray⟩ ⟨(Lib.itoa m).toArray⟩ w
      generalize Lib.compareBytes (Lib.itoa n) (Lib.itoa m) = C at *
      refine Calls.mono (HC.out _) ?_
      rintro e w8 ⟨rfl, hw⟩
      subst hw
      have hd : decide (n < m) = decide (C < 0) := by rw [decide_eq_decide]; exact hc.symm
      clear hc hl HC
      by_cases hnm : n < m
      · have hC0 : C < 0 := by simpa [hnm] using hd
        clear hd
        go_wp2
        go_ret
        exact ⟨rfl, HB7.out⟩
      · have hC0 : ¬ C < 0 := by simpa [hnm] using hd
        have hd1 : decide (n < m) = false := by simpa using hnm
        have hd2 : decide (C < 0) = false := by simpa using hC0
        clear hd
        go_wp2
        go_ret
        exact ⟨rfl, HB7.out⟩

theorem order_any (a b c : ByteArray) (n m : Int) (w : World) (hm : MaxLenIs w) (ht : PowsAre w) (h1 : a.size ≤ 140737488351232) (h2 : b.size ≤ 140737488351232) (h3 : c.size ≤ 140737488351232) (n1 : -9223372036854775808 ≤ n) (n2 : n ≤ 9223372036854775807) (m1 : -9223372036854775808 ≤ m) (m2 : m ≤ 9223372036854775807) :
    Calls Tryd.prog 3 #[.string a, .string b, .string c, .int .i64 n, .int .i64 m] w fun e w' => e = .returned (.bool true) ∧ Below w.heap.size w w' := by
  by_cases h : 6000 < a.size + b.size + c.size
  · exact order_many a b c n m w hm ht h1 h2 h3 h
  · exact order_few a b c n m _ _ _ w hm ht (by omega) n1 n2 m1 m2 rfl rfl rfl
end Go.Proofs.YtpojkaeclfgfkabDoor
