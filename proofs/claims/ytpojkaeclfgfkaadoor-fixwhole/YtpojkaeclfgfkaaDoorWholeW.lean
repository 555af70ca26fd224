/- FixWhole: a whole number's text is its digits; a number and the one with the other sign have the same text but for the sign: the law's walk. Conditions: the library's own variables as they are laid. -/
import Derived.Test.YtpojkaeclfgfkaaDoorTextB
namespace Go.Proofs.YtpojkaeclfgfkaaDoor
open Go.RowKit
set_option linter.unusedVariables false
set_option maxRecDepth 100000

set_option maxHeartbeats 2000000 in
theorem whole_hi_pos (n x : Int) (w : World) (hm : MaxLenIs w) (ht : PowsAre w) (n1 : -9223372036854775808 ≤ n) (n2 : n ≤ 9223372036854775807) (x1 : -9223372036854775808 ≤ x) (x2 : x ≤ 9223372036854775807) (hn : 2147483648 ≤ n) (hx : 0 < x) :
    Calls Tryd.prog 7 #[.int .i64 n, .int .i64 x] w fun e w' => e = .returned (.bool true) ∧ Below w.heap.size w w' := by
  have HE : Hid (MaxLenIs w ∧ PowsAre w) := ⟨hm, ht⟩
  have hd1 : decide (n < 2147483648) = false := by simp; omega
  obtain ⟨T, hT, hTs⟩ : ∃ T : ByteArray, T = ⟨(textL x).toArray⟩ ∧ T.size ≤ 44 := ⟨_, rfl, text_len x (by omega) x2⟩
  have eo : (⟨#[45]⟩ : ByteArray) ++ T = ⟨(textL (-x)).toArray⟩ := by
    rw [other_text x hx, hT]; apply ByteArray.ext; rw [ByteArray.data_append]; simp
  have em : T ++ (⟨#[48]⟩ : ByteArray) = ⟨(textL x ++ [48]).toArray⟩ := by
    rw [hT]; apply ByteArray.ext; rw [ByteArray.data_append]; simp
  obtain ⟨G, H, hM, hG⟩ := parse_more x hx x2
  have HT : Hid (∀ w', Below w.heap.size w w' → Calls Tryd.prog 30 #[.int .i64 x] w' fun e w'' => e = .returned (.string T) ∧ Below w'.heap.size w' w'') := fun w' hb => by
    rw [hT]; exact text_any x w' (by omega) x2 (ht.stays hb)
  have HO : Hid (∀ w', Below w.heap.size w w' → Calls Tryd.prog 30 #[.int .i64 (-x)] w' fun e w'' => e = .returned (.string (⟨#[45]⟩ ++ T)) ∧ Below w'.heap.size w' w'') := fun w' hb => by
    rw [eo]; exact text_any (-x) w' (by omega) (by omega) (ht.stays hb)
  have HP : Hid (∀ w', Below w.heap.size w w' → Calls Tryd.prog 26 #[.string (⟨#[45]⟩ ++ T)] w' fun e w'' => e = .returned (.tuple #[.int .i64 (-x), .int .i64 0]) ∧ Below w'.heap.size w' w'') := fun w' hb => by
    rw [eo]; exact parse_back (-x) (by omega) (by omega) w' (hm.stays hb (Nat.le_refl _))
  have HM : Hid (∀ w', Below w.heap.size w w' → Calls Tryd.prog 26 #[.string (T ++ ⟨#[48]⟩)] w' fun e w'' => e = .returned (.tuple #[.int .i64 G, .int .i64 H]) ∧ Below w'.heap.size w' w'') := fun w' hb => by
    rw [em]; exact hM w' (hm.stays hb (Nat.le_refl _))
  have HG : Hid (x % 4294967296 = 0 ∨ (G = x ∧ H = 0) ∨ H = 11) := by
    by_cases h : x % 4294967296 = 0
    · exact .inl h
    · exact .inr (hG h)
  have htt : ((⟨#[45]⟩ ++ T : ByteArray).toList == (⟨#[45]⟩ ++ T : ByteArray).toList) = true := beq_self_eq_true _
  have hxm : (x == -9223372036854775808) = false := by rw [beq_eq_false_iff_ne]; omega
  have hx0 : decide (x ≤ 0) = false := by simp; omega
  clear hM hG eo em hT
  clear hm ht
  go_enter Tryd.func7, Tryd.ntmps7
  go_wp2_with fail
  refine Calls.mono (HT.out w (Below.refl _ w)) ?_
  rintro e w1 ⟨rfl, hb⟩
  have HB1 : Hid (Below w.heap.size w w1) := hb
  clear hb
  go_wp2_with fail
  refine Calls.mono (HP.out w1 HB1.out) ?_
  rintro e w2 ⟨rfl, hb⟩
  have HB2 : Hid (Below w.heap.size w w2) := HB1.out.trans (hb.mono HB1.out.size)
  clear hb HB1
  go_wp2_with fail
  refine Calls.mono (HT.out w2 HB2.out) ?_
  rintro e w3 ⟨rfl, hb⟩
  have HB3 : Hid (Below w.heap.size w w3) := HB2.out.trans (hb.mono HB2.out.size)
  clear hb HB2
  go_wp2_with fail
  refine Calls.mono (HM.out w3 HB3.out) ?_
  rintro e w4 ⟨rfl, hb⟩
  have HB4 : Hid (Below w.heap.size w w4) := HB3.out.trans (hb.mono HB3.out.size)
  clear hb HB3
  go_wp2_with fail
  refine Calls.mono (alive_any w4 (HE.out.1.stays HB4.out (Nat.le_refl _)) (HE.out.2.stays HB4.out)) ?_
  rintro e w5 ⟨rfl, hb⟩
  have HB5 : Hid (Below w.heap.size w w5) := HB4.out.trans (hb.mono HB4.out.size)
  clear hb HB4
  go_wp2_with fail
  refine Calls.mono (HO.out w5 HB5.out) ?_
  rintro e w6 ⟨rfl, hb⟩
  have HB6 : Hid (Below w.heap.size w w6) := HB5.out.trans (hb.mono HB5.out.size)
  clear hb HB5
  go_wp2_with fail
  refine Calls.mono (HT.out w6 HB6.out) ?_
  rintro e w7 ⟨rfl, hb⟩
  have HB7 : Hid (Below w.heap.size w w7) := HB6.out.trans (hb.mono HB6.out.size)
  clear hb HB6 HT HO HM HP
  rcases HG.out with h0 | ⟨rfl, rfl⟩ | rfl
  · by_cases c0 : H = 0
    · subst c0
      by_cases cg : G = x
      · subst cg
        go_wp2
        go_ret
        exact ⟨rfl, HB7.out⟩
      · have cg' : (G == x) = false := by rw [beq_eq_false_iff_ne]; exact cg
        have ha := and_mask_i x
        rw [h0] at ha
        go_wp2
        go_ret
        exact ⟨rfl, HB7.out⟩
    · have c0' : (H == 0) = false := by rw [beq_eq_false_iff_ne]; exact c0
      by_cases c1 : H = 11
      · subst c1
        go_wp2
        go_ret
        exact ⟨rfl, HB7.out⟩
      · have c1' : (H == 11) = false := by rw [beq_eq_false_iff_ne]; exact c1
        by_cases c2 : H = 10
        · subst c2
          go_wp2
          go_ret
          exact ⟨rfl, HB7.out⟩
        · have c2' : (H == 10) = false := by rw [beq_eq_false_iff_ne]; exact c2
          have ha := and_mask_i x
          rw [h0] at ha
          go_wp2
          go_ret
          exact ⟨rfl, HB7.out⟩
  · go_wp2
    go_ret
    exact ⟨rfl, HB7.out⟩
  · go_wp2
    go_ret
    exact ⟨rfl, HB7.out⟩
set_option maxHeartbeats 2000000 in
theorem whole_hi_min (n x : Int) (w : World) (hm : MaxLenIs w) (ht : PowsAre w) (n1 : -9223372036854775808 ≤ n) (n2 : n ≤ 9223372036854775807)  (hn : 2147483648 ≤ n) (hx : x = -9223372036854775808) :
    Calls Tryd.prog 7 #[.int .i64 n, .int .i64 x] w fun e w' => e = .returned (.bool true) ∧ Below w.heap.size w w' := by
  have HE : Hid (MaxLenIs w ∧ PowsAre w) := ⟨hm, ht⟩
  have hd1 : decide (n < 2147483648) = false := by simp; omega
  subst hx
  clear hm ht
  go_enter Tryd.func7, Tryd.ntmps7
  go_wp2_with fail
  refine Calls.mono (alive_any w (HE.out.1.stays (Below.refl w.heap.size w) (Nat.le_refl _)) (HE.out.2.stays (Below.refl w.heap.size w))) ?_
  rintro e w5 ⟨rfl, hb⟩
  have HB5 : Hid (Below w.heap.size w w5) := hb
  clear hb
  go_wp2
  go_ret
  exact ⟨rfl, HB5.out⟩
set_option maxHeartbeats 2000000 in
theorem whole_hi_neg (n x : Int) (w : World) (hm : MaxLenIs w) (ht : PowsAre w) (n1 : -9223372036854775808 ≤ n) (n2 : n ≤ 9223372036854775807) (x1 : -9223372036854775808 ≤ x) (x2 : x ≤ 9223372036854775807) (hn : 2147483648 ≤ n) (hx : x ≤ 0) (hx2 : ¬ x = -9223372036854775808) :
    Calls Tryd.prog 7 #[.int .i64 n, .int .i64 x] w fun e w' => e = .returned (.bool true) ∧ Below w.heap.size w w' := by
  have HE : Hid (MaxLenIs w ∧ PowsAre w) := ⟨hm, ht⟩
  have hd1 : decide (n < 2147483648) = false := by simp; omega
  have hxm : (x == -9223372036854775808) = false := by rw [beq_eq_false_iff_ne]; exact hx2
  clear hm ht
  go_enter Tryd.func7, Tryd.ntmps7
  go_wp2_with fail
  refine Calls.mono (alive_any w (HE.out.1.stays (Below.refl w.heap.size w) (Nat.le_refl _)) (HE.out.2.stays (Below.refl w.heap.size w))) ?_
  rintro e w5 ⟨rfl, hb⟩
  have HB5 : Hid (Below w.heap.size w w5) := hb
  clear hb
  go_wp2
  go_ret
  exact ⟨rfl, HB5.out⟩
set_option maxHeartbeats 2000000 in
theorem whole_lo_pos (n x : Int) (w : World) (hm : MaxLenIs w) (ht : PowsAre w) (n1 : -9223372036854775808 ≤ n) (n2 : n ≤ 9223372036854775807) (x1 : -9223372036854775808 ≤ x) (x2 : x ≤ 9223372036854775807) (hn : n < -2147483648) (hx : 0 < x) :
    Calls Tryd.prog 7 #[.int .i64 n, .int .i64 x] w fun e w' => e = .returned (.bool true) ∧ Below w.heap.size w w' := by
  have HE : Hid (MaxLenIs w ∧ PowsAre w) := ⟨hm, ht⟩
  have hd2 : decide (-2147483648 ≤ n) = false := by simp; omega
  obtain ⟨T, hT, hTs⟩ : ∃ T : ByteArray, T = ⟨(textL x).toArray⟩ ∧ T.size ≤ 44 := ⟨_, rfl, text_len x (by omega) x2⟩
  have eo : (⟨#[45]⟩ : ByteArray) ++ T = ⟨(textL (-x)).toArray⟩ := by
    rw [other_text x hx, hT]; apply ByteArray.ext; rw [ByteArray.data_append]; simp
  have em : T ++ (⟨#[48]⟩ : ByteArray) = ⟨(textL x ++ [48]).toArray⟩ := by
    rw [hT]; apply ByteArray.ext; rw [ByteArray.data_append]; simp
  obtain ⟨G, H, hM, hG⟩ := parse_more x hx x2
  have HT : Hid (∀ w', Below w.heap.size w w' → Calls Tryd.prog 30 #[.int .i64 x] w' fun e w'' => e = .returned (.string T) ∧ Below w'.heap.size w' w'') := fun w' hb => by
    rw [hT]; exact text_any x w' (by omega) x2 (ht.stays hb)
  have HO : Hid (∀ w', Below w.heap.size w w' → Calls Tryd.prog 30 #[.int .i64 (-x)] w' fun e w'' => e = .returned (.string (⟨#[45]⟩ ++ T)) ∧ Below w'.heap.size w' w'') := fun w' hb => by
    rw [eo]; exact text_any (-x) w' (by omega) (by omega) (ht.stays hb)
  have HP : Hid (∀ w', Below w.heap.size w w' → Calls Tryd.prog 26 #[.string (⟨#[45]⟩ ++ T)] w' fun e w'' => e = .returned (.tuple #[.int .i64 (-x), .int .i64 0]) ∧ Below w'.heap.size w' w'') := fun w' hb => by
    rw [eo]; exact parse_back (-x) (by omega) (by omega) w' (hm.stays hb (Nat.le_refl _))
  have HM : Hid (∀ w', Below w.heap.size w w' → Calls Tryd.prog 26 #[.string (T ++ ⟨#[48]⟩)] w' fun e w'' => e = .returned (.tuple #[.int .i64 G, .int .i64 H]) ∧ Below w'.heap.size w' w'') := fun w' hb => by
    rw [em]; exact hM w' (hm.stays hb (Nat.le_refl _))
  have HG : Hid (x % 4294967296 = 0 ∨ (G = x ∧ H = 0) ∨ H = 11) := by
    by_cases h : x % 4294967296 = 0
    · exact .inl h
    · exact .inr (hG h)
  have htt : ((⟨#[45]⟩ ++ T : ByteArray).toList == (⟨#[45]⟩ ++ T : ByteArray).toList) = true := beq_self_eq_true _
  have hxm : (x == -9223372036854775808) = false := by rw [beq_eq_false_iff_ne]; omega
  have hx0 : decide (x ≤ 0) = false := by simp; omega
  clear hM hG eo em hT
  clear hm ht
  go_enter Tryd.func7, Tryd.ntmps7
  go_wp2_with fail
  refine Calls.mono (HT.out w (Below.refl _ w)) ?_
  rintro e w1 ⟨rfl, hb⟩
  have HB1 : Hid (Below w.heap.size w w1) := hb
  clear hb
  go_wp2_with fail
  refine Calls.mono (HP.out w1 HB1.out) ?_
  rintro e w2 ⟨rfl, hb⟩
  have HB2 : Hid (Below w.heap.size w w2) := HB1.out.trans (hb.mono HB1.out.size)
  clear hb HB1
  go_wp2_with fail
  refine Calls.mono (HT.out w2 HB2.out) ?_
  rintro e w3 ⟨rfl, hb⟩
  have HB3 : Hid (Below w.heap.size w w3) := HB2.out.trans (hb.mono HB2.out.size)
  clear hb HB2
  go_wp2_with fail
  refine Calls.mono (HM.out w3 HB3.out) ?_
  rintro e w4 ⟨rfl, hb⟩
  have HB4 : Hid (Below w.heap.size w w4) := HB3.out.trans (hb.mono HB3.out.size)
  clear hb HB3
  go_wp2_with fail
  refine Calls.mono (alive_any w4 (HE.out.1.stays HB4.out (Nat.le_refl _)) (HE.out.2.stays HB4.out)) ?_
  rintro e w5 ⟨rfl, hb⟩
  have HB5 : Hid (Below w.heap.size w w5) := HB4.out.trans (hb.mono HB4.out.size)
  clear hb HB4
  go_wp2_with fail
  refine Calls.mono (HO.out w5 HB5.out) ?_
  rintro e w6 ⟨rfl, hb⟩
  have HB6 : Hid (Below w.heap.size w w6) := HB5.out.trans (hb.mono HB5.out.size)
  clear hb HB5
  go_wp2_with fail
  refine Calls.mono (HT.out w6 HB6.out) ?_
  rintro e w7 ⟨rfl, hb⟩
  have HB7 : Hid (Below w.heap.size w w7) := HB6.out.trans (hb.mono HB6.out.size)
  clear hb HB6 HT HO HM HP
  rcases HG.out with h0 | ⟨rfl, rfl⟩ | rfl
  · by_cases c0 : H = 0
    · subst c0
      by_cases cg : G = x
      · subst cg
        go_wp2
        go_ret
        exact ⟨rfl, HB7.out⟩
      · have cg' : (G == x) = false := by rw [beq_eq_false_iff_ne]; exact cg
        have ha := and_mask_i x
        rw [h0] at ha
        go_wp2
        go_ret
        exact ⟨rfl, HB7.out⟩
    · have c0' : (H == 0) = false := by rw [beq_eq_false_iff_ne]; exact c0
      by_cases c1 : H = 11
      · subst c1
        go_wp2
        go_ret
        exact ⟨rfl, HB7.out⟩
      · have c1' : (H == 11) = false := by rw [beq_eq_false_iff_ne]; exact c1
        by_cases c2 : H = 10
        · subst c2
          go_wp2
          go_ret
          exact ⟨rfl, HB7.out⟩
        · have c2' : (H == 10) = false := by rw [beq_eq_false_iff_ne]; exact c2
          have ha := and_mask_i x
          rw [h0] at ha
          go_wp2
          go_ret
          exact ⟨rfl, HB7.out⟩
  · go_wp2
    go_ret
    exact ⟨rfl, HB7.out⟩
  · go_wp2
    go_ret
    exact ⟨rfl, HB7.out⟩
set_option maxHeartbeats 2000000 in
theorem whole_lo_min (n x : Int) (w : World) (hm : MaxLenIs w) (ht : PowsAre w) (n1 : -9223372036854775808 ≤ n) (n2 : n ≤ 9223372036854775807)  (hn : n < -2147483648) (hx : x = -9223372036854775808) :
    Calls Tryd.prog 7 #[.int .i64 n, .int .i64 x] w fun e w' => e = .returned (.bool true) ∧ Below w.heap.size w w' := by
  have HE : Hid (MaxLenIs w ∧ PowsAre w) := ⟨hm, ht⟩
  have hd2 : decide (-2147483648 ≤ n) = false := by simp; omega
  subst hx
  clear hm ht
  go_enter Tryd.func7, Tryd.ntmps7
  go_wp2_with fail
  refine Calls.mono (alive_any w (HE.out.1.stays (Below.refl w.heap.size w) (Nat.le_refl _)) (HE.out.2.stays (Below.refl w.heap.size w))) ?_
  rintro e w5 ⟨rfl, hb⟩
  have HB5 : Hid (Below w.heap.size w w5) := hb
  clear hb
  go_wp2
  go_ret
  exact ⟨rfl, HB5.out⟩
set_option maxHeartbeats 2000000 in
theorem whole_lo_neg (n x : Int) (w : World) (hm : MaxLenIs w) (ht : PowsAre w) (n1 : -9223372036854775808 ≤ n) (n2 : n ≤ 9223372036854775807) (x1 : -9223372036854775808 ≤ x) (x2 : x ≤ 9223372036854775807) (hn : n < -2147483648) (hx : x ≤ 0) (hx2 : ¬ x = -9223372036854775808) :
    Calls Tryd.prog 7 #[.int .i64 n, .int .i64 x] w fun e w' => e = .returned (.bool true) ∧ Below w.heap.size w w' := by
  have HE : Hid (MaxLenIs w ∧ PowsAre w) := ⟨hm, ht⟩
  have hd2 : decide (-2147483648 ≤ n) = false := by simp; omega
  have hxm : (x == -9223372036854775808) = false := by rw [beq_eq_false_iff_ne]; exact hx2
  clear hm ht
  go_enter Tryd.func7, Tryd.ntmps7
  go_wp2_with fail
  refine Calls.mono (alive_any w (HE.out.1.stays (Below.refl w.heap.size w) (Nat.le_refl _)) (HE.out.2.stays (Below.refl w.heap.size w))) ?_
  rintro e w5 ⟨rfl, hb⟩
  have HB5 : Hid (Below w.heap.size w w5) := hb
  clear hb
  go_wp2
  go_ret
  exact ⟨rfl, HB5.out⟩
set_option maxHeartbeats 2000000 in
theorem whole_in_pos (n x : Int) (w : World) (hm : MaxLenIs w) (ht : PowsAre w) (n1 : -9223372036854775808 ≤ n) (n2 : n ≤ 9223372036854775807) (x1 : -9223372036854775808 ≤ x) (x2 : x ≤ 9223372036854775807) (hn1 : -2147483648 ≤ n) (hn2 : n < 2147483648) (hx : 0 < x) :
    Calls Tryd.prog 7 #[.int .i64 n, .int .i64 x] w fun e w' => e = .returned (.bool true) ∧ Below w.heap.size w w' := by
  have HE : Hid (MaxLenIs w ∧ PowsAre w) := ⟨hm, ht⟩
  obtain ⟨S, hS, hSs⟩ : ∃ S : ByteArray, S = ⟨(Lib.itoa n).toArray⟩ ∧ S.size ≤ 20 := ⟨_, rfl, itoa_len n (by omega) (by omega)⟩
  have HW : Hid (∀ w', Below w.heap.size w w' → Calls Tryd.prog 30 #[.int .i64 (n * 4294967296)] w' fun e w'' => e = .returned (.string S) ∧ Below w'.heap.size w' w'') := fun w' hb => by
    rw [hS, ← whole_text n]; exact text_any (n * 4294967296) w' (by omega) (by omega) (ht.stays hb)
  have HD : Hid (∀ w', Below w.heap.size w w' → Calls Tryd.prog 32 #[.int .i64 n] w' fun e w'' => e = .returned (.string S) ∧ Below w'.heap.size w' w'') := fun w' hb => by
    rw [hS]; exact digits_any n w' (by omega) (by omega) (ht.stays hb)
  have hss : (S.toList == S.toList) = true := beq_self_eq_true _
  obtain ⟨T, hT, hTs⟩ : ∃ T : ByteArray, T = ⟨(textL x).toArray⟩ ∧ T.size ≤ 44 := ⟨_, rfl, text_len x (by omega) x2⟩
  have eo : (⟨#[45]⟩ : ByteArray) ++ T = ⟨(textL (-x)).toArray⟩ := by
    rw [other_text x hx, hT]; apply ByteArray.ext; rw [ByteArray.data_append]; simp
  have em : T ++ (⟨#[48]⟩ : ByteArray) = ⟨(textL x ++ [48]).toArray⟩ := by
    rw [hT]; apply ByteArray.ext; rw [ByteArray.data_append]; simp
  obtain ⟨G, H, hM, hG⟩ := parse_more x hx x2
  have HT : Hid (∀ w', Below w.heap.size w w' → Calls Tryd.prog 30 #[.int .i64 x] w' fun e w'' => e = .returned (.string T) ∧ Below w'.heap.size w' w'') := fun w' hb => by
    rw [hT]; exact text_any x w' (by omega) x2 (ht.stays hb)
  have HO : Hid (∀ w', Below w.heap.size w w' → Calls Tryd.prog 30 #[.int .i64 (-x)] w' fun e w'' => e = .returned (.string (⟨#[45]⟩ ++ T)) ∧ Below w'.heap.size w' w'') := fun w' hb => by
    rw [eo]; exact text_any (-x) w' (by omega) (by omega) (ht.stays hb)
  have HP : Hid (∀ w', Below w.heap.size w w' → Calls Tryd.prog 26 #[.string (⟨#[45]⟩ ++ T)] w' fun e w'' => e = .returned (.tuple #[.int .i64 (-x), .int .i64 0]) ∧ Below w'.heap.size w' w'') := fun w' hb => by
    rw [eo]; exact parse_back (-x) (by omega) (by omega) w' (hm.stays hb (Nat.le_refl _))
  have HM : Hid (∀ w', Below w.heap.size w w' → Calls Tryd.prog 26 #[.string (T ++ ⟨#[48]⟩)] w' fun e w'' => e = .returned (.tuple #[.int .i64 G, .int .i64 H]) ∧ Below w'.heap.size w' w'') := fun w' hb => by
    rw [em]; exact hM w' (hm.stays hb (Nat.le_refl _))
  have HG : Hid (x % 4294967296 = 0 ∨ (G = x ∧ H = 0) ∨ H = 11) := by
    by_cases h : x % 4294967296 = 0
    · exact .inl h
    · exact .inr (hG h)
  have htt : ((⟨#[45]⟩ ++ T : ByteArray).toList == (⟨#[45]⟩ ++ T : ByteArray).toList) = true := beq_self_eq_true _
  have hxm : (x == -9223372036854775808) = false := by rw [beq_eq_false_iff_ne]; omega
  have hx0 : decide (x ≤ 0) = false := by simp; omega
  clear hM hG eo em hT
  clear hS
  clear hm ht
  go_enter Tryd.func7, Tryd.ntmps7
  go_wp2_with fail
  refine Calls.mono (HW.out w (Below.refl _ w)) ?_
  rintro e v1 ⟨rfl, hb⟩
  have HV1 : Hid (Below w.heap.size w v1) := hb
  clear hb
  go_wp2_with fail
  refine Calls.mono (HD.out v1 HV1.out) ?_
  rintro e v2 ⟨rfl, hb⟩
  have HV2 : Hid (Below w.heap.size w v2) := HV1.out.trans (hb.mono HV1.out.size)
  clear hb HV1
  go_wp2_with fail
  refine Calls.mono (HT.out v2 HV2.out) ?_
  rintro e w1 ⟨rfl, hb⟩
  have HB1 : Hid (Below w.heap.size w w1) := HV2.out.trans (hb.mono HV2.out.size)
  clear hb HV2
  go_wp2_with fail
  refine Calls.mono (HP.out w1 HB1.out) ?_
  rintro e w2 ⟨rfl, hb⟩
  have HB2 : Hid (Below w.heap.size w w2) := HB1.out.trans (hb.mono HB1.out.size)
  clear hb HB1
  go_wp2_with fail
  refine Calls.mono (HT.out w2 HB2.out) ?_
  rintro e w3 ⟨rfl, hb⟩
  have HB3 : Hid (Below w.heap.size w w3) := HB2.out.trans (hb.mono HB2.out.size)
  clear hb HB2
  go_wp2_with fail
  refine Calls.mono (HM.out w3 HB3.out) ?_
  rintro e w4 ⟨rfl, hb⟩
  have HB4 : Hid (Below w.heap.size w w4) := HB3.out.trans (hb.mono HB3.out.size)
  clear hb HB3
  go_wp2_with fail
  refine Calls.mono (alive_any w4 (HE.out.1.stays HB4.out (Nat.le_refl _)) (HE.out.2.stays HB4.out)) ?_
  rintro e w5 ⟨rfl, hb⟩
  have HB5 : Hid (Below w.heap.size w w5) := HB4.out.trans (hb.mono HB4.out.size)
  clear hb HB4
  go_wp2_with fail
  refine Calls.mono (HO.out w5 HB5.out) ?_
  rintro e w6 ⟨rfl, hb⟩
  have HB6 : Hid (Below w.heap.size w w6) := HB5.out.trans (hb.mono HB5.out.size)
  clear hb HB5
  go_wp2_with fail
  refine Calls.mono (HT.out w6 HB6.out) ?_
  rintro e w7 ⟨rfl, hb⟩
  have HB7 : Hid (Below w.heap.size w w7) := HB6.out.trans (hb.mono HB6.out.size)
  clear hb HB6 HT HO HM HP
  rcases HG.out with h0 | ⟨rfl, rfl⟩ | rfl
  · by_cases c0 : H = 0
    · subst c0
      by_cases cg : G = x
      · subst cg
        go_wp2
        go_ret
        exact ⟨rfl, HB7.out⟩
      · have cg' : (G == x) = false := by rw [beq_eq_false_iff_ne]; exact cg
        have ha := and_mask_i x
        rw [h0] at ha
        go_wp2
        go_ret
        exact ⟨rfl, HB7.out⟩
    · have c0' : (H == 0) = false := by rw [beq_eq_false_iff_ne]; exact c0
      by_cases c1 : H = 11
      · subst c1
        go_wp2
        go_ret
        exact ⟨rfl, HB7.out⟩
      · have c1' : (H == 11) = false := by rw [beq_eq_false_iff_ne]; exact c1
        by_cases c2 : H = 10
        · subst c2
          go_wp2
          go_ret
          exact ⟨rfl, HB7.out⟩
        · have c2' : (H == 10) = false := by rw [beq_eq_false_iff_ne]; exact c2
          have ha := and_mask_i x
          rw [h0] at ha
          go_wp2
          go_ret
          exact ⟨rfl, HB7.out⟩
  · go_wp2
    go_ret
    exact ⟨rfl, HB7.out⟩
  · go_wp2
    go_ret
    exact ⟨rfl, HB7.out⟩
set_option maxHeartbeats 2000000 in
theorem whole_in_min (n x : Int) (w : World) (hm : MaxLenIs w) (ht : PowsAre w) (n1 : -9223372036854775808 ≤ n) (n2 : n ≤ 9223372036854775807)  (hn1 : -2147483648 ≤ n) (hn2 : n < 2147483648) (hx : x = -9223372036854775808) :
    Calls Tryd.prog 7 #[.int .i64 n, .int .i64 x] w fun e w' => e = .returned (.bool true) ∧ Below w.heap.size w w' := by
  have HE : Hid (MaxLenIs w ∧ PowsAre w) := ⟨hm, ht⟩
  obtain ⟨S, hS, hSs⟩ : ∃ S : ByteArray, S = ⟨(Lib.itoa n).toArray⟩ ∧ S.size ≤ 20 := ⟨_, rfl, itoa_len n (by omega) (by omega)⟩
  have HW : Hid (∀ w', Below w.heap.size w w' → Calls Tryd.prog 30 #[.int .i64 (n * 4294967296)] w' fun e w'' => e = .returned (.string S) ∧ Below w'.heap.size w' w'') := fun w' hb => by
    rw [hS, ← whole_text n]; exact text_any (n * 4294967296) w' (by omega) (by omega) (ht.stays hb)
  have HD : Hid (∀ w', Below w.heap.size w w' → Calls Tryd.prog 32 #[.int .i64 n] w' fun e w'' => e = .returned (.string S) ∧ Below w'.heap.size w' w'') := fun w' hb => by
    rw [hS]; exact digits_any n w' (by omega) (by omega) (ht.stays hb)
  have hss : (S.toList == S.toList) = true := beq_self_eq_true _
  subst hx
  clear hS
  clear hm ht
  go_enter Tryd.func7, Tryd.ntmps7
  go_wp2_with fail
  refine Calls.mono (HW.out w (Below.refl _ w)) ?_
  rintro e v1 ⟨rfl, hb⟩
  have HV1 : Hid (Below w.heap.size w v1) := hb
  clear hb
  go_wp2_with fail
  refine Calls.mono (HD.out v1 HV1.out) ?_
  rintro e v2 ⟨rfl, hb⟩
  have HV2 : Hid (Below w.heap.size w v2) := HV1.out.trans (hb.mono HV1.out.size)
  clear hb HV1
  go_wp2_with fail
  refine Calls.mono (alive_any v2 (HE.out.1.stays HV2.out (Nat.le_refl _)) (HE.out.2.stays HV2.out)) ?_
  rintro e w5 ⟨rfl, hb⟩
  have HB5 : Hid (Below w.heap.size w w5) := HV2.out.trans (hb.mono HV2.out.size)
  clear hb
  go_wp2
  go_ret
  exact ⟨rfl, HB5.out⟩
set_option maxHeartbeats 2000000 in
theorem whole_in_neg (n x : Int) (w : World) (hm : MaxLenIs w) (ht : PowsAre w) (n1 : -9223372036854775808 ≤ n) (n2 : n ≤ 9223372036854775807) (x1 : -9223372036854775808 ≤ x) (x2 : x ≤ 9223372036854775807) (hn1 : -2147483648 ≤ n) (hn2 : n < 2147483648) (hx : x ≤ 0) (hx2 : ¬ x = -9223372036854775808) :
    Calls Tryd.prog 7 #[.int .i64 n, .int .i64 x] w fun e w' => e = .returned (.bool true) ∧ Below w.heap.size w w' := by
  have HE : Hid (MaxLenIs w ∧ PowsAre w) := ⟨hm, ht⟩
  obtain ⟨S, hS, hSs⟩ : ∃ S : ByteArray, S = ⟨(Lib.itoa n).toArray⟩ ∧ S.size ≤ 20 := ⟨_, rfl, itoa_len n (by omega) (by omega)⟩
  have HW : Hid (∀ w', Below w.heap.size w w' → Calls Tryd.prog 30 #[.int .i64 (n * 4294967296)] w' fun e w'' => e = .returned (.string S) ∧ Below w'.heap.size w' w'') := fun w' hb => by
    rw [hS, ← whole_text n]; exact text_any (n * 4294967296) w' (by omega) (by omega) (ht.stays hb)
  have HD : Hid (∀ w', Below w.heap.size w w' → Calls Tryd.prog 32 #[.int .i64 n] w' fun e w'' => e = .returned (.string S) ∧ Below w'.heap.size w' w'') := fun w' hb => by
    rw [hS]; exact digits_any n w' (by omega) (by omega) (ht.stays hb)
  have hss : (S.toList == S.toList) = true := beq_self_eq_true _
  have hxm : (x == -9223372036854775808) = false := by rw [beq_eq_false_iff_ne]; exact hx2
  clear hS
  clear hm ht
  go_enter Tryd.func7, Tryd.ntmps7
  go_wp2_with fail
  refine Calls.mono (HW.out w (Below.refl _ w)) ?_
  rintro e v1 ⟨rfl, hb⟩
  have HV1 : Hid (Below w.heap.size w v1) := hb
  clear hb
  go_wp2_with fail
  refine Calls.mono (HD.out v1 HV1.out) ?_
  rintro e v2 ⟨rfl, hb⟩
  have HV2 : Hid (Below w.heap.size w v2) := HV1.out.trans (hb.mono HV1.out.size)
  clear hb HV1
  go_wp2_with fail
  refine Calls.mono (alive_any v2 (HE.out.1.stays HV2.out (Nat.le_refl _)) (HE.out.2.stays HV2.out)) ?_
  rintro e w5 ⟨rfl, hb⟩
  have HB5 : Hid (Below w.heap.size w w5) := HV2.out.trans (hb.mono HV2.out.size)
  clear hb
  go_wp2
  go_ret
  exact ⟨rfl, HB5.out⟩
theorem whole_any (n x : Int) (w : World) (hm : MaxLenIs w) (ht : PowsAre w) (n1 : -9223372036854775808 ≤ n) (n2 : n ≤ 9223372036854775807) (x1 : -9223372036854775808 ≤ x) (x2 : x ≤ 9223372036854775807) :
    Calls Tryd.prog 7 #[.int .i64 n, .int .i64 x] w fun e w' => e = .returned (.bool true) ∧ Below w.heap.size w w' := by
  by_cases h1 : 2147483648 ≤ n
  · by_cases hx : 0 < x
    · exact whole_hi_pos n x w hm ht n1 n2 x1 x2 h1 hx
    · by_cases hx2 : x = -9223372036854775808
      · exact whole_hi_min n x w hm ht n1 n2 h1 hx2
      · exact whole_hi_neg n x w hm ht n1 n2 x1 x2 h1 (by omega) hx2
  · by_cases h2 : n < -2147483648
    · by_cases hx : 0 < x
      · exact whole_lo_pos n x w hm ht n1 n2 x1 x2 h2 hx
      · by_cases hx2 : x = -9223372036854775808
        · exact whole_lo_min n x w hm ht n1 n2 h2 hx2
        · exact whole_lo_neg n x w hm ht n1 n2 x1 x2 h2 (by omega) hx2
    · by_cases hx : 0 < x
      · exact whole_in_pos n x w hm ht n1 n2 x1 x2 (by omega) (by omega) hx
      · by_cases hx2 : x = -9223372036854775808
        · exact whole_in_min n x w hm ht n1 n2 (by omega) (by omega) hx2
        · exact whole_in_neg n x w hm ht n1 n2 x1 x2 (by omega) (by omega) (by omega) hx2
end Go.Proofs.YtpojkaeclfgfkaaDoor
