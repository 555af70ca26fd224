/- FixBack: texts, digits and bytes are read as the number they were: the law's walk. Conditions: the library's own variables as they are laid. -/
import Derived.Test.YtpojkaeclfgfkabDoorBackM
import Derived.Test.YtpojkaeclfgfkabDoorPut
import Derived.Test.YtpojkaeclfgfkabDoorLaid
import Derived.Test.YtpojkaeclfgfkabDoorAlive
namespace Go.Proofs.YtpojkaeclfgfkabDoor
open Go.RowKit
set_option linter.unusedVariables false
set_option maxRecDepth 100000

theorem dec_len_of (n u : Nat) (h1 : 1 ≤ n) (h : u < 10 ^ n) : (Lib.decDigits u).length ≤ n := by
  induction n generalizing u with
  | zero => omega
  | succ n ih =>
    rw [Lib.decDigits]
    by_cases h10 : u < 10
    · rw [dif_pos h10]; simp
    · rw [dif_neg h10]
      have : n ≠ 0 := by intro h'; subst h'; simp at h; omega
      have := ih (u / 10) (by omega) (by rw [Nat.pow_succ] at h; omega)
      simp; omega
theorem itoa_len (x : Int) (x1 : -9223372036854775808 ≤ x) (x2 : x ≤ 9223372036854775807) : (Lib.itoa x).length ≤ 20 := by
  unfold Lib.itoa
  split
  · have := dec_len_of 19 x.natAbs (by omega) (by omega)
    simp; omega
  · have := dec_len_of 19 x.toNat (by omega) (by omega)
    omega
theorem text_len (x : Int) (x1 : -9223372036854775808 ≤ x) (x2 : x ≤ 9223372036854775807) : (textL x).length ≤ 44 := by
  have h1 := dec_len (x.natAbs / 4294967296) (by omega)
  have h2 := (frac_says (x.natAbs % 4294967296) (by omega)).2
  unfold textL
  rw [List.length_append, List.length_append]
  generalize (Lib.decDigits (x.natAbs / 4294967296)).length = a at *
  split
  · split <;> simp <;> omega
  · split <;> simp <;> omega
theorem parse_back (x : Int) (x1 : -9223372036854775808 ≤ x) (x2 : x ≤ 9223372036854775807) (w : World) (hm : MaxLenIs w) :
    Calls Tryd.prog 14 #[.string ⟨(textL x).toArray⟩] w fun e w' => e = .returned (.tuple #[.int .i64 x, .int .i64 0]) ∧ Below w.heap.size w w' := by
  have h := parse_any ⟨(textL x).toArray⟩ w (by have := text_len x x1 x2; show (textL x).length ≤ 1000000; omega) hm
  have e : parseL (⟨(textL x).toArray⟩ : ByteArray).data.toList = (x, 0) := parse_text x x1 x2
  rw [e] at h; exact h
theorem number_back (x : Int) (x1 : -9223372036854775808 ≤ x) (x2 : x ≤ 9223372036854775807) : ∃ C I, (∀ w, Calls Tryd.prog 18 #[.string ⟨(Lib.itoa x).toArray⟩] w fun e w' => e = .returned (.tuple #[.int .i64 C, .int .i64 I]) ∧ Below w.heap.size w w') ∧ (0 ≤ x → x < 10000000000 → C = x ∧ I = 0) := by
  have hl : (⟨(Lib.itoa x).toArray⟩ : ByteArray).size ≤ maxLen := by have := itoa_len x x1 x2; unfold maxLen; show (Lib.itoa x).length ≤ _; omega
  cases hn : numOk (Lib.itoa x) with
  | false =>
    refine ⟨0, 11, fun w => number_no ⟨(Lib.itoa x).toArray⟩ w hl hn, fun h1 h2 => ?_⟩
    have e : Lib.itoa x = Lib.decDigits x.toNat := by unfold Lib.itoa; rw [if_neg (by omega)]
    rw [e, dec_ok x.toNat (by omega)] at hn; cases hn
  | true =>
    refine ⟨(numL (Lib.itoa x) : Int), 0, fun w => number_yes ⟨(Lib.itoa x).toArray⟩ w hl hn, fun h1 h2 => ⟨?_, rfl⟩⟩
    have e : Lib.itoa x = Lib.decDigits x.toNat := by unfold Lib.itoa; rw [if_neg (by omega)]
    rw [e, (decDigits_num x.toNat).2]; omega
theorem put_back (V n : Int) (v1 : -9223372036854775808 ≤ V) (v2 : V ≤ 9223372036854775807) : ∃ S E, (∀ w, Calls Tryd.prog 16 #[.int .i64 V, .int .i64 n] w fun e w' => e = .returned (.tuple #[.string S, .int .i64 E]) ∧ Below w.heap.size w w') ∧
    ((E = 1 ∧ n ≠ 8) ∨ (E = 0 ∧ (S.size : Int) = n ∧ ∀ w, Calls Tryd.prog 17 #[.string S] w fun e w' => e = .returned (.tuple #[.int .i64 V, .int .i64 0]) ∧ Below w.heap.size w w')) := by
  by_cases h : n < 1 ∨ 8 < n
  · exact ⟨⟨#[]⟩, 1, fun w => Calls.mono (put_bad V n w h) (fun e w' h => ⟨h.1, by rw [h.2]; exact Below.refl _ w⟩), .inl ⟨rfl, by omega⟩⟩
  · obtain ⟨m, rfl⟩ : ∃ m : Nat, n = m := ⟨n.toNat, by omega⟩
    have gp := get_put V m (by omega) (by omega)
    cases hb : fitsB V m with
    | false =>
      refine ⟨⟨#[]⟩, 1, fun w => Calls.mono (put_nofit V m w (by omega) (by omega) hb) (fun e w' h => ⟨h.1, by rw [h.2]; exact Below.refl _ w⟩), .inl ⟨rfl, fun e => ?_⟩⟩
      have : m = 8 := by omega
      subst this
      have t : fitsB V 8 = true := by
        have p : (2 : Int) ^ (8 * 8 - 1) = 9223372036854775808 := by decide
        unfold fitsB; rw [p]; simp; omega
      rw [t] at hb; cases hb
    | true =>
      have sz : (⟨(putL m V).toArray⟩ : ByteArray).size = m := putL_len m V
      have hg := gp.2 hb
      refine ⟨⟨(putL m V).toArray⟩, 0, fun w => put_yes V m w v1 v2 (by omega) (by omega) hb, .inr ⟨rfl, by rw [sz], fun w => ?_⟩⟩
      have := get_yes ⟨(putL m V).toArray⟩ w (by rw [sz]; omega) (by rw [sz]; omega)
      have e : getV (⟨(putL m V).toArray⟩ : ByteArray).data.toList = V := hg
      rw [e] at this; exact this

set_option maxHeartbeats 2000000 in
theorem back_any (x n : Int) (w : World) (hm : MaxLenIs w) (ht : PowsAre w) (x1 : -9223372036854775808 ≤ x) (x2 : x ≤ 9223372036854775807) (n1 : -9223372036854775808 ≤ n) (n2 : n ≤ 9223372036854775807) :
    Calls Tryd.prog 5 #[.int .i64 x, .int .i64 n] w fun e w' => e = .returned (.bool true) ∧ Below w.heap.size w w' := by
  have HE : Hid (MaxLenIs w ∧ PowsAre w) := ⟨hm, ht⟩
  obtain ⟨S, E, hP, hE⟩ := put_back x n x1 x2
  obtain ⟨T, F, hQ, hF⟩ := put_back x 8 x1 x2
  obtain ⟨C, I, hN, hCI⟩ := number_back x x1 x2
  have HP : Hid (∀ w, Calls Tryd.prog 16 #[.int .i64 x, .int .i64 n] w fun e w' => e = .returned (.tuple #[.string S, .int .i64 E]) ∧ Below w.heap.size w w') := hP
  have HQ : Hid (∀ w, Calls Tryd.prog 16 #[.int .i64 x, .int .i64 8] w fun e w' => e = .returned (.tuple #[.string T, .int .i64 F]) ∧ Below w.heap.size w w') := hQ
  have HN : Hid (∀ w, Calls Tryd.prog 18 #[.string ⟨(Lib.itoa x).toArray⟩] w fun e w' => e = .returned (.tuple #[.int .i64 C, .int .i64 I]) ∧ Below w.heap.size w w') := hN
  obtain ⟨rfl, _, hG8⟩ : F = 0 ∧ ((T.size : Int) = 8) ∧ ∀ w, Calls Tryd.prog 17 #[.string T] w fun e w' => e = .returned (.tuple #[.int .i64 x, .int .i64 0]) ∧ Below w.heap.size w w' := by
    rcases hF with h | h
    · exact absurd rfl h.2
    · exact h
  have HG8 : Hid (∀ w, Calls Tryd.prog 17 #[.string T] w fun e w' => e = .returned (.tuple #[.int .i64 x, .int .i64 0]) ∧ Below w.heap.size w w') := hG8
  have HEE : Hid ((E = 1 ∧ n ≠ 8) ∨ (E = 0 ∧ (S.size : Int) = n ∧ ∀ w, Calls Tryd.prog 17 #[.string S] w fun e w' => e = .returned (.tuple #[.int .i64 x, .int .i64 0]) ∧ Below w.heap.size w w')) := hE
  have HCI : Hid (0 ≤ x → x < 10000000000 → C = x ∧ I = 0) := hCI
  clear hm ht hP hE hQ hF hN hG8 hCI
  go_enter Tryd.func5, Tryd.ntmps5
  go_wp2_with fail
  refine Calls.mono (text_any x w x1 x2 HE.out.2) ?_
  rintro e w1 ⟨rfl, hb⟩
  have HB1 : Hid (Below w.heap.size w w1) := hb
  clear hb
  go_wp2_with fail
  refine Calls.mono (parse_back x x1 x2 w1 (HE.out.1.stays HB1.out (Nat.le_refl _))) ?_
  rintro e w2 ⟨rfl, hb⟩
  have HB2 : Hid (Below w.heap.size w w2) := HB1.out.trans (hb.mono HB1.out.size)
  clear hb HB1
  go_wp2_with fail
  refine Calls.mono (HP.out w2) ?_
  rintro e w3 ⟨rfl, hb⟩
  have HB3 : Hid (Below w.heap.size w w3) := HB2.out.trans (hb.mono HB2.out.size)
  clear hb HB2
  rcases HEE.out with ⟨rfl, _⟩ | ⟨rfl, hS, hG⟩
  · clear HEE
    go_wp2_with fail
    refine Calls.mono (HQ.out w3) ?_
    rintro e w4 ⟨rfl, hb⟩
    have HB4 : Hid (Below w.heap.size w w4) := HB3.out.trans (hb.mono HB3.out.size)
    clear hb HB3
    go_wp2_with fail
    refine Calls.mono (HG8.out w4) ?_
    rintro e w5 ⟨rfl, hb⟩
    have HB5 : Hid (Below w.heap.size w w5) := HB4.out.trans (hb.mono HB4.out.size)
    clear hb HB4
    go_wp2_with fail
    refine Calls.mono (digits_any x w5 x1 x2 (HE.out.2.stays HB5.out)) ?_
    rintro e w6 ⟨rfl, hb⟩
    have HB6 : Hid (Below w.heap.size w w6) := HB5.out.trans (hb.mono HB5.out.size)
    clear hb HB5
    go_wp2_with fail
    refine Calls.mono (HN.out w6) ?_
    rintro e w7 ⟨rfl, hb⟩
    have HB7 : Hid (Below w.heap.size w w7) := HB6.out.trans (hb.mono HB6.out.size)
    clear hb HB6
    go_wp2_with fail
    refine Calls.mono (alive_any w7 (HE.out.1.stays HB7.out (Nat.le_refl _)) (HE.out.2.stays HB7.out)) ?_
    rintro e w8 ⟨rfl, hb⟩
    have HB8 : Hid (Below w.heap.size w w8) := HB7.out.trans (hb.mono HB7.out.size)
    clear hb HB7
    by_cases hx0 : x < 0
    · go_wp2
      go_ret
      exact ⟨rfl, HB8.out⟩
    · have hd0 : decide (x < 0) = false := by simpa using hx0
      by_cases hx9 : 10000000000 ≤ x
      · go_wp2
        go_ret
        exact ⟨rfl, HB8.out⟩
      · have hd9 : decide (10000000000 ≤ x) = false := by simpa using hx9
        obtain ⟨rfl, rfl⟩ := HCI.out (by omega) (by omega)
        go_wp2
        go_ret
        exact ⟨rfl, HB8.out⟩
  · have HG : Hid (∀ w, Calls Tryd.prog 17 #[.string S] w fun e w' => e = .returned (.tuple #[.int .i64 x, .int .i64 0]) ∧ Below w.heap.size w w') := hG
    have hS' : ((S.size : Int) != n) = false := by rw [bne_eq_false_iff_eq]; exact hS
    clear HEE hG hS
    go_wp2_with fail
    refine Calls.mono (HG.out w3) ?_
    rintro e w3' ⟨rfl, hb⟩
    have HB3' : Hid (Below w.heap.size w w3') := HB3.out.trans (hb.mono HB3.out.size)
    clear hb HB3
    go_wp2_with fail
    refine Calls.mono (HQ.out w3') ?_
    rintro e w4 ⟨rfl, hb⟩
    have HB4 : Hid (Below w.heap.size w w4) := HB3'.out.trans (hb.mono HB3'.out.size)
    clear hb HB3'
    go_wp2_with fail
    refine Calls.mono (HG8.out w4) ?_
    rintro e w5 ⟨rfl, hb⟩
    have HB5 : Hid (Below w.heap.size w w5) := HB4.out.trans (hb.mono HB4.out.size)
    clear hb HB4
    go_wp2_with fail
    refine Calls.mono (digits_any x w5 x1 x2 (HE.out.2.stays HB5.out)) ?_
    rintro e w6 ⟨rfl, hb⟩
    have HB6 : Hid (Below w.heap.size w w6) := HB5.out.trans (hb.mono HB5.out.size)
    clear hb HB5
    go_wp2_with fail
    refine Calls.mono (HN.out w6) ?_
    rintro e w7 ⟨rfl, hb⟩
    have HB7 : Hid (Below w.heap.size w w7) := HB6.out.trans (hb.mono HB6.out.size)
    clear hb HB6
    go_wp2_with fail
    refine Calls.mono (alive_any w7 (HE.out.1.stays HB7.out (Nat.le_refl _)) (HE.out.2.stays HB7.out)) ?_
    rintro e w8 ⟨rfl, hb⟩
    have HB8 : Hid (Below w.heap.size w w8) := HB7.out.trans (hb.mono HB7.out.size)
    clear hb HB7
    by_cases hx0 : x < 0
    · go_wp2
      go_ret
      exact ⟨rfl, HB8.out⟩
    · have hd0 : decide (x < 0) = false := by simpa using hx0
      by_cases hx9 : 10000000000 ≤ x
      · go_wp2
        go_ret
        exact ⟨rfl, HB8.out⟩
      · have hd9 : decide (10000000000 ≤ x) = false := by simpa using hx9
        obtain ⟨rfl, rfl⟩ := HCI.out (by omega) (by omega)
        go_wp2
        go_ret
        exact ⟨rfl, HB8.out⟩
end Go.Proofs.YtpojkaeclfgfkabDoor
