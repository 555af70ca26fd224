/- The order of bytes and of digits; the contracts of fix's Compare and Digits; the walk of FixOrder. Conditions: the library's own variables as they are laid. -/
import Derived.Test.YtpojkaeclfgfkaaDoorSmall
namespace Go.Proofs.YtpojkaeclfgfkaaDoor
open Go.RowKit
set_option linter.unusedVariables false
set_option maxRecDepth 100000

/-! The order of bytes. -/
theorem cmp_swap (a b : List UInt8) : Lib.compareBytes b a = -Lib.compareBytes a b := by
  induction a generalizing b with
  | nil => cases b <;> simp [Lib.compareBytes]
  | cons x a ih =>
    cases b with
    | nil => simp [Lib.compareBytes]
    | cons y b =>
      simp only [Lib.compareBytes, UInt8.lt_iff_toNat_lt]
      by_cases h1 : x.toNat < y.toNat
      · rw [if_neg (by omega), if_pos h1, if_pos h1]; rfl
      · by_cases h2 : y.toNat < x.toNat
        · rw [if_pos h2, if_neg h1, if_pos h2]
        · rw [if_neg h2, if_neg h1, if_neg h1, if_neg h2]; exact ih b
theorem cmp_vals (a b : List UInt8) : Lib.compareBytes a b = -1 ∨ Lib.compareBytes a b = 0 ∨ Lib.compareBytes a b = 1 := by
  induction a generalizing b with
  | nil => cases b <;> simp [Lib.compareBytes]
  | cons x a ih =>
    cases b with
    | nil => simp [Lib.compareBytes]
    | cons y b =>
      simp only [Lib.compareBytes]
      split
      · exact .inl rfl
      · split
        · exact .inr (.inr rfl)
        · exact ih b
theorem cmp_zero (a b : List UInt8) : Lib.compareBytes a b = 0 ↔ a = b := by
  induction a generalizing b with
  | nil => cases b <;> simp [Lib.compareBytes]
  | cons x a ih =>
    cases b with
    | nil => simp [Lib.compareBytes]
    | cons y b =>
      simp only [Lib.compareBytes, UInt8.lt_iff_toNat_lt]
      by_cases h1 : x.toNat < y.toNat
      · rw [if_pos h1]
        constructor
        · intro h; cases h
        · intro h; cases h; omega
      · by_cases h2 : y.toNat < x.toNat
        · rw [if_neg h1, if_pos h2]
          constructor
          · intro h; cases h
          · intro h; cases h; omega
        · rw [if_neg h1, if_neg h2, ih b]
          have : x = y := UInt8.toNat_inj.1 (by omega)
          subst this; simp
theorem cmp_trans (a b c : List UInt8) (h1 : Lib.compareBytes a b ≤ 0) (h2 : Lib.compareBytes b c ≤ 0) : Lib.compareBytes a c ≤ 0 := by
  induction a generalizing b c with
  | nil => cases c <;> simp [Lib.compareBytes]
  | cons x a ih =>
    cases b with
    | nil => simp [Lib.compareBytes] at h1
    | cons y b =>
      cases c with
      | nil => simp [Lib.compareBytes] at h2
      | cons z c =>
        simp only [Lib.compareBytes, UInt8.lt_iff_toNat_lt] at *
        by_cases e1 : x.toNat < y.toNat
        · by_cases e2 : y.toNat < z.toNat
          · rw [if_pos (by omega)]; omega
          · by_cases e3 : z.toNat < y.toNat
            · rw [if_neg e2, if_pos e3] at h2; omega
            · rw [if_pos (by omega)]; omega
        · by_cases e4 : y.toNat < x.toNat
          · rw [if_neg e1, if_pos e4] at h1; omega
          · rw [if_neg e1, if_neg e4] at h1
            by_cases e2 : y.toNat < z.toNat
            · rw [if_pos (by omega)]; omega
            · by_cases e3 : z.toNat < y.toNat
              · rw [if_neg e2, if_pos e3] at h2; omega
              · rw [if_neg e2, if_neg e3] at h2
                rw [if_neg (by omega), if_neg (by omega)]
                exact ih b c h1 h2
/-- Of as many digits the greater number has the greater ones. -/
theorem cmp_num (a b : List UInt8) (hl : a.length = b.length) (ha : a.all digB = true) (hb : b.all digB = true) :
    (Lib.compareBytes a b < 0 ↔ numL a < numL b) := by
  unfold numL
  suffices ∀ (a b : List UInt8) (v : Nat), a.length = b.length → a.all digB = true → b.all digB = true →
      (Lib.compareBytes a b < 0 ↔ a.foldl (fun v c => v * 10 + (c.toNat - 48)) v < b.foldl (fun v c => v * 10 + (c.toNat - 48)) v) from this a b 0 hl ha hb
  clear hl ha hb a b
  intro a
  induction a with
  | nil => intro b v hl _ _; cases b with
    | nil => simp [Lib.compareBytes]
    | cons y b => simp at hl
  | cons x a ih =>
    intro b v hl ha hb
    cases b with
    | nil => simp at hl
    | cons y b =>
      simp only [List.all_cons, Bool.and_eq_true] at ha hb
      have hx : 48 ≤ x.toNat ∧ x.toNat ≤ 57 := by simpa [digB] using ha.1
      have hy : 48 ≤ y.toNat ∧ y.toNat ≤ 57 := by simpa [digB] using hb.1
      have far : ∀ (l m : List UInt8) (u w : Nat), l.length = m.length → l.all digB = true → u < w → l.foldl (fun v c => v * 10 + (c.toNat - 48)) u < m.foldl (fun v c => v * 10 + (c.toNat - 48)) w := by
        intro l
        induction l with
        | nil => intro m u w hlm _ h; cases m with
          | nil => simpa using h
          | cons _ _ => simp at hlm
        | cons c l ihl =>
          intro m u w hlm hal h
          cases m with
          | nil => simp at hlm
          | cons d m =>
            simp only [List.all_cons, Bool.and_eq_true] at hal
            have hc : 48 ≤ c.toNat ∧ c.toNat ≤ 57 := by simpa [digB] using hal.1
            exact ihl m _ _ (by simpa using hlm) hal.2 (by show u * 10 + (c.toNat - 48) < w * 10 + (d.toNat - 48); omega)
      simp only [Lib.compareBytes, UInt8.lt_iff_toNat_lt, List.foldl_cons]
      have hl' : a.length = b.length := by simpa using hl
      by_cases h1 : x.toNat < y.toNat
      · rw [if_pos h1]
        exact ⟨fun _ => far a b _ _ hl' ha.2 (by omega), fun _ => by omega⟩
      · by_cases h2 : y.toNat < x.toNat
        · rw [if_neg h1, if_pos h2]
          have := far b a (v * 10 + (y.toNat - 48)) (v * 10 + (x.toNat - 48)) hl'.symm hb.2 (by omega)
          exact ⟨fun h => by omega, fun h => by omega⟩
        · rw [if_neg h1, if_neg h2, show x.toNat = y.toNat by omega]
          exact ih b _ hl' ha.2 hb.2
theorem ofNat_digit (d : Nat) (h : d < 10) : (UInt8.ofNat (48 + d)).toNat = 48 + d := UInt8.toNat_ofNat_of_lt' (show 48 + d < 256 by omega)
theorem decDigits_num (u : Nat) : (Lib.decDigits u).all digB = true ∧ numL (Lib.decDigits u) = u := by
  induction u using Nat.strongRecOn with
  | _ u ih =>
    rw [Lib.decDigits]
    by_cases h : u < 10
    · rw [dif_pos h]
      have := ofNat_digit u h
      refine ⟨?_, ?_⟩
      · simp only [List.all_cons, List.all_nil, Bool.and_true, digB, this, Bool.and_eq_true, decide_eq_true_eq]; omega
      · simp only [numL, List.foldl_cons, List.foldl_nil, this]; omega
    · rw [dif_neg h]
      obtain ⟨i1, i2⟩ := ih (u / 10) (by omega)
      have := ofNat_digit (u % 10) (by omega)
      refine ⟨?_, ?_⟩
      · rw [List.all_append, i1]
        simp only [List.all_cons, List.all_nil, Bool.and_true, Bool.true_and, digB, this, Bool.and_eq_true, decide_eq_true_eq]; omega
      · unfold numL at *
        rw [List.foldl_append, i2]
        simp only [List.foldl_cons, List.foldl_nil, this]; omega
theorem itoa_order (n m : Int) (hn : 0 ≤ n) (hm : 0 ≤ m) (hl : (Lib.itoa n).length = (Lib.itoa m).length) : (Lib.compareBytes (Lib.itoa n) (Lib.itoa m) < 0 ↔ n < m) := by
  have e1 : Lib.itoa n = Lib.decDigits n.toNat := by unfold Lib.itoa; rw [if_neg (by omega)]
  have e2 : Lib.itoa m = Lib.decDigits m.toNat := by unfold Lib.itoa; rw [if_neg (by omega)]
  rw [e1, e2] at hl ⊢
  obtain ⟨a1, a2⟩ := decDigits_num n.toNat
  obtain ⟨b1, b2⟩ := decDigits_num m.toNat
  rw [cmp_num _ _ hl a1 b1, a2, b2]; omega

set_option maxHeartbeats 400000 in
theorem compare_any (a b : ByteArray) (w : World) : Calls Tryd.prog 34 #[.string a, .string b] w fun e w' => e = .returned (.int .i64 (Lib.compareBytes a.data.toList b.data.toList)) ∧ w' = w := by
  go_enter Tryd.func34, Tryd.ntmps34
  go_wp2_with fail
  refine Calls.mono (Tryd.strings_Compare a b w) ?_
  rintro e w' ⟨rfl, hw⟩
  subst hw
  go_wp2
  go_ret
  exact ⟨rfl, rfl⟩
theorem below_grow' (w : World) (k : Nat) (os : Array Obj) : Below w.heap.size w (Sort.grow (w.drewN k) os) := by
  have h := below_drewN w k
  refine ⟨h.os, h.tape, h.output, ?_, fun i hi => ?_⟩
  · have := h.size; simp only [Sort.grow, Array.size_append]; omega
  · have hs := h.size
    rw [← h.block i hi]
    simp only [Sort.grow]
    exact Array.getElem?_append_left (by omega)
set_option maxHeartbeats 400000 in
theorem digits_any (n : Int) (w : World) (h1 : -9223372036854775808 ≤ n) (h2 : n ≤ 9223372036854775807) (ht : PowsAre w) :
    Calls Tryd.prog 32 #[.int .i64 n] w fun e w' => e = .returned (.string ⟨(Lib.itoa n).toArray⟩) ∧ Below w.heap.size w w' := by
  have H : Hid (Calls Tryd.prog 65 #[.int .i64 n] w fun e w' => e = .returned (.string ⟨(Lib.itoa n).toArray⟩) ∧ Below w.heap.size w w') :=
    Calls.mono (Tryd.strconv_Itoa n h1 h2 w ht) fun e w' ⟨e1, k, os, e2⟩ => ⟨e1, by rw [e2]; exact below_grow' w k os⟩
  clear ht
  go_enter Tryd.func32, Tryd.ntmps32
  go_wp2_with fail
  refine Calls.mono H.out ?_
  rintro e w' ⟨rfl, hb⟩
  go_wp2
  go_ret
  exact ⟨rfl, hb⟩
end Go.Proofs.YtpojkaeclfgfkaaDoor
