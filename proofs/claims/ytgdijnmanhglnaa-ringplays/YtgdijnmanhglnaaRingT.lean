/- The contracts of ring's Top: best, value. Conditions: a ring of 1 to 2000 cells; at most 1000000 numbers at once. -/
import Derived.Test.YtgdijnmanhglnaaRingC
namespace Go.Proofs.Ytgdijnmanhglnaa
open Go.RowKit
set_option linter.unusedVariables false
set_option maxRecDepth 100000

theorem above_any (x y : Int) (w : World) : Calls Try.prog 31 #[.int .i64 x, .int .i64 y] w fun e w' => e = .returned (.bool (betB true x y)) ∧ w' = w := by
  go_enter Try.func31, Try.ntmps31
  go_wp2
  go_ret
  exact ⟨rfl, rfl⟩
theorem below_any (x y : Int) (w : World) : Calls Try.prog 32 #[.int .i64 x, .int .i64 y] w fun e w' => e = .returned (.bool (betB false x y)) ∧ w' = w := by
  go_enter Try.func32, Try.ntmps32
  go_wp2
  go_ret
  exact ⟨rfl, rfl⟩
theorem agoV_nat (xs : List Int) (i : Nat) : agoV xs i = xs.getD i 0 := by
  unfold agoV
  by_cases h : i < xs.length
  · rw [if_pos (by omega)]; rfl
  · rw [if_neg (by omega), List.getD_eq_getElem?_getD, List.getElem?_eq_none (by omega)]; rfl
/-- A top's pointer to its ring. -/
structure TopOn (W : World) (t b g n : Nat) (xs : List Int) : Prop where
  c0 : W.cell? ⟨t, 0, none⟩ = some (.pointer (some ⟨b, 0, none⟩))
  ring : RingIs W b g n xs
theorem value_any {W : World} {t b g n : Nat} {xs : List Int} (h : TopOn W t b g n xs) (hn : n ≤ 2000) (i : Nat) :
    Calls Try.prog 35 #[.pointer (some ⟨t, 0, none⟩), .int .i64 i] W fun e w' => e = .returned (.int .i64 (atL xs i)) ∧ w' = W := by
  show Calls Try.prog 35 #[.pointer (some ⟨t, 0, none⟩), .int .i64 i] W fun e w' => e = .returned (.int .i64 (xs.getD i 0)) ∧ w' = W
  have HR : Hid (RingIs W b g n xs) := h.ring
  have hc := h.c0
  have e := agoV_nat xs i
  have HA := ago_any HR.out hn i
  rw [e] at HA
  have HA' : Hid (Calls Try.prog 15 #[.pointer (some ⟨b, 0, none⟩), .int .i64 i] W fun e w' => e = .returned (.tuple #[.int .i64 (xs.getD i 0), .int .i64 (agoE xs i)]) ∧ w' = W) := HA
  clear h e HA
  generalize xs.getD i 0 = x at *
  go_enter Try.func35, Try.ntmps35
  go_wp2_with fail
  refine Calls.mono HA'.out ?_
  rintro e w' ⟨rfl, hw⟩
  have hw' := hw.symm; subst hw'; clear hw
  go_wp2
  go_ret
  exact ⟨rfl, rfl⟩
set_option maxHeartbeats 4000000 in
theorem best_anew_true {W : World} {t b g n : Nat} {ys : List Int} (h : TopOn W t b g n ys) (hn : n ≤ 2000)
    (p fresh : Nat) (hp : p ≤ 2000) (hf : fresh ≤ 1000000) (hw : ys.length ≤ p + fresh) :
    Calls Try.prog 30 #[.pointer (some ⟨t, 0, none⟩), .int .i64 p, .int .i64 fresh, .func (.func 31) #[] #[]] W fun e w' => ∃ r : Nat, e = .returned (.int .i64 r) ∧ bestAt true ys r ∧ w' = W := by
  have HT : Hid (TopOn W t b g n ys) := h
  have hc := h.c0
  have hlen := h.ring.len
  clear h
  go_enter Try.func30, Try.ntmps30
  go_wp2_with (first | (go_at_call 23; refine (len_any HT.out.ring).mono ?_; rintro e w' ⟨rfl, hw⟩; have hw' := hw.symm; subst hw'; clear hw) | (go_at_call 35; refine (value_any HT.out hn 0).mono ?_; rintro e w' ⟨rfl, hw⟩; have hw' := hw.symm; subst hw'; clear hw))
  go_loop [9, 10, 31] (fun at' x i => ∃ k q : Nat, k ≤ ys.length ∧ i = .int .i64 k ∧ at' = .int .i64 q ∧ x = .int .i64 (atL ys q) ∧ (q < k ∨ q = 0) ∧ bestTo true ys (max k 1) q) (fun _ _ i => ys.length - (intOf i).toNat)
  case atStart => exact ⟨0, 0, Nat.zero_le _, rfl, rfl, rfl, Or.inr rfl, bestTo_one true ys⟩
  case round =>
    obtain ⟨k, q, hk, rfl, rfl, rfl, hq, hbest⟩ := hrel
    have HB : Hid (bestTo true ys (max k 1) q) := hbest
    clear hbest
    by_cases hlt : k < ys.length
    · go_wp2_with (go_at_call 35; refine (value_any HT.out hn k).mono ?_; rintro e w' ⟨rfl, hw⟩; have hw' := hw.symm; subst hw'; clear hw)
      refine Calls.mono (above_any _ _ _) ?_
      rintro e w' ⟨rfl, hw⟩
      have hw' := hw.symm; subst hw'; clear hw
      cases hb : betB true (atL ys k) (atL ys q) with
      | false =>
        have HE : Hid (bestTo true ys (max (k + 1) 1) q) := by
          have := HB.out
          by_cases h0 : k = 0
          · subst h0; exact this
          · rw [show max (k + 1) 1 = k + 1 by omega]; rw [show max k 1 = k by omega] at this; exact bestTo_keep this hb
        clear hb
        go_wp2
        go_round
        case rel => exact ⟨k + 1, q, by omega, by go_num, rfl, rfl, by omega, HE.out⟩
        case measure => simp [intOf]; omega
      | true =>
        have HE : Hid (bestTo true ys (max (k + 1) 1) k) := by
          have := HB.out
          by_cases h0 : k = 0
          · subst h0; exact bestTo_one true ys
          · rw [show max (k + 1) 1 = k + 1 by omega]; rw [show max k 1 = k by omega] at this; exact bestTo_turn this hb
        clear hb
        go_wp2
        go_round
        case rel => exact ⟨k + 1, k, by omega, by go_num, rfl, rfl, by omega, HE.out⟩
        case measure => simp [intOf]; omega
    · obtain rfl : k = ys.length := by omega
      go_wp2_with (go_at_call 35; refine (value_any HT.out hn 0).mono ?_; rintro e w' ⟨rfl, hw⟩; have hw' := hw.symm; subst hw'; clear hw)
      refine Calls.mono (above_any _ _ _) ?_
      rintro e w' ⟨rfl, hw⟩
      have hw' := hw.symm; subst hw'; clear hw
      cases hb : betB true (atL ys (0)) (atL ys q) with
      | false =>
        have HE : Hid (bestAt true ys q) := ⟨by omega, fun h0 => ⟨by omega, bestTo_less HB.out (by omega)⟩⟩
        clear hb
        go_wp2
        go_ret
        exact ⟨q, rfl, HE.out, rfl⟩
      | true =>
        have h0 : betB true (atL ys 0) (atL ys q) = false := HB.out 0 (by omega)
        rw [hb] at h0
        cases h0
set_option maxHeartbeats 4000000 in
theorem best_anew_false {W : World} {t b g n : Nat} {ys : List Int} (h : TopOn W t b g n ys) (hn : n ≤ 2000)
    (p fresh : Nat) (hp : p ≤ 2000) (hf : fresh ≤ 1000000) (hw : ys.length ≤ p + fresh) :
    Calls Try.prog 30 #[.pointer (some ⟨t, 0, none⟩), .int .i64 p, .int .i64 fresh, .func (.func 32) #[] #[]] W fun e w' => ∃ r : Nat, e = .returned (.int .i64 r) ∧ bestAt false ys r ∧ w' = W := by
  have HT : Hid (TopOn W t b g n ys) := h
  have hc := h.c0
  have hlen := h.ring.len
  clear h
  go_enter Try.func30, Try.ntmps30
  go_wp2_with (first | (go_at_call 23; refine (len_any HT.out.ring).mono ?_; rintro e w' ⟨rfl, hw⟩; have hw' := hw.symm; subst hw'; clear hw) | (go_at_call 35; refine (value_any HT.out hn 0).mono ?_; rintro e w' ⟨rfl, hw⟩; have hw' := hw.symm; subst hw'; clear hw))
  go_loop [9, 10, 31] (fun at' x i => ∃ k q : Nat, k ≤ ys.length ∧ i = .int .i64 k ∧ at' = .int .i64 q ∧ x = .int .i64 (atL ys q) ∧ (q < k ∨ q = 0) ∧ bestTo false ys (max k 1) q) (fun _ _ i => ys.length - (intOf i).toNat)
  case atStart => exact ⟨0, 0, Nat.zero_le _, rfl, rfl, rfl, Or.inr rfl, bestTo_one false ys⟩
  case round =>
    obtain ⟨k, q, hk, rfl, rfl, rfl, hq, hbest⟩ := hrel
    have HB : Hid (bestTo false ys (max k 1) q) := hbest
    clear hbest
    by_cases hlt : k < ys.length
    · go_wp2_with (go_at_call 35; refine (value_any HT.out hn k).mono ?_; rintro e w' ⟨rfl, hw⟩; have hw' := hw.symm; subst hw'; clear hw)
      refine Calls.mono (below_any _ _ _) ?_
      rintro e w' ⟨rfl, hw⟩
      have hw' := hw.symm; subst hw'; clear hw
      cases hb : betB false (atL ys k) (atL ys q) with
      | false =>
        have HE : Hid (bestTo false ys (max (k + 1) 1) q) := by
          have := HB.out
          by_cases h0 : k = 0
          · subst h0; exact this
          · rw [show max (k + 1) 1 = k + 1 by omega]; rw [show max k 1 = k by omega] at this; exact bestTo_keep this hb
        clear hb
        go_wp2
        go_round
        case rel => exact ⟨k + 1, q, by omega, by go_num, rfl, rfl, by omega, HE.out⟩
        case measure => simp [intOf]; omega
      | true =>
        have HE : Hid (bestTo false ys (max (k + 1) 1) k) := by
          have := HB.out
          by_cases h0 : k = 0
          · subst h0; exact bestTo_one false ys
          · rw [show max (k + 1) 1 = k + 1 by omega]; rw [show max k 1 = k by omega] at this; exact bestTo_turn this hb
        clear hb
        go_wp2
        go_round
        case rel => exact ⟨k + 1, k, by omega, by go_num, rfl, rfl, by omega, HE.out⟩
        case measure => simp [intOf]; omega
    · obtain rfl : k = ys.length := by omega
      go_wp2_with (go_at_call 35; refine (value_any HT.out hn 0).mono ?_; rintro e w' ⟨rfl, hw⟩; have hw' := hw.symm; subst hw'; clear hw)
      refine Calls.mono (below_any _ _ _) ?_
      rintro e w' ⟨rfl, hw⟩
      have hw' := hw.symm; subst hw'; clear hw
      cases hb : betB false (atL ys (0)) (atL ys q) with
      | false =>
        have HE : Hid (bestAt false ys q) := ⟨by omega, fun h0 => ⟨by omega, bestTo_less HB.out (by omega)⟩⟩
        clear hb
        go_wp2
        go_ret
        exact ⟨q, rfl, HE.out, rfl⟩
      | true =>
        have h0 : betB false (atL ys 0) (atL ys q) = false := HB.out 0 (by omega)
        rw [hb] at h0
        cases h0
set_option maxHeartbeats 4000000 in
theorem best_kept_true {W : World} {t b g n : Nat} {ys : List Int} (h : TopOn W t b g n ys) (hn : n ≤ 2000)
    (p fresh : Nat) (hp : p ≤ 2000) (hf : fresh ≤ 1000000) (hw : p + fresh < ys.length) (h1 : ∀ q, bestTo true ys fresh q → betB true (atL ys (p + fresh)) (atL ys q) = false → bestTo true ys ys.length q) (h2 : ∀ q, bestTo true ys fresh q → betB true (atL ys (p + fresh)) (atL ys q) = true → bestTo true ys ys.length (p + fresh)) :
    Calls Try.prog 30 #[.pointer (some ⟨t, 0, none⟩), .int .i64 p, .int .i64 fresh, .func (.func 31) #[] #[]] W fun e w' => ∃ r : Nat, e = .returned (.int .i64 r) ∧ bestAt true ys r ∧ w' = W := by
  have HT : Hid (TopOn W t b g n ys) := h
  have hc := h.c0
  have hlen := h.ring.len
  have H1 : Hid (∀ q, bestTo true ys fresh q → betB true (atL ys (p + fresh)) (atL ys q) = false → bestTo true ys ys.length q) := h1
  have H2 : Hid (∀ q, bestTo true ys fresh q → betB true (atL ys (p + fresh)) (atL ys q) = true → bestTo true ys ys.length (p + fresh)) := h2
  have hv := value_any h hn (p + fresh)
  rw [Int.natCast_add] at hv
  have HV : Hid (Calls Try.prog 35 #[.pointer (some ⟨t, 0, none⟩), .int .i64 ((p : Int) + fresh)] W fun e w' => e = .returned (.int .i64 (atL ys (p + fresh))) ∧ w' = W) := hv
  clear h1 h2 hv
  clear h
  go_enter Try.func30, Try.ntmps30
  go_wp2_with (first | (go_at_call 23; refine (len_any HT.out.ring).mono ?_; rintro e w' ⟨rfl, hw⟩; have hw' := hw.symm; subst hw'; clear hw) | (go_at_call 35; refine (value_any HT.out hn 0).mono ?_; rintro e w' ⟨rfl, hw⟩; have hw' := hw.symm; subst hw'; clear hw))
  go_loop [9, 10, 31] (fun at' x i => ∃ k q : Nat, k ≤ fresh ∧ i = .int .i64 k ∧ at' = .int .i64 q ∧ x = .int .i64 (atL ys q) ∧ (q < k ∨ q = 0) ∧ bestTo true ys (max k 1) q) (fun _ _ i => fresh - (intOf i).toNat)
  case atStart => exact ⟨0, 0, Nat.zero_le _, rfl, rfl, rfl, Or.inr rfl, bestTo_one true ys⟩
  case round =>
    obtain ⟨k, q, hk, rfl, rfl, rfl, hq, hbest⟩ := hrel
    have HB : Hid (bestTo true ys (max k 1) q) := hbest
    clear hbest
    by_cases hlt : k < fresh
    · go_wp2_with (go_at_call 35; refine (value_any HT.out hn k).mono ?_; rintro e w' ⟨rfl, hw⟩; have hw' := hw.symm; subst hw'; clear hw)
      refine Calls.mono (above_any _ _ _) ?_
      rintro e w' ⟨rfl, hw⟩
      have hw' := hw.symm; subst hw'; clear hw
      cases hb : betB true (atL ys k) (atL ys q) with
      | false =>
        have HE : Hid (bestTo true ys (max (k + 1) 1) q) := by
          have := HB.out
          by_cases h0 : k = 0
          · subst h0; exact this
          · rw [show max (k + 1) 1 = k + 1 by omega]; rw [show max k 1 = k by omega] at this; exact bestTo_keep this hb
        clear hb
        go_wp2
        go_round
        case rel => exact ⟨k + 1, q, by omega, by go_num, rfl, rfl, by omega, HE.out⟩
        case measure => simp [intOf]; omega
      | true =>
        have HE : Hid (bestTo true ys (max (k + 1) 1) k) := by
          have := HB.out
          by_cases h0 : k = 0
          · subst h0; exact bestTo_one true ys
          · rw [show max (k + 1) 1 = k + 1 by omega]; rw [show max k 1 = k by omega] at this; exact bestTo_turn this hb
        clear hb
        go_wp2
        go_round
        case rel => exact ⟨k + 1, k, by omega, by go_num, rfl, rfl, by omega, HE.out⟩
        case measure => simp [intOf]; omega
    · obtain rfl : fresh = k := by omega
      go_wp2_with (go_at_call 35; refine (HV.out).mono ?_; rintro e w' ⟨rfl, hw⟩; have hw' := hw.symm; subst hw'; clear hw)
      refine Calls.mono (above_any _ _ _) ?_
      rintro e w' ⟨rfl, hw⟩
      have hw' := hw.symm; subst hw'; clear hw
      cases hb : betB true (atL ys (p + fresh)) (atL ys q) with
      | false =>
        have HE : Hid (bestAt true ys q) := ⟨by omega, fun h0 => ⟨by omega, H1.out q (bestTo_less HB.out (by omega)) hb⟩⟩
        clear hb
        go_wp2
        go_ret
        exact ⟨q, rfl, HE.out, rfl⟩
      | true =>
        have HE : Hid (bestAt true ys (p + fresh)) := ⟨by omega, fun h0 => ⟨by omega, H2.out q (bestTo_less HB.out (by omega)) hb⟩⟩
        clear hb
        go_wp2
        go_ret
        exact ⟨p + fresh, by first | rfl | (rw [Int.natCast_add]), HE.out, rfl⟩
set_option maxHeartbeats 4000000 in
theorem best_kept_false {W : World} {t b g n : Nat} {ys : List Int} (h : TopOn W t b g n ys) (hn : n ≤ 2000)
    (p fresh : Nat) (hp : p ≤ 2000) (hf : fresh ≤ 1000000) (hw : p + fresh < ys.length) (h1 : ∀ q, bestTo false ys fresh q → betB false (atL ys (p + fresh)) (atL ys q) = false → bestTo false ys ys.length q) (h2 : ∀ q, bestTo false ys fresh q → betB false (atL ys (p + fresh)) (atL ys q) = true → bestTo false ys ys.length (p + fresh)) :
    Calls Try.prog 30 #[.pointer (some ⟨t, 0, none⟩), .int .i64 p, .int .i64 fresh, .func (.func 32) #[] #[]] W fun e w' => ∃ r : Nat, e = .returned (.int .i64 r) ∧ bestAt false ys r ∧ w' = W := by
  have HT : Hid (TopOn W t b g n ys) := h
  have hc := h.c0
  have hlen := h.ring.len
  have H1 : Hid (∀ q, bestTo false ys fresh q → betB false (atL ys (p + fresh)) (atL ys q) = false → bestTo false ys ys.length q) := h1
  have H2 : Hid (∀ q, bestTo false ys fresh q → betB false (atL ys (p + fresh)) (atL ys q) = true → bestTo false ys ys.length (p + fresh)) := h2
  have hv := value_any h hn (p + fresh)
  rw [Int.natCast_add] at hv
  have HV : Hid (Calls Try.prog 35 #[.pointer (some ⟨t, 0, none⟩), .int .i64 ((p : Int) + fresh)] W fun e w' => e = .returned (.int .i64 (atL ys (p + fresh))) ∧ w' = W) := hv
  clear h1 h2 hv
  clear h
  go_enter Try.func30, Try.ntmps30
  go_wp2_with (first | (go_at_call 23; refine (len_any HT.out.ring).mono ?_; rintro e w' ⟨rfl, hw⟩; have hw' := hw.symm; subst hw'; clear hw) | (go_at_call 35; refine (value_any HT.out hn 0).mono ?_; rintro e w' ⟨rfl, hw⟩; have hw' := hw.symm; subst hw'; clear hw))
  go_loop [9, 10, 31] (fun at' x i => ∃ k q : Nat, k ≤ fresh ∧ i = .int .i64 k ∧ at' = .int .i64 q ∧ x = .int .i64 (atL ys q) ∧ (q < k ∨ q = 0) ∧ bestTo false ys (max k 1) q) (fun _ _ i => fresh - (intOf i).toNat)
  case atStart => exact ⟨0, 0, Nat.zero_le _, rfl, rfl, rfl, Or.inr rfl, bestTo_one false ys⟩
  case round =>
    obtain ⟨k, q, hk, rfl, rfl, rfl, hq, hbest⟩ := hrel
    have HB : Hid (bestTo false ys (max k 1) q) := hbest
    clear hbest
    by_cases hlt : k < fresh
    · go_wp2_with (go_at_call 35; refine (value_any HT.out hn k).mono ?_; rintro e w' ⟨rfl, hw⟩; have hw' := hw.symm; subst hw'; clear hw)
      refine Calls.mono (below_any _ _ _) ?_
      rintro e w' ⟨rfl, hw⟩
      have hw' := hw.symm; subst hw'; clear hw
      cases hb : betB false (atL ys k) (atL ys q) with
      | false =>
        have HE : Hid (bestTo false ys (max (k + 1) 1) q) := by
          have := HB.out
          by_cases h0 : k = 0
          · subst h0; exact this
          · rw [show max (k + 1) 1 = k + 1 by omega]; rw [show max k 1 = k by omega] at this; exact bestTo_keep this hb
        clear hb
        go_wp2
        go_round
        case rel => exact ⟨k + 1, q, by omega, by go_num, rfl, rfl, by omega, HE.out⟩
        case measure => simp [intOf]; omega
      | true =>
        have HE : Hid (bestTo false ys (max (k + 1) 1) k) := by
          have := HB.out
          by_cases h0 : k = 0
          · subst h0; exact bestTo_one false ys
          · rw [show max (k + 1) 1 = k + 1 by omega]; rw [show max k 1 = k by omega] at this; exact bestTo_turn this hb
        clear hb
        go_wp2
        go_round
        case rel => exact ⟨k + 1, k, by omega, by go_num, rfl, rfl, by omega, HE.out⟩
        case measure => simp [intOf]; omega
    · obtain rfl : fresh = k := by omega
      go_wp2_with (go_at_call 35; refine (HV.out).mono ?_; rintro e w' ⟨rfl, hw⟩; have hw' := hw.symm; subst hw'; clear hw)
      refine Calls.mono (below_any _ _ _) ?_
      rintro e w' ⟨rfl, hw⟩
      have hw' := hw.symm; subst hw'; clear hw
      cases hb : betB false (atL ys (p + fresh)) (atL ys q) with
      | false =>
        have HE : Hid (bestAt false ys q) := ⟨by omega, fun h0 => ⟨by omega, H1.out q (bestTo_less HB.out (by omega)) hb⟩⟩
        clear hb
        go_wp2
        go_ret
        exact ⟨q, rfl, HE.out, rfl⟩
      | true =>
        have HE : Hid (bestAt false ys (p + fresh)) := ⟨by omega, fun h0 => ⟨by omega, H2.out q (bestTo_less HB.out (by omega)) hb⟩⟩
        clear hb
        go_wp2
        go_ret
        exact ⟨p + fresh, by first | rfl | (rw [Int.natCast_add]), HE.out, rfl⟩

end Go.Proofs.Ytgdijnmanhglnaa
