/- RingLast: the law's walk. Conditions: none but the numbers' own ranges. -/
import Derived.Test.YtgdijnmanhglnaaRingI
namespace Go.Proofs.Ytgdijnmanhglnaa
open Go.RowKit
set_option linter.unusedVariables false
set_option maxRecDepth 100000

theorem push_one {W : World} {b g n : Nat} {xs : List Int} (h : RingIs W b g n xs) (hn : n ≤ 2000) (x : Int) (q : Nat) (hq : q = W.heap.size) :
    Calls Try.prog 12 #[.pointer (some ⟨b, 0, none⟩), .slice (some ⟨q, 0, none⟩) 1 1] (W.alloc (.cells #[.int .i64 x] 3)) fun e w' => e = .returned (.tuple #[]) ∧ RingIs w' b g n (pushL n xs [x]) ∧ Mod [b, g] W w' := by
  subst hq
  have hal := (Below.refl W.heap.size W).alloc (Nat.le_refl _) (.cells #[.int .i64 x] 3)
  have l := h.lt
  have t := push_any (h.below hal) hn (some ⟨W.heap.size, 0, none⟩) [x] 1 (row_lit W [x] _ _ rfl) (off_new _ _ (by simp; omega)) (by simp)
  exact Calls.mono t fun e w' ⟨h1, h2, h3⟩ => ⟨h1, h2, (Mod.of_below hal).trans h3⟩
theorem pushL_one (n : Nat) (zs : List Int) (k : Nat) (h : k < zs.length) : pushL n (pushL n [] (zs.take k)) [zs.getD k 0] = pushL n [] (zs.take (k + 1)) := by
  rw [pushL_push, List.take_succ_eq_append_getElem h, List.getD_eq_getElem?_getD, List.getElem?_eq_getElem h]; rfl
theorem ago_last (n : Nat) (zs : List Int) (k j : Nat) (hk : k < zs.length) (hj : j ≤ k) (hn : j < n) : (pushL n [] (zs.take (k + 1))).getD j 0 = zs.getD (k - j) 0 := by
  have hl : (zs.take (k + 1)).length = k + 1 := by rw [List.length_take]; omega
  rw [pushL_new _ _ _ _ (by omega) hn, hl]
  rw [List.getD_eq_getElem?_getD, List.getElem?_take_of_lt (by omega), List.getD_eq_getElem?_getD, show k + 1 - 1 - j = k - j by omega]
set_option maxHeartbeats 4000000 in
theorem last_none (n : Int) (a : Option Addr) (len cap : Nat) (w : World) (h : n < 1 ∨ 300 < n ∨ 300 < len) :
    Calls Try.prog 7 #[.int .i64 n, .slice a len cap] w fun e w' => e = .returned (.bool true) ∧ Below w.heap.size w w' := by
  by_cases h1 : n < 1
  · clear h
    go_enter Try.func7, Try.ntmps7
    go_wp2_with (go_at_call 9; refine (alive_any _).mono ?_; rintro e w' ⟨rfl, hb⟩)
    go_ret
    exact ⟨rfl, hb⟩
  · by_cases h2 : 300 < n
    · clear h
      go_enter Try.func7, Try.ntmps7
      go_wp2_with (go_at_call 9; refine (alive_any _).mono ?_; rintro e w' ⟨rfl, hb⟩)
      go_ret
      exact ⟨rfl, hb⟩
    · have h3 : (300 : Int) < (len : Int) := by omega
      clear h
      go_enter Try.func7, Try.ntmps7
      go_wp2_with (go_at_call 9; refine (alive_any _).mono ?_; rintro e w' ⟨rfl, hb⟩)
      go_ret
      exact ⟨rfl, hb⟩
set_option maxHeartbeats 8000000 in
theorem last_some (n : Nat) (a : Option Addr) (cap : Nat) (zs : List Int) (w : World) (hz : IntRow w a zs) (h0 : 1 ≤ n) (h1 : n ≤ 300) (h2 : zs.length ≤ 300) :
    Calls Try.prog 7 #[.int .i64 n, .slice a zs.length cap] w fun e w' => e = .returned (.bool true) ∧ Below w.heap.size w w' := by
  have HZ : Hid (IntRow w a zs) := hz
  clear hz
  go_enter Try.func7, Try.ntmps7
  go_wp2_with fail
  refine Calls.mono (new_ok n w h0 (by omega)) ?_
  rintro e w1 ⟨b, g, rfl, hb, hg, hR, hB⟩
  have HR : Hid (RingIs w1 b g n []) := hR
  have HB : Hid (Below w.heap.size w w1) := hB
  have Hb : Hid (∀ i ∈ [b, g], w.heap.size ≤ i) := by show ∀ i ∈ [b, g], w.heap.size ≤ i; simp; omega
  clear hb hg hR hB
  go_wp2
  go_loopw [7] (fun i wr => ∃ k : Nat, k ≤ zs.length ∧ i = .int .i64 k ∧ RingIs wr b g n (pushL n [] (zs.take k)) ∧ Below w.heap.size w wr) (fun i _ => zs.length - (intOf i).toNat)
  case atStart => exact ⟨0, Nat.zero_le _, rfl, by rw [List.take_zero, pushL_nil _ _ (by simp)]; exact HR.out, HB.out⟩
  case round =>
    obtain ⟨k, hk, rfl, hR, hB⟩ := hrel
    clear HR HB
    have HR : Hid (RingIs wr b g n (pushL n [] (zs.take k))) := hR
    have HB : Hid (Below w.heap.size w wr) := hB
    clear hR hB
    by_cases hlt : k < zs.length
    · obtain ⟨b', off, rfl, hcell⟩ := (HZ.out.below HB.out) k hlt
      obtain ⟨x, hx⟩ : ∃ x, zs.getD k 0 = x := ⟨_, rfl⟩
      have HXE' : Hid (pushL n (pushL n [] (zs.take k)) [x] = pushL n [] (zs.take (k + 1))) := by rw [← hx]; exact pushL_one n zs k hlt
      rw [hx] at hcell
      clear hx
      go_wp2_with fail
      refine Calls.mono (push_one HR.out (by omega) x _ rfl) ?_
      rintro e w2 ⟨rfl, hR2, hM2⟩
      rw [HXE'.out] at hR2
      have HR2 : Hid (RingIs w2 b g n (pushL n [] (zs.take (k + 1)))) := hR2
      have HB2 : Hid (Below w.heap.size w w2) := hM2.below HB.out Hb.out
      have hL : (pushL n [] (zs.take (k + 1))).length = min n (k + 1) := by rw [pushL_len, List.length_take]; simp; omega
      clear hR2 hM2 hcell HR
      go_wp2
      go_loop [8] (fun v => ∃ j : Nat, j ≤ k + 1 ∧ j ≤ 5 ∧ v = .int .i64 j) (fun v => 5 - (intOf v).toNat)
      case atStart => exact ⟨0, by omega, by omega, rfl⟩
      case round =>
        obtain ⟨j, hj1, hj2, rfl⟩ := hrel
        by_cases hjk : j ≤ k
        · by_cases hj5 : j < 5
          · obtain ⟨b2, off2, e2, hc2⟩ := (HZ.out.below HB2.out) (k - j) (by omega)
            cases e2
            by_cases hjn : j < n
            · have hA := ago_in HR2.out (by omega) j (by rw [hL]; omega)
              rw [ago_last n zs k j hlt hjk hjn] at hA
              generalize zs.getD (k - j) 0 = y at *
              have HA : Hid (Calls Try.prog 15 #[.pointer (some ⟨b, 0, none⟩), .int .i64 j] w2 fun e w' => e = .returned (.tuple #[.int .i64 y, .int .i64 0]) ∧ w' = w2) := hA
              clear hA hL
              go_wp2_with (go_at_call 15; refine (HA.out).mono ?_; rintro e w' ⟨rfl, hw⟩; have hw' := hw.symm; subst hw'; clear hw)
              go_round
              case rel => exact ⟨j + 1, by omega, by omega, by go_num⟩
              case measure => simp [intOf]; omega
            · have hA := ago_out HR2.out j (by rw [hL]; omega)
              have HA : Hid (Calls Try.prog 15 #[.pointer (some ⟨b, 0, none⟩), .int .i64 j] w2 fun e w' => e = .returned (.tuple #[.int .i64 0, .int .i64 3]) ∧ w' = w2) := hA
              have hdn : decide ((j : Int) < n) = false := by simp; omega
              clear hA hL hc2
              go_wp2_with (go_at_call 15; refine (HA.out).mono ?_; rintro e w' ⟨rfl, hw⟩; have hw' := hw.symm; subst hw'; clear hw)
              go_round
              case rel => exact ⟨j + 1, by omega, by omega, by go_num⟩
              case measure => simp [intOf]; omega
          · clear hL
            go_wp2
            go_roundw
            case rel => exact ⟨k + 1, by omega, by go_num, HR2.out, HB2.out⟩
            case measure => simp [intOf]; omega
        · clear hL
          go_wp2
          go_roundw
          case rel => exact ⟨k + 1, by omega, by go_num, HR2.out, HB2.out⟩
          case measure => simp [intOf]; omega
    · have HE : Hid (RingIs wr b g n (pushL n [] zs)) := by have := HR.out; rw [List.take_of_length_le (by omega)] at this; exact this
      obtain ⟨q, hq⟩ : ∃ q, (pushL n [] zs).length = q := ⟨_, rfl⟩
      have hq2 : q = min n zs.length := by rw [← hq, pushL_len]; simp
      have HQ : Hid ((pushL n [] zs).length = q) := hq
      clear HR hq
      by_cases hqn : n ≤ zs.length
      · obtain rfl : n = q := by omega
        clear hq2
        go_wp2_with fail
        refine Calls.mono (alive_any _) ?_
        rintro e w4 ⟨rfl, hb⟩
        have HE4 : Hid (RingIs w4 b g n (pushL n [] zs)) := HE.out.below hb
        have HB4 : Hid (Below w.heap.size w w4) := HB.out.trans (hb.mono HB.out.size)
        clear hb
        go_wp2_with fail
        refine Calls.mono (len_any HE4.out) ?_
        rw [HQ.out]
        rintro e w' ⟨rfl, hw⟩
        have hw' := hw.symm; subst hw'; clear hw
        go_wp2_with fail
        refine Calls.mono (size_any HE4.out) ?_
        rintro e w' ⟨rfl, hw⟩
        have hw' := hw.symm; subst hw'; clear hw
        go_wp2
        go_ret
        exact ⟨rfl, HB4.out⟩
      · obtain rfl : zs.length = q := by omega
        clear hq2
        go_wp2_with fail
        refine Calls.mono (alive_any _) ?_
        rintro e w4 ⟨rfl, hb⟩
        have HE4 : Hid (RingIs w4 b g n (pushL n [] zs)) := HE.out.below hb
        have HB4 : Hid (Below w.heap.size w w4) := HB.out.trans (hb.mono HB.out.size)
        clear hb
        go_wp2_with fail
        refine Calls.mono (len_any HE4.out) ?_
        rw [HQ.out]
        rintro e w' ⟨rfl, hw⟩
        have hw' := hw.symm; subst hw'; clear hw
        go_wp2_with fail
        refine Calls.mono (size_any HE4.out) ?_
        rintro e w' ⟨rfl, hw⟩
        have hw' := hw.symm; subst hw'; clear hw
        go_wp2
        go_ret
        exact ⟨rfl, HB4.out⟩
theorem last_any (n : Int) (a : Option Addr) (len cap : Nat) (zs : List Int) (w : World) (hm : -9223372036854775808 ≤ n ∧ n ≤ 9223372036854775807) (h : IsInts w a len cap zs) :
    Calls Try.prog 7 #[.int .i64 n, .slice a len cap] w fun e w' => e = .returned (.bool true) ∧ Below w.heap.size w w' := by
  by_cases hc : n < 1 ∨ 300 < n ∨ 300 < len
  · exact last_none n a len cap w hc
  · obtain ⟨r1, r2, r3, r4⟩ := h.row
    have := last_some n.toNat a cap (zs.take len) w r1 (by omega) (by omega) (by omega)
    rw [r2, show ((n.toNat : Nat) : Int) = n by omega] at this; exact this
end Go.Proofs.Ytgdijnmanhglnaa
