/- RingPieces: the law's walk. Conditions: none but the numbers' own ranges. -/
import Derived.Test.YtgdijnmanhglnabRgPiecesD
namespace Go.Proofs.Ytgdijnmanhglnab
open Go.RowKit
set_option linter.unusedVariables false
set_option maxRecDepth 100000

set_option maxHeartbeats 4000000 in
theorem pieces_some (n k : Nat) (most : Int) (a : Option Addr) (cap : Nat) (zs : List Int) (w : World) (hz : IntRow w a zs) (ha : a = none → cap = 0) (h0 : 1 ≤ n) (h1 : n ≤ 300) (hm : 0 ≤ most) (hm2 : most ≤ 9223372036854775807) (h2 : zs.length ≤ 200) (h4 : k ≤ zs.length) (hcap : zs.length ≤ cap) :
    Calls Try.prog 3 #[.int .i64 n, .int .i64 most, .slice a zs.length cap, .int .i64 k] w fun e w' => e = .returned (.bool true) ∧ Below w.heap.size w w' := by
  obtain ⟨a2, c2, hs2, hz2, ho2, ha2⟩ := slice_lo a cap zs k w hz ha h4 hcap
  have hs1 := slice_hi a cap zs k h4 hcap
  have HZ : Hid (IntRow w a zs ∧ IntRow w a (zs.take k) ∧ IntRow w a2 (zs.drop k)) := ⟨hz, hz.take k, hz2⟩
  have HO : Hid (∀ S : List Nat, (∀ i ∈ S, w.heap.size ≤ i) → (0 < zs.length → Off a S) ∧ (0 < (zs.drop k).length → Off a2 S)) := fun S hS => ⟨fun h => hz.off h S hS, fun h => hz2.off h S hS⟩
  have HA : Hid ((a = none → cap = 0) ∧ (a2 = none → c2 = 0)) := ⟨ha, ha2⟩
  clear hz ha hz2 ho2 ha2
  go_enter Try.func3, Try.ntmps3
  go_wp2_with fail
  refine Calls.mono (new_ok n w h0 (by omega)) ?_
  rintro e w1 ⟨b, g, rfl, hb, hg, hR, hB⟩
  have H1 : Hid (RingIs w1 b g n [] ∧ Below w.heap.size w w1 ∧ w.heap.size ≤ b ∧ w.heap.size ≤ g) := ⟨hR, hB, hb, hg⟩
  clear hb hg hR hB
  go_wp2_with fail
  refine Calls.mono (new_ok n w1 h0 (by omega)) ?_
  rintro e w2 ⟨b2, g2, rfl, hb, hg, hR, hB⟩
  have H2 : Hid (RingIs w2 b g n [] ∧ RingIs w2 b2 g2 n [] ∧ Below w.heap.size w w2 ∧ (w.heap.size ≤ b ∧ w.heap.size ≤ g ∧ w.heap.size ≤ b2 ∧ w.heap.size ≤ g2) ∧ (b ≠ b2 ∧ b ≠ g2 ∧ g ≠ b2 ∧ g ≠ g2)) := by
    obtain ⟨q1, q2, q3, q4⟩ := H1.out
    have l := q1.lt
    have s := q2.size
    exact ⟨q1.below hB, hR, q2.trans (hB.mono q2.size), by omega, by omega⟩
  clear hb hg hR hB H1
  go_wp2_with fail
  refine Calls.mono (newcount_ok most w2 hm hm2) ?_
  rintro e w3 ⟨c, rfl, hc, hC, hB⟩
  have H3 : Hid (RingIs w3 b g n [] ∧ RingIs w3 b2 g2 n [] ∧ CountAt w3 c most 0 ∧ Below w.heap.size w w3 ∧ w.heap.size ≤ c ∧ (c ≠ b ∧ c ≠ g ∧ c ≠ b2 ∧ c ≠ g2)) := by
    obtain ⟨q1, q2, q3, q4, q5⟩ := H2.out
    have l := q1.lt
    have l2 := q2.lt
    have s := q3.size
    exact ⟨q1.below hB, q2.below hB, hC, q3.trans (hB.mono q3.size), by omega, by omega⟩
  have H3a : Hid ((w.heap.size ≤ b ∧ w.heap.size ≤ g ∧ w.heap.size ≤ b2 ∧ w.heap.size ≤ g2) ∧ (b ≠ b2 ∧ b ≠ g2 ∧ g ≠ b2 ∧ g ≠ g2)) := ⟨H2.out.2.2.2.1, H2.out.2.2.2.2⟩
  clear hc hC hB H2
  go_wp2_with fail
  refine Calls.mono (newcount_ok most w3 hm hm2) ?_
  rintro e w4 ⟨c2', rfl, hc, hC, hB⟩
  have H4 : Hid (Pieces w w4 b g b2 g2 c c2' n most [] [] 0 0) := by
    obtain ⟨q1, q2, q3, q4, q5, q6⟩ := H3.out
    obtain ⟨q7, q8⟩ := H3a.out
    have l := q1.lt
    have l2 := q2.lt
    have l3 := q3.lt
    have s := q4.size
    exact ⟨q1.below hB, q2.below hB, q3.below hB, hC, q4.trans (hB.mono q4.size), by omega, by omega⟩
  clear hc hC hB H3 H3a
  go_wp2_with fail
  refine Calls.mono (push_any H4.out.r1 (by omega) _ zs _ (HZ.out.1.below H4.out.bel) (HO.out _ (by have := H4.out.new; simp; omega)).1 (by omega)) ?_
  rintro e w5 ⟨rfl, hR, hM⟩
  have H5 : Hid (Pieces w w5 b g b2 g2 c c2' n most (pushL n [] zs) [] 0 0) := H4.out.set1 hM hR
  clear hR hM H4
  go_wp2_with fail
  have l1 : (zs.take k).length = k := by rw [List.length_take]; omega
  have t1 := push_any H5.out.r2 (by omega) _ (zs.take k) cap (HZ.out.2.1.below H5.out.bel) (fun h => (HO.out _ (by have := H5.out.new; simp; omega)).1 (by omega)) (by omega)
  rw [l1] at t1
  refine Calls.mono t1 ?_
  rintro e w6 ⟨rfl, hR, hM⟩
  have H6 : Hid (Pieces w w6 b g b2 g2 c c2' n most (pushL n [] zs) (pushL n [] (zs.take k)) 0 0) := H5.out.set2 hM hR
  clear hR hM H5 l1 t1
  go_wp2_with fail
  refine Calls.mono (push_any H6.out.r2 (by omega) none [] 0 (fun i hi => by simp at hi) (fun h => by simp at h) (by simp)) ?_
  rintro e w7 ⟨rfl, hR, hM⟩
  rw [pushL_nil _ _ H6.out.r2.len] at hR
  have H7 : Hid (Pieces w w7 b g b2 g2 c c2' n most (pushL n [] zs) (pushL n [] (zs.take k)) 0 0) := H6.out.set2 hM hR
  clear hR hM H6
  go_wp2_with fail
  have l1 : (zs.drop k).length = zs.length - k := by rw [List.length_drop]
  have t1 := push_any H7.out.r2 (by omega) _ (zs.drop k) c2 (HZ.out.2.2.below H7.out.bel) (HO.out _ (by have := H7.out.new; simp; omega)).2 (by omega)
  rw [l1] at t1
  refine Calls.mono t1 ?_
  rintro e w8 ⟨rfl, hR, hM⟩
  rw [pushL_push, List.take_append_drop] at hR
  have H8 : Hid (Pieces w w8 b g b2 g2 c c2' n most (pushL n [] zs) (pushL n [] zs) 0 0) := H7.out.set2 hM hR
  clear hR hM H7 l1 t1
  obtain ⟨g9, cap9, w9, hr, hg9, hrow, hbel⟩ := app_zero w8 a (zs) cap HA.out.1 (HZ.out.1.below H8.out.bel) (by omega)
  have HA9 : Hid ((Builtin.append_ #[22, 22] 22 #[.slice (some ⟨w8.heap.size, 0, none⟩) 1 1, .slice a zs.length cap]).run Try.prog (w8.alloc (.cells #[.int .i64 0] 3)) = .ok (.slice (some ⟨g9, 0, none⟩) (zs.length + 1) cap9) w9) := hr
  have H9 : Hid (Pieces w w9 b g b2 g2 c c2' n most (pushL n [] zs) (pushL n [] zs) 0 0) := H8.out.stays hbel
  have R9 : Hid (IntRow w9 (some ⟨g9, 0, none⟩) (0 :: zs) ∧ g9 ≠ c) := ⟨hrow, by have := H8.out.k1.lt; omega⟩
  clear hr hg9 hrow hbel H8
  go_wp2_with (at_builtin; go_must (refine append_run (by rfl) _ _ (by rfl) (by rfl) _ _ _ _ (by rfl) (by rfl) HA9.out ?_))
  have t1 := up_app H9.out.k1 g9 cap9 (zs) R9.out.1 R9.out.2 (by omega)
  refine Calls.mono t1 ?_
  rintro e w10 ⟨rfl, hC, hM⟩
  have H10 : Hid (Pieces w w10 b g b2 g2 c c2' n most (pushL n [] zs) (pushL n [] zs) (upL most 0 zs) 0) := H9.out.set3 hM hC
  clear hC hM H9 R9 HA9 t1
  have l1 : (zs.take k).length = k := by rw [List.length_take]; omega
  obtain ⟨g9, cap9, w9, hr, hg9, hrow, hbel⟩ := app_zero w10 a (zs.take k) cap HA.out.1 (HZ.out.2.1.below H10.out.bel) (by rw [l1]; omega)
  rw [l1] at hr
  have HA9 : Hid ((Builtin.append_ #[22, 22] 22 #[.slice (some ⟨w10.heap.size, 0, none⟩) 1 1, .slice a k cap]).run Try.prog (w10.alloc (.cells #[.int .i64 0] 3)) = .ok (.slice (some ⟨g9, 0, none⟩) (k + 1) cap9) w9) := hr
  have H9 : Hid (Pieces w w9 b g b2 g2 c c2' n most (pushL n [] zs) (pushL n [] zs) (upL most 0 zs) 0) := H10.out.stays hbel
  have R9 : Hid (IntRow w9 (some ⟨g9, 0, none⟩) (0 :: zs.take k) ∧ g9 ≠ c2') := ⟨hrow, by have := H10.out.k2.lt; omega⟩
  clear hr hg9 hrow hbel H10
  go_wp2_with (at_builtin; go_must (refine append_run (by rfl) _ _ (by rfl) (by rfl) _ _ _ _ (by rfl) (by rfl) HA9.out ?_))
  have t1 := up_app H9.out.k2 g9 cap9 (zs.take k) R9.out.1 R9.out.2 (by rw [l1]; omega)
  rw [l1] at t1
  refine Calls.mono t1 ?_
  rintro e w11 ⟨rfl, hC, hM⟩
  have H11 : Hid (Pieces w w11 b g b2 g2 c c2' n most (pushL n [] zs) (pushL n [] zs) (upL most 0 zs) (upL most 0 (zs.take k))) := H9.out.set4 hM hC
  clear hC hM H9 R9 HA9 t1
  clear l1
  have l1 : (zs.drop k).length = zs.length - k := by rw [List.length_drop]
  obtain ⟨g9, cap9, w9, hr, hg9, hrow, hbel⟩ := app_zero w11 a2 (zs.drop k) c2 HA.out.2 (HZ.out.2.2.below H11.out.bel) (by rw [l1]; omega)
  rw [l1] at hr
  have HA9 : Hid ((Builtin.append_ #[22, 22] 22 #[.slice (some ⟨w11.heap.size, 0, none⟩) 1 1, .slice a2 (zs.length - k) c2]).run Try.prog (w11.alloc (.cells #[.int .i64 0] 3)) = .ok (.slice (some ⟨g9, 0, none⟩) ((zs.length - k) + 1) cap9) w9) := hr
  have H9 : Hid (Pieces w w9 b g b2 g2 c c2' n most (pushL n [] zs) (pushL n [] zs) (upL most 0 zs) (upL most 0 (zs.take k))) := H11.out.stays hbel
  have R9 : Hid (IntRow w9 (some ⟨g9, 0, none⟩) (0 :: zs.drop k) ∧ g9 ≠ c2') := ⟨hrow, by have := H11.out.k2.lt; omega⟩
  clear hr hg9 hrow hbel H11
  go_wp2_with (at_builtin; go_must (refine append_run (by rfl) _ _ (by rfl) (by rfl) _ _ _ _ (by rfl) (by rfl) HA9.out ?_))
  have t1 := up_app H9.out.k2 g9 cap9 (zs.drop k) R9.out.1 R9.out.2 (by rw [l1]; omega)
  rw [l1] at t1
  refine Calls.mono t1 ?_
  rintro e w12 ⟨rfl, hC, hM⟩
  have H12 : Hid (Pieces w w12 b g b2 g2 c c2' n most (pushL n [] zs) (pushL n [] zs) (upL most 0 zs) (upL most 0 zs)) := H9.out.set4 hM (by rw [← upL_append, List.take_append_drop] at hC; exact hC)
  clear hC hM H9 R9 HA9 t1
  clear l1
  generalize pushL n [] zs = xs at *
  generalize upL most 0 zs = u at *
  have hq : xs.length ≤ n := H12.out.r1.len
  have HL : Hid (∀ W b g, RingIs W b g n xs → Calls Try.prog 9 #[.pointer (some ⟨b, 0, none⟩)] W fun e w' => e = .returned (.int .i64 xs.length) ∧ w' = W) := fun W b g h => len_any h
  have HG : Hid (∀ W b g d, RingIs W b g n xs → d < xs.length → Calls Try.prog 10 #[.pointer (some ⟨b, 0, none⟩), .int .i64 (d : Nat)] W fun e w' => e = .returned (.tuple #[.int .i64 (atL xs d), .int .i64 0]) ∧ w' = W) := fun W b g d h hd => ago_in h (by omega) d hd
  generalize hql : xs.length = q at *
  clear hql
  go_wp2
  go_loop [17] (fun i => ∃ d : Nat, d ≤ q ∧ i = .int .i64 d) (fun i => q - (intOf i).toNat)
  case atStart => exact ⟨0, Nat.zero_le _, rfl⟩
  case round =>
    obtain ⟨d, hd, rfl⟩ := hrel
    by_cases hlt : d < q
    · go_wp2_with (first | (go_at_call 9; refine (HL.out _ _ _ H12.out.r1).mono ?_; rintro e w' ⟨rfl, hw⟩; have hw' := hw.symm; subst hw'; clear hw) | fail)
      refine Calls.mono (HG.out _ _ _ _ H12.out.r1 hlt) ?_
      rintro e w' ⟨rfl, hw⟩
      have hw' := hw.symm; subst hw'; clear hw
      go_wp2_with fail
      refine Calls.mono (HG.out _ _ _ _ H12.out.r2 hlt) ?_
      rintro e w' ⟨rfl, hw⟩
      have hw' := hw.symm; subst hw'; clear hw
      go_wp2
      go_round
      case rel => exact ⟨d + 1, by omega, by go_num⟩
      case measure => simp [intOf]; omega
    · go_wp2_with (go_at_call 9; refine (HL.out _ _ _ H12.out.r1).mono ?_; rintro e w' ⟨rfl, hw⟩; have hw' := hw.symm; subst hw'; clear hw)
      refine Calls.mono (alive_any _) ?_
      rintro e w13 ⟨rfl, hb⟩
      have H13 : Hid (Pieces w w13 b g b2 g2 c c2' n most xs xs u u) := H12.out.stays hb
      clear hb H12
      go_wp2_with fail
      refine Calls.mono (HL.out _ _ _ H13.out.r1) ?_
      rintro e w' ⟨rfl, hw⟩
      have hw' := hw.symm; subst hw'; clear hw
      go_wp2_with fail
      refine Calls.mono (HL.out _ _ _ H13.out.r2) ?_
      rintro e w' ⟨rfl, hw⟩
      have hw' := hw.symm; subst hw'; clear hw
      go_wp2_with fail
      refine Calls.mono (now_any H13.out.k1) ?_
      rintro e w' ⟨rfl, hw⟩
      have hw' := hw.symm; subst hw'; clear hw
      go_wp2_with fail
      refine Calls.mono (now_any H13.out.k2) ?_
      rintro e w' ⟨rfl, hw⟩
      have hw' := hw.symm; subst hw'; clear hw
      go_wp2
      go_ret
      exact ⟨rfl, H13.out.bel⟩
set_option maxHeartbeats 8000000 in
theorem pieces_none (n most : Int) (k : Int) (a : Option Addr) (len cap : Nat) (w : World) (h : n < 1 ∨ 300 < n ∨ most < 0 ∨ 200 < len ∨ k < 0 ∨ len < k) :
    Calls Try.prog 3 #[.int .i64 n, .int .i64 most, .slice a len cap, .int .i64 k] w fun e w' => e = .returned (.bool true) ∧ Below w.heap.size w w' := by
  by_cases h1 : n < 1
  · clear h
    go_enter Try.func3, Try.ntmps3
    go_wp2_with (go_at_call 4; refine (alive_any _).mono ?_; rintro e w' ⟨rfl, hb⟩)
    go_ret
    exact ⟨rfl, hb⟩
  by_cases h2 : 300 < n
  · clear h
    go_enter Try.func3, Try.ntmps3
    go_wp2_with (go_at_call 4; refine (alive_any _).mono ?_; rintro e w' ⟨rfl, hb⟩)
    go_ret
    exact ⟨rfl, hb⟩
  by_cases h3 : most < 0
  · clear h
    go_enter Try.func3, Try.ntmps3
    go_wp2_with (go_at_call 4; refine (alive_any _).mono ?_; rintro e w' ⟨rfl, hb⟩)
    go_ret
    exact ⟨rfl, hb⟩
  by_cases h4 : (200 : Int) < (len : Int)
  · clear h
    go_enter Try.func3, Try.ntmps3
    go_wp2_with (go_at_call 4; refine (alive_any _).mono ?_; rintro e w' ⟨rfl, hb⟩)
    go_ret
    exact ⟨rfl, hb⟩
  by_cases h5 : k < 0
  · clear h
    go_enter Try.func3, Try.ntmps3
    go_wp2_with (go_at_call 4; refine (alive_any _).mono ?_; rintro e w' ⟨rfl, hb⟩)
    go_ret
    exact ⟨rfl, hb⟩
  have h6 : (len : Int) < k := by omega
  clear h
  go_enter Try.func3, Try.ntmps3
  go_wp2_with (go_at_call 4; refine (alive_any _).mono ?_; rintro e w' ⟨rfl, hb⟩)
  go_ret
  exact ⟨rfl, hb⟩
theorem pieces_any (n most : Int) (a : Option Addr) (len cap : Nat) (zs : List Int) (k : Int) (w : World) (hn : -9223372036854775808 ≤ n ∧ n ≤ 9223372036854775807) (hm : -9223372036854775808 ≤ most ∧ most ≤ 9223372036854775807) (h : IsInts w a len cap zs) (hk : -9223372036854775808 ≤ k ∧ k ≤ 9223372036854775807) :
    Calls Try.prog 3 #[.int .i64 n, .int .i64 most, .slice a len cap, .int .i64 k] w fun e w' => e = .returned (.bool true) ∧ Below w.heap.size w w' := by
  by_cases hc : n < 1 ∨ 300 < n ∨ most < 0 ∨ 200 < len ∨ k < 0 ∨ len < k
  · exact pieces_none n most k a len cap w hc
  · obtain ⟨r1, r2, r3, r4⟩ := h.row
    have hcap : len ≤ cap ∧ (a = none → cap = 0) := by
      rcases h with ⟨_, rfl, rfl, _⟩ | ⟨_, rfl, hl, _⟩
      · exact ⟨Nat.le_refl _, fun _ => rfl⟩
      · exact ⟨hl, fun h => by cases h⟩
    have := pieces_some n.toNat k.toNat most a cap (zs.take len) w r1 hcap.2 (by omega) (by omega) (by omega) (by omega) (by omega) (by omega) (by omega)
    rw [r2, show ((n.toNat : Nat) : Int) = n by omega, show ((k.toNat : Nat) : Int) = k by omega] at this; exact this
end Go.Proofs.Ytgdijnmanhglnab
