/- RingCounts: the law's walk. Conditions: none but the numbers' own ranges. -/
import Derived.Test.YtgdijnmanhglnaaRgCountsD
import Derived.Deep.RegionHeld3
namespace Go.Proofs.Ytgdijnmanhglnaa
open Go.RowKit
set_option linter.unusedVariables false
set_option maxRecDepth 100000

/-- The counter and the document's own, at the same number. -/
structure Cnts (w W : World) (c r : Nat) (most y z : Int) : Prop where
  cnt : CountAt W c most y
  ref : RefC W r most z
  bel : Below w.heap.size w W
  new : w.heap.size ≤ c ∧ w.heap.size ≤ r
  ap : c ≠ r
theorem Cnts.first {w W W' : World} {c r : Nat} {most y z v : Int} (h : Cnts w W c r most y z) (k : Mod [c] W W') (hc : CountAt W' c most v) : Cnts w W' c r most v z :=
  ⟨hc, h.ref.mod k (by have := h.ap; simp; omega), k.below h.bel (by have := h.new; simp; omega), h.new, h.ap⟩
theorem Cnts.second {w W W' : World} {c r : Nat} {most y z v : Int} (h : Cnts w W c r most y z) (k : Mod [r] W W') (hr : RefC W' r most v) : Cnts w W' c r most y v :=
  ⟨h.cnt.mod k (by have := h.ap; simp; omega), hr, k.below h.bel (by have := h.new; simp; omega), h.new, h.ap⟩
theorem Cnts.stays {w W W' : World} {c r : Nat} {most y z : Int} (h : Cnts w W c r most y z) (k : Below W.heap.size W W') : Cnts w W' c r most y z :=
  ⟨h.cnt.below k, h.ref.below k, h.bel.trans (k.mono h.bel.size), h.new, h.ap⟩
theorem IsInts.off {w : World} {a : Option Addr} {len cap : Nat} {zs : List Int} (h : IsInts w a len cap zs) (h0 : 0 < (zs.take len).length) (S : List Nat) (hS : ∀ i ∈ S, w.heap.size ≤ i) : Off a S := h.row.1.off h0 S hS
set_option maxHeartbeats 4000000 in
theorem counts_none (most : Int) (a : Option Addr) (len cap : Nat) (w : World) (h : most < 0 ∨ 200 < len) :
    Calls Try.prog 4 #[.int .i64 most, .slice a len cap] w fun e w' => e = .returned (.bool true) ∧ Below w.heap.size w w' := by
  by_cases h1 : (200 : Int) < (len : Int)
  · clear h
    go_enter Try.func4, Try.ntmps4
    go_wp2_with (go_at_call 9; refine (alive_any _).mono ?_; rintro e w' ⟨rfl, hb⟩)
    go_ret
    exact ⟨rfl, hb⟩
  · have h2 : most < 0 := by omega
    clear h
    go_enter Try.func4, Try.ntmps4
    go_wp2_with fail
    refine Calls.mono (newcount_bad most w h2) ?_
    rintro e w' ⟨rfl, hw⟩
    have hw' := hw.symm; subst hw'; clear hw
    have h3 : decide (0 ≤ most) = false := by simp; omega
    go_wp2_with (go_at_call 9; refine (alive_any _).mono ?_; rintro e w' ⟨rfl, hb⟩)
    go_ret
    exact ⟨rfl, hb⟩
set_option maxHeartbeats 8000000 in
theorem counts_some (most : Int) (a : Option Addr) (cap : Nat) (os : List OpV) (w : World) (hz : OpRow w a os) (h0 : 0 ≤ most) (h1 : most ≤ 9223372036854775807) (h2 : os.length ≤ 200) :
    Calls Try.prog 4 #[.int .i64 most, .slice a os.length cap] w fun e w' => e = .returned (.bool true) ∧ Below w.heap.size w w' := by
  have HZ : Hid (OpRow w a os) := hz
  clear hz
  go_enter Try.func4, Try.ntmps4
  go_wp2_with fail
  refine Calls.mono (newcount_ok most w h0 (by omega)) ?_
  rintro e w1 ⟨c, rfl, hc, hC, hB⟩
  have H1 : Hid (CountAt w1 c most 0 ∧ Below w.heap.size w w1 ∧ w.heap.size ≤ c) := ⟨hC, hB, hc⟩
  clear hc hC hB
  go_wp2
  have H2 : Hid (Cnts w (w1.alloc (.cells #[.int .i64 0, .int .i64 most] 50)) c w1.heap.size most 0 0) := by
    obtain ⟨q1, q2, q3⟩ := H1.out
    have l := q1.lt
    have hal := (Below.refl w1.heap.size w1).alloc (Nat.le_refl _) (.cells #[.int .i64 0, .int .i64 most] 50)
    exact ⟨q1.below hal, ⟨by simp, by simp, fun i => World.frozen?_alloc_at _ _ _ _ rfl, by omega, h0, h1⟩, q2.trans (hal.mono q2.size), ⟨q3, q2.size⟩, by omega⟩
  go_loopw [8] (fun i wr => ∃ (k : Nat) (y : Int), k ≤ os.length ∧ i = .int .i64 k ∧ Cnts w wr c w1.heap.size most y y) (fun i _ => os.length - (intOf i).toNat)
  case atStart => exact ⟨0, 0, Nat.zero_le _, rfl, H2.out⟩
  case round =>
    obtain ⟨k, y, hk, rfl, hC⟩ := hrel
    have HC : Hid (Cnts w wr c w1.heap.size most y y) := hC
    clear hC H1 H2
    by_cases hlt : k < os.length
    · obtain ⟨b', off, rfl, p1, p2, p3, hints⟩ := HZ.out k hlt
      have HI : Hid (IsInts w (os.getD k default).a (os.getD k default).len (os.getD k default).cap (os.getD k default).zs) := hints
      clear hints p2
      generalize os.getD k default = o at *
      obtain ⟨kind, n, oa, ol, oc, oz⟩ := o
      simp only at p1 p3
      have HS : Hid (∀ X, Below w.heap.size w X → X.cell? ⟨b', off + k * 3 + 2, none⟩ = some (.slice oa ol oc)) := fun X hb => (Mod.of_below (S := []) hb).cell p3 (by simp)
      have q1 := (Mod.of_below (S := []) HC.out.bel).cell p1 (by simp)
      have q3 := HS.out _ HC.out.bel
      clear p1 p3
      by_cases hbig : (100 : Int) < (ol : Int)
      · have HB : Hid (Below w.heap.size w wr) := HC.out.bel
        go_wp2
        go_ret
        exact ⟨rfl, HB.out⟩
      · have HU : Hid (∀ X, CountAt X c most y → Below w.heap.size w X → Calls Try.prog 27 #[.pointer (some ⟨c, 0, none⟩), .slice oa ol oc] X fun e w' => e = .returned (.int .i64 (upL most y (upsOf (oz.take ol)))) ∧ CountAt w' c most (upL most y (upsOf (oz.take ol))) ∧ Mod [c] X w') := fun X hX hb => by
          obtain ⟨r1, r2, r3, r4⟩ := HI.out.row
          simp only at r1 r2
          have t := up_any hX oa (oz.take ol) oc (r1.below hb) (fun h => r1.off h _ (by have := HC.out.new; simp; omega)) (by omega)
          rw [r2] at t; exact t
        have HV : Hid (∀ X, RefC X w1.heap.size most y → Below w.heap.size w X → Calls Try.prog 28 #[.pointer (some ⟨w1.heap.size, 0, none⟩), .slice oa ol oc] X fun e w' => e = .returned (.int .i64 (upL most y (upsOf (oz.take ol)))) ∧ RefC w' w1.heap.size most (upL most y (upsOf (oz.take ol))) ∧ Mod [w1.heap.size] X w') := fun X hX hb => by
          obtain ⟨r1, r2, r3, r4⟩ := HI.out.row
          simp only at r1 r2
          have t := qup_any hX oa (oz.take ol) oc (r1.below hb) (fun h => r1.off h _ (by have := HC.out.new; simp; omega)) (by omega)
          rw [r2] at t; exact t
        generalize upL most y (upsOf (oz.take ol)) = v at *
        by_cases h3 : kind = 3
        · subst h3
          go_wp2_with fail
          refine Calls.mono (zero_any HC.out.cnt) ?_
          rintro e w2 ⟨rfl, hc2, hm2⟩
          have C2 : Hid (Cnts w w2 c w1.heap.size most 0 y) := HC.out.first hm2 hc2
          have e0 := C2.out.ref.c0
          have f0 := C2.out.ref.f 0
          clear hc2 hm2
          go_wp2
          have c3 := C2.out.second ((Mod.refl _ _).setCell _ 0 (.int .i64 0) (by simp)) (C2.out.ref.set 0 (by omega) (by have := C2.out.cnt.hi; omega))
          generalize w2.setCell ⟨w1.heap.size, 0, none⟩ (.int .i64 0) = X at *
          have C3 : Hid (Cnts w X c w1.heap.size most 0 0) := c3
          clear c3 C2 e0 f0
          have HN : Hid (∀ j, Calls Try.prog 29 #[.pointer (some ⟨c, 0, none⟩)] (X.drewN j) fun e w' => e = .returned (.int .i64 0) ∧ w' = X.drewN j) := fun j => now_any (C3.out.stays (below_drewN (Below.refl _ _) j)).cnt
          have e9 := C3.out.ref.c0
          have b9 := C3.out.cnt.hi
          go_quiet ((go_at_call 29; exact Calls.quiet_of_same (HN.out _)))
          go_wp2
          go_roundw
          case rel => exact ⟨k + 1, _, by omega, by go_num, C3.out.stays (below_drewN (Below.refl _ _) _)⟩
          case measure => simp [intOf]; omega
        · have h3' : (kind == 3) = false := by rw [beq_eq_false_iff_ne]; exact h3
          clear h3
          go_wp2
          have C0 := HC.out.stays (Below.refl _ _).drew
          refine wp_region_held_drew (S := fun W' : World => W'.cell? ⟨b', off + k * 3 + 2, none⟩ = some (.slice oa ol oc)) (by kernel_rfl) (HS.out _ C0.bel) (fun hHeld => ?_)
          refine wpAnyH_take (i := 0) (oi := { dst := some 74, op := Op.move (Operand.tmp 5), type := 45, pos := "law.go:119", after := #[], guard := none }) (v := ?_) rfl (by kernel_rfl) (by kernel_rfl) (by kernel_rfl) (fun _ _ _ h => h) (Or.inl ⟨by rfl, ?_⟩) hHeld ?_
          rotate_left
          · (intro w hSw; (try dsimp only at hSw); go_simp; all_goals (try with_reducible rfl))
          try simp only [Act.put, List.setIfInBounds_toArray, List.set_cons_zero, List.set_cons_succ]
          refine wpAnyH_take (i := 1) (oi := { dst := some 75, op := Op.move (Operand.tmp 1), type := 22, pos := "law.go:119", after := #[], guard := none }) (v := ?_) rfl (by kernel_rfl) (by kernel_rfl) (by kernel_rfl) (fun _ _ _ h => h) (Or.inl ⟨by rfl, ?_⟩) hHeld ?_
          rotate_left
          · (intro w hSw; (try dsimp only at hSw); go_simp; all_goals (try with_reducible rfl))
          try simp only [Act.put, List.setIfInBounds_toArray, List.set_cons_zero, List.set_cons_succ]
          refine wpAnyH_take (i := 2) (oi := { dst := some 76, op := Op.move (Operand.tmp 8), type := 3, pos := "law.go:119", after := #[], guard := none }) (v := ?_) rfl (by kernel_rfl) (by kernel_rfl) (by kernel_rfl) (fun _ _ _ h => h) (Or.inl ⟨by rfl, ?_⟩) hHeld ?_
          rotate_left
          · (intro w hSw; (try dsimp only at hSw); go_simp; all_goals (try with_reducible rfl))
          try simp only [Act.put, List.setIfInBounds_toArray, List.set_cons_zero, List.set_cons_succ]
          refine wpAnyH_take (i := 3) (oi := { dst := some 77, op := Op.indexAddr 22 (Operand.tmp 75) (Operand.tmp 76), type := 0, pos := "law.go:119", after := #[{ on := 1, ground := Ground.data }, { on := 2, ground := Ground.data }], guard := none }) (v := ?_) rfl (by kernel_rfl) (by kernel_rfl) (by kernel_rfl) (fun _ _ _ h => h) (Or.inl ⟨by rfl, ?_⟩) hHeld ?_
          rotate_left
          · (intro w hSw; (try dsimp only at hSw); go_simp; all_goals (try with_reducible rfl))
          try simp only [Act.put, List.setIfInBounds_toArray, List.set_cons_zero, List.set_cons_succ]
          refine wpAnyH_take (i := 4) (oi := { dst := some 78, op := Op.fieldAddr 36 (Operand.tmp 77) 2, type := 0, pos := "law.go:119", after := #[{ on := 3, ground := Ground.data }], guard := none }) (v := ?_) rfl (by kernel_rfl) (by kernel_rfl) (by kernel_rfl) (fun _ _ _ h => h) (Or.inl ⟨by rfl, ?_⟩) hHeld ?_
          rotate_left
          · (intro w hSw; (try dsimp only at hSw); go_simp; all_goals (try with_reducible rfl))
          try simp only [Act.put, List.setIfInBounds_toArray, List.set_cons_zero, List.set_cons_succ]
          refine wpAnyH_take (i := 5) (oi := { dst := some 79, op := Op.load 32 (Operand.tmp 78), type := 32, pos := "law.go:119", after := #[{ on := 4, ground := Ground.data }], guard := none }) (v := ?_) rfl (by kernel_rfl) (by kernel_rfl) (by kernel_rfl) (fun _ _ _ h => h) (Or.inl ⟨by rfl, ?_⟩) hHeld ?_
          rotate_left
          · (intro w hSw; (try dsimp only at hSw); go_simp; all_goals (try with_reducible rfl))
          try simp only [Act.put, List.setIfInBounds_toArray, List.set_cons_zero, List.set_cons_succ]
          refine wpAnyH_take (i := 7) (oi := { dst := some 81, op := Op.move (Operand.tmp 7), type := 48, pos := "law.go:119", after := #[], guard := none }) (v := ?_) rfl (by kernel_rfl) (by kernel_rfl) (by kernel_rfl) (fun _ _ _ h => h) (Or.inl ⟨by rfl, ?_⟩) hHeld ?_
          rotate_left
          · (intro w hSw; (try dsimp only at hSw); go_simp; all_goals (try with_reducible rfl))
          try simp only [Act.put, List.setIfInBounds_toArray, List.set_cons_zero, List.set_cons_succ]
          refine wpAnyH_take (i := 8) (oi := { dst := some 82, op := Op.move (Operand.tmp 1), type := 22, pos := "law.go:119", after := #[], guard := none }) (v := ?_) rfl (by kernel_rfl) (by kernel_rfl) (by kernel_rfl) (fun _ _ _ h => h) (Or.inl ⟨by rfl, ?_⟩) hHeld ?_
          rotate_left
          · (intro w hSw; (try dsimp only at hSw); go_simp; all_goals (try with_reducible rfl))
          try simp only [Act.put, List.setIfInBounds_toArray, List.set_cons_zero, List.set_cons_succ]
          refine wpAnyH_take (i := 9) (oi := { dst := some 83, op := Op.move (Operand.tmp 8), type := 3, pos := "law.go:119", after := #[], guard := none }) (v := ?_) rfl (by kernel_rfl) (by kernel_rfl) (by kernel_rfl) (fun _ _ _ h => h) (Or.inl ⟨by rfl, ?_⟩) hHeld ?_
          rotate_left
          · (intro w hSw; (try dsimp only at hSw); go_simp; all_goals (try with_reducible rfl))
          try simp only [Act.put, List.setIfInBounds_toArray, List.set_cons_zero, List.set_cons_succ]
          refine wpAnyH_take (i := 10) (oi := { dst := some 84, op := Op.indexAddr 22 (Operand.tmp 82) (Operand.tmp 83), type := 0, pos := "law.go:119", after := #[{ on := 8, ground := Ground.data }, { on := 9, ground := Ground.data }], guard := none }) (v := ?_) rfl (by kernel_rfl) (by kernel_rfl) (by kernel_rfl) (fun _ _ _ h => h) (Or.inl ⟨by rfl, ?_⟩) hHeld ?_
          rotate_left
          · (intro w hSw; (try dsimp only at hSw); go_simp; all_goals (try with_reducible rfl))
          try simp only [Act.put, List.setIfInBounds_toArray, List.set_cons_zero, List.set_cons_succ]
          refine wpAnyH_take (i := 11) (oi := { dst := some 85, op := Op.fieldAddr 36 (Operand.tmp 84) 2, type := 0, pos := "law.go:119", after := #[{ on := 10, ground := Ground.data }], guard := none }) (v := ?_) rfl (by kernel_rfl) (by kernel_rfl) (by kernel_rfl) (fun _ _ _ h => h) (Or.inl ⟨by rfl, ?_⟩) hHeld ?_
          rotate_left
          · (intro w hSw; (try dsimp only at hSw); go_simp; all_goals (try with_reducible rfl))
          try simp only [Act.put, List.setIfInBounds_toArray, List.set_cons_zero, List.set_cons_succ]
          refine wpAnyH_take (i := 12) (oi := { dst := some 86, op := Op.load 32 (Operand.tmp 85), type := 32, pos := "law.go:119", after := #[{ on := 11, ground := Ground.data }], guard := none }) (v := ?_) rfl (by kernel_rfl) (by kernel_rfl) (by kernel_rfl) (fun _ _ _ h => h) (Or.inl ⟨by rfl, ?_⟩) hHeld ?_
          rotate_left
          · (intro w hSw; (try dsimp only at hSw); go_simp; all_goals (try with_reducible rfl))
          try simp only [Act.put, List.setIfInBounds_toArray, List.set_cons_zero, List.set_cons_succ]
          refine wpAnyH_ready (rs := [6]) (by kernel_rfl) (by simp) ?_
          refine AllReadyH.cons (o := { dst := some 80, op := Op.call { callee := Callee.value (Operand.func 27), args := #[Operand.tmp 74, Operand.tmp 79], argTypes := #[45, 32] }, type := 3, pos := "law.go:119", after := #[{ on := 0, ground := Ground.data }, { on := 5, ground := Ground.data }], guard := none }) rfl (fun K hK => ?_) AllReadyH.nil
          go_simp
          refine Calls.mono (HU.out _ C0.cnt C0.bel) ?_
          rintro e X1 ⟨rfl, hc1, hm1⟩
          have C1 := C0.first hm1 hc1
          clear hc1 hm1
          go_wp2_with fail
          refine hK.out _ _ (HS.out _ C1.bel) (fun hHeld => ?_)
          clear hK K
          try simp only [Act.put, List.setIfInBounds_toArray, List.set_cons_zero, List.set_cons_succ]
          refine wpAnyH_ready (rs := [13]) (by kernel_rfl) (by simp) ?_
          refine AllReadyH.cons (o := { dst := some 87, op := Op.call { callee := Callee.value (Operand.func 28), args := #[Operand.tmp 81, Operand.tmp 86], argTypes := #[48, 32] }, type := 3, pos := "law.go:119", after := #[{ on := 7, ground := Ground.data }, { on := 12, ground := Ground.data }, { on := 6, ground := Ground.chain }], guard := none }) rfl (fun K hK => ?_) AllReadyH.nil
          go_simp
          refine Calls.mono (HV.out _ C1.ref C1.bel) ?_
          rintro e X2 ⟨rfl, hc2, hm2⟩
          have C2 := C1.second hm2 hc2
          clear hc2 hm2
          go_wp2_with fail
          refine hK.out _ _ (HS.out _ C2.bel) (fun hHeld => ?_)
          clear hK K
          try simp only [Act.put, List.setIfInBounds_toArray, List.set_cons_zero, List.set_cons_succ]
          refine wpAnyH_take (i := 14) (oi := { dst := some 88, op := Op.binOp BinOp.neq 3 (Operand.tmp 80) (Operand.tmp 87) 3, type := 4, pos := "law.go:119", after := #[{ on := 6, ground := Ground.data }, { on := 13, ground := Ground.data }], guard := none }) (v := ?_) rfl (by kernel_rfl) (by kernel_rfl) (by kernel_rfl) (fun _ _ _ h => h) (Or.inl ⟨by rfl, ?_⟩) hHeld ?_
          rotate_left
          · (intro w hSw; (try dsimp only at hSw); go_simp; all_goals (try with_reducible rfl))
          try simp only [Act.put, List.setIfInBounds_toArray, List.set_cons_zero, List.set_cons_succ]
          refine wpAnyH_done (by kernel_rfl) ?_ _
          go_wp2
          have C9 : Hid (Cnts w X2 c w1.heap.size most v v) := C2
          clear C2 C1 C0
          have HN : Hid (∀ j, Calls Try.prog 29 #[.pointer (some ⟨c, 0, none⟩)] (X2.drewN j) fun e w' => e = .returned (.int .i64 v) ∧ w' = X2.drewN j) := fun j => now_any (C9.out.stays (below_drewN (Below.refl _ _) j)).cnt
          have e9 := C9.out.ref.c0
          have b9 := C9.out.cnt.hi
          go_quiet ((go_at_call 29; exact Calls.quiet_of_same (HN.out _)))
          go_wp2
          go_roundw
          case rel => exact ⟨k + 1, _, by omega, by go_num, C9.out.stays (below_drewN (Below.refl _ _) _)⟩
          case measure => simp [intOf]; omega
    · have HB : Hid (Below w.heap.size w wr) := HC.out.bel
      go_wp2_with (go_at_call 9; refine (alive_any _).mono ?_; rintro e w' ⟨rfl, hb⟩)
      go_ret
      exact ⟨rfl, HB.out.trans (hb.mono HB.out.size)⟩
theorem counts_any (most : Int) (a : Option Addr) (len cap : Nat) (os : List OpV) (w : World) (hm : -9223372036854775808 ≤ most ∧ most ≤ 9223372036854775807) (hl : os.length = len) (h : OpRow w a os) :
    Calls Try.prog 4 #[.int .i64 most, .slice a len cap] w fun e w' => e = .returned (.bool true) ∧ Below w.heap.size w w' := by
  by_cases hc : most < 0 ∨ 200 < len
  · exact counts_none most a len cap w hc
  · subst hl
    exact counts_some most a cap os w h (by omega) (by omega) (by omega)
end Go.Proofs.Ytgdijnmanhglnaa
