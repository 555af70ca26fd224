/- Nil and zero rings, tops, counters: their contracts. Conditions: none. -/
import Derived.Test.YtgdijnmanhglnaaRingI
namespace Go.Proofs.Ytgdijnmanhglnaa
open Go.RowKit
set_option linter.unusedVariables false
set_option maxRecDepth 100000

/-- A zero ring at b, a zero top at u, a zero counter at d. -/
structure Zeros (w W : World) (b u d : Nat) : Prop where
  b0 : W.cell? ⟨b, 0, none⟩ = some (.slice none 0 0)
  b2 : W.cell? ⟨b, 2, none⟩ = some (.int .i64 0)
  u0 : W.cell? ⟨u, 0, none⟩ = some (.pointer none)
  u1 : W.cell? ⟨u, 1, none⟩ = some (.int .i64 0)
  u2 : W.cell? ⟨u, 2, none⟩ = some (.int .i64 0)
  fu : ∀ i, W.frozen? ⟨u, i, none⟩ = false
  cnt : CountAt W d 0 0
  bel : Below w.heap.size w W
  new : w.heap.size ≤ b ∧ w.heap.size ≤ u ∧ w.heap.size ≤ d
  ap : b ≠ u ∧ b ≠ d ∧ u ≠ d
section
variable {w W W' : World} {b u d : Nat}
theorem Zeros.lt (h : Zeros w W b u d) : b < W.heap.size ∧ u < W.heap.size ∧ d < W.heap.size := ⟨World.block_lt_of_cell? W _ h.b0, World.block_lt_of_cell? W _ h.u0, h.cnt.lt⟩
theorem Zeros.stays (h : Zeros w W b u d) (k : Below W.heap.size W W') : Zeros w W' b u d := by
  have m : Mod [] W W' := Mod.of_below k
  exact ⟨m.cell h.b0 (by simp), m.cell h.b2 (by simp), m.cell h.u0 (by simp), m.cell h.u1 (by simp), m.cell h.u2 (by simp), fun i => (m.frozen h.lt.2.1 (by simp)).trans (h.fu i), h.cnt.below k, h.bel.trans (k.mono h.bel.size), h.new, h.ap⟩
theorem Zeros.up (h : Zeros w W b u d) (m : Mod [d] W W') (k : CountAt W' d 0 0) : Zeros w W' b u d := by
  have a := h.ap
  exact ⟨m.cell h.b0 (by simp; omega), m.cell h.b2 (by simp; omega), m.cell h.u0 (by simp; omega), m.cell h.u1 (by simp; omega), m.cell h.u2 (by simp; omega), fun i => (m.frozen h.lt.2.1 (by simp; omega)).trans (h.fu i), k, m.below h.bel (by have := h.new; simp; omega), h.new, h.ap⟩
theorem Zeros.top (h : Zeros w W b u d) : Zeros w ((W.setCell ⟨u, 1, none⟩ (.int .i64 0)).setCell ⟨u, 2, none⟩ (.int .i64 0)) b u d := by
  have a := h.ap
  have fu := h.fu
  have m : Mod [u] W ((W.setCell ⟨u, 1, none⟩ (.int .i64 0)).setCell ⟨u, 2, none⟩ (.int .i64 0)) := ((Mod.refl _ _).setCell _ _ _ (by simp)).setCell _ _ _ (by simp)
  refine ⟨m.cell h.b0 (by simp; omega), m.cell h.b2 (by simp; omega), ?_, ?_, ?_, fun i => by simp [fu], h.cnt.mod m (by simp; omega), m.below h.bel (by have := h.new; simp; omega), h.new, h.ap⟩
  · rw [cell_oo _ _ _ _ _ _ (by omega), cell_oo _ _ _ _ _ _ (by omega)]; exact h.u0
  · rw [cell_oo _ _ _ _ _ _ (by omega)]; exact World.cell?_setCell_same _ _ _ h.u1
  · have e : (W.setCell ⟨u, 1, none⟩ (.int .i64 0)).cell? ⟨u, 2, none⟩ = some (.int .i64 0) := by rw [cell_oo _ _ _ _ _ _ (by omega)]; exact h.u2
    exact World.cell?_setCell_same _ _ _ e
end
theorem push_nil (W : World) (a : Option Addr) (n cap : Nat) : Calls Try.prog 12 #[.pointer none, .slice a n cap] W fun e w' => e = .returned (.tuple #[]) ∧ w' = W := by
  go_enter Try.func12, Try.ntmps12
  go_wp2_with (go_at_call 24; refine (size_nil _).mono ?_; rintro e w' ⟨rfl, hw⟩; have hw' := hw.symm; subst hw'; clear hw)
  first | go_end0 | refine bodyPost_ret (results_none rfl _ _ _) rfl ?_
  exact ⟨rfl, rfl⟩
theorem size_zero {W : World} {b : Nat} (h : W.cell? ⟨b, 0, none⟩ = some (.slice none 0 0)) : Calls Try.prog 24 #[.pointer (some ⟨b, 0, none⟩)] W fun e w' => e = .returned (.int .i64 0) ∧ w' = W := by
  go_enter Try.func24, Try.ntmps24
  go_wp2
  go_ret
  exact ⟨rfl, rfl⟩
theorem len_zero {W : World} {b : Nat} (h : W.cell? ⟨b, 2, none⟩ = some (.int .i64 0)) : Calls Try.prog 23 #[.pointer (some ⟨b, 0, none⟩)] W fun e w' => e = .returned (.int .i64 0) ∧ w' = W := by
  go_enter Try.func23, Try.ntmps23
  go_wp2
  go_ret
  exact ⟨rfl, rfl⟩
theorem push_zero {W : World} {b : Nat} (h : W.cell? ⟨b, 0, none⟩ = some (.slice none 0 0)) (a : Option Addr) (n cap : Nat) : Calls Try.prog 12 #[.pointer (some ⟨b, 0, none⟩), .slice a n cap] W fun e w' => e = .returned (.tuple #[]) ∧ w' = W := by
  go_enter Try.func12, Try.ntmps12
  go_wp2_with (go_at_call 24; refine (size_zero h).mono ?_; rintro e w' ⟨rfl, hw⟩; have hw' := hw.symm; subst hw'; clear hw)
  first | go_end0 | refine bodyPost_ret (results_none rfl _ _ _) rfl ?_
  exact ⟨rfl, rfl⟩
theorem ago_zero {W : World} {b : Nat} (h : W.cell? ⟨b, 2, none⟩ = some (.int .i64 0)) (i : Int) : Calls Try.prog 15 #[.pointer (some ⟨b, 0, none⟩), .int .i64 i] W fun e w' => e = .returned (.tuple #[.int .i64 0, .int .i64 3]) ∧ w' = W := by
  by_cases h0 : i < 0
  · go_enter Try.func15, Try.ntmps15
    go_wp2_with (go_at_call 23; refine (len_zero h).mono ?_; rintro e w' ⟨rfl, hw⟩; have hw' := hw.symm; subst hw'; clear hw)
    go_ret2
    exact ⟨rfl, rfl⟩
  · have h1 : 0 ≤ i := by omega
    clear h0
    go_enter Try.func15, Try.ntmps15
    go_wp2_with (go_at_call 23; refine (len_zero h).mono ?_; rintro e w' ⟨rfl, hw⟩; have hw' := hw.symm; subst hw'; clear hw)
    go_ret2
    exact ⟨rfl, rfl⟩
theorem tpush_nil (W : World) (a : Option Addr) (n cap : Nat) : Calls Try.prog 13 #[.pointer none, .slice a n cap] W fun e w' => e = .returned (.tuple #[]) ∧ w' = W := by
  go_enter Try.func13, Try.ntmps13
  go_wp2
  first | go_end0 | refine bodyPost_ret (results_none rfl _ _ _) rfl ?_
  exact ⟨rfl, rfl⟩
theorem tclear_nil (W : World) : Calls Try.prog 18 #[.pointer none] W fun e w' => e = .returned (.tuple #[]) ∧ w' = W := by
  go_enter Try.func18, Try.ntmps18
  go_wp2
  first | go_end0 | refine bodyPost_ret (results_none rfl _ _ _) rfl ?_
  exact ⟨rfl, rfl⟩
theorem tmax_nil (W : World) : Calls Try.prog 19 #[.pointer none] W fun e w' => e = .returned (.tuple #[.int .i64 0, .int .i64 3]) ∧ w' = W := by
  go_enter Try.func19, Try.ntmps19
  go_wp2
  go_ret2
  exact ⟨rfl, rfl⟩
theorem value_zero {W : World} {u : Nat} (h : W.cell? ⟨u, 0, none⟩ = some (.pointer none)) (i : Int) : Calls Try.prog 35 #[.pointer (some ⟨u, 0, none⟩), .int .i64 i] W fun e w' => e = .returned (.int .i64 0) ∧ w' = W := by
  go_enter Try.func35, Try.ntmps35
  go_wp2_with (go_at_call 15; refine (ago_nil _ _).mono ?_; rintro e w' ⟨rfl, hw⟩; have hw' := hw.symm; subst hw'; clear hw)
  go_ret
  exact ⟨rfl, rfl⟩
set_option maxHeartbeats 2000000 in
theorem bestz_above {W : World} {u : Nat} (h : W.cell? ⟨u, 0, none⟩ = some (.pointer none)) : Calls Try.prog 30 #[.pointer (some ⟨u, 0, none⟩), .int .i64 0, .int .i64 1, .func (.func 31) #[] #[]] W fun e w' => e = .returned (.int .i64 0) ∧ w' = W := by
  go_enter Try.func30, Try.ntmps30
  go_wp2_with (first | (go_at_call 23; refine (len_nil _).mono ?_; rintro e w' ⟨rfl, hw⟩; have hw' := hw.symm; subst hw'; clear hw) | (go_at_call 35; refine (value_zero h _).mono ?_; rintro e w' ⟨rfl, hw⟩; have hw' := hw.symm; subst hw'; clear hw))
  go_loop [9, 10, 31] (fun a x i => a = .int .i64 0 ∧ x = .int .i64 0 ∧ i = .int .i64 0) (fun _ _ _ => 0)
  case atStart => exact ⟨rfl, rfl, rfl⟩
  case round =>
    obtain ⟨rfl, rfl, rfl⟩ := hrel
    go_wp2_with (go_at_call 35; refine (value_zero h _).mono ?_; rintro e w' ⟨rfl, hw⟩; have hw' := hw.symm; subst hw'; clear hw)
    refine Calls.mono (above_any _ _ _) ?_
    rintro e w' ⟨rfl, hw⟩
    have hw' := hw.symm; subst hw'; clear hw
    rw [betB_self]
    go_wp2
    go_ret
    exact ⟨rfl, rfl⟩
set_option maxHeartbeats 2000000 in
theorem bestz_below {W : World} {u : Nat} (h : W.cell? ⟨u, 0, none⟩ = some (.pointer none)) : Calls Try.prog 30 #[.pointer (some ⟨u, 0, none⟩), .int .i64 0, .int .i64 1, .func (.func 32) #[] #[]] W fun e w' => e = .returned (.int .i64 0) ∧ w' = W := by
  go_enter Try.func30, Try.ntmps30
  go_wp2_with (first | (go_at_call 23; refine (len_nil _).mono ?_; rintro e w' ⟨rfl, hw⟩; have hw' := hw.symm; subst hw'; clear hw) | (go_at_call 35; refine (value_zero h _).mono ?_; rintro e w' ⟨rfl, hw⟩; have hw' := hw.symm; subst hw'; clear hw))
  go_loop [9, 10, 31] (fun a x i => a = .int .i64 0 ∧ x = .int .i64 0 ∧ i = .int .i64 0) (fun _ _ _ => 0)
  case atStart => exact ⟨rfl, rfl, rfl⟩
  case round =>
    obtain ⟨rfl, rfl, rfl⟩ := hrel
    go_wp2_with (go_at_call 35; refine (value_zero h _).mono ?_; rintro e w' ⟨rfl, hw⟩; have hw' := hw.symm; subst hw'; clear hw)
    refine Calls.mono (below_any _ _ _) ?_
    rintro e w' ⟨rfl, hw⟩
    have hw' := hw.symm; subst hw'; clear hw
    rw [betB_self]
    go_wp2
    go_ret
    exact ⟨rfl, rfl⟩
set_option maxHeartbeats 2000000 in
theorem tpush_zero {w W : World} {b u d : Nat} (h : Zeros w W b u d) (a : Option Addr) (cap : Nat) : Calls Try.prog 13 #[.pointer (some ⟨u, 0, none⟩), .slice a 1 cap] W fun e w' => e = .returned (.tuple #[]) ∧ Zeros w w' b u d := by
  have H : Hid (Zeros w W b u d) := h
  have u0 := h.u0
  have u1 := h.u1
  have u2 := h.u2
  have f1 := h.fu 1
  have f2 := h.fu 2
  clear h
  go_enter Try.func13, Try.ntmps13
  go_wp2_with (first | (go_at_call 12; refine (push_nil _ _ _ _).mono ?_; rintro e w' ⟨rfl, hw⟩; have hw' := hw.symm; subst hw'; clear hw) | fail)
  refine Calls.mono (bestz_above u0) ?_
  rintro e w' ⟨rfl, hw⟩
  have hw' := hw.symm; subst hw'; clear hw
  go_wp2_with fail
  refine Calls.mono (bestz_below (by rw [cell_oo _ _ _ _ _ _ (by omega)]; exact u0)) ?_
  rintro e w' ⟨rfl, hw⟩
  have hw' := hw.symm; subst hw'; clear hw
  go_wp2
  first | go_end0 | refine bodyPost_ret (results_none rfl _ _ _) rfl ?_
  exact ⟨rfl, H.out.top⟩
set_option maxHeartbeats 2000000 in
theorem tclear_zero {w W : World} {b u d : Nat} (h : Zeros w W b u d) : Calls Try.prog 18 #[.pointer (some ⟨u, 0, none⟩)] W fun e w' => e = .returned (.tuple #[]) ∧ Zeros w w' b u d := by
  have H : Hid (Zeros w W b u d) := h
  have u0 := h.u0
  have u1 := h.u1
  have u2 := h.u2
  have f1 := h.fu 1
  have f2 := h.fu 2
  clear h
  go_enter Try.func18, Try.ntmps18
  go_wp2_with (go_at_call 17; refine (clear_nil _).mono ?_; rintro e w' ⟨rfl, hw⟩; have hw' := hw.symm; subst hw'; clear hw)
  first | go_end0 | refine bodyPost_ret (results_none rfl _ _ _) rfl ?_
  exact ⟨rfl, H.out.top⟩
theorem tmin_zero {w W : World} {b u d : Nat} (h : Zeros w W b u d) : Calls Try.prog 20 #[.pointer (some ⟨u, 0, none⟩)] W fun e w' => e = .returned (.tuple #[.int .i64 0, .int .i64 3]) ∧ Zeros w w' b u d := by
  have H : Hid (Zeros w W b u d) := h
  have u0 := h.u0
  have u2 := h.u2
  clear h
  go_enter Try.func20, Try.ntmps20
  go_wp2_with fail
  go_quiet ((go_at_call 15; exact Calls.quiet_of_same (ago_nil _ _)))
  go_wp2
  go_ret2
  exact ⟨rfl, H.out.stays (below_drewN (Below.refl _ _) _)⟩
theorem up_zero {w W : World} {b u d : Nat} (h : Zeros w W b u d) (g : Nat) (hr : IntRow W (some ⟨g, 0, none⟩) [3]) (hg : g ≠ d) :
    Calls Try.prog 27 #[.pointer (some ⟨d, 0, none⟩), .slice (some ⟨g, 0, none⟩) 1 1] W fun e w' => e = .returned (.int .i64 0) ∧ Zeros w w' b u d := by
  have t := up_any h.cnt (some ⟨g, 0, none⟩) [3] 1 hr (fun _ => off_new _ _ (by simpa using hg)) (by simp)
  rw [show upL 0 0 (upsOf [3]) = 0 by decide] at t
  exact Calls.mono t fun e w' ⟨h1, h2, h3⟩ => ⟨h1, h.up h3 h2⟩
end Go.Proofs.Ytgdijnmanhglnaa
