/- The document's own numbers by what they say: Neg, Of. Conditions: the numbers' own ranges. -/
import Derived.Test.YtgpophdlmibmgaaBig6
namespace Go.Proofs.Ytgpophdlmibmgaa
open Go.RowKit
set_option linter.unusedVariables false
set_option maxRecDepth 100000


/-- The digits of a number below 2^64. -/
def dOf (u : Int) (j : Nat) : Int := if j = 0 then u % 4294967296 else if j = 1 then u / 4294967296 else 0
theorem dOf_dig (u : Int) (h0 : 0 ≤ u) (h1 : u < 18446744073709551616) : Dig (dOf u) := fun i _ => by unfold dOf; split; omega; split <;> omega
theorem dOf_val (u : Int) (h0 : 0 ≤ u) : valD (dOf u) 6 = u := by
  simp only [valD, dOf]
  simp
  omega
set_option maxHeartbeats 1000000 in
theorem of_pos (v : Int) (w : World) (h0 : 0 ≤ v) (h1 : v ≤ 9223372036854775807) :
    Calls Try.prog 22 #[.int .i64 v] w fun e w' => e = .returned (.agg #[.bool false, .int .i64 (v % 4294967296), .int .i64 (v / 4294967296), .int .i64 0, .int .i64 0, .int .i64 0, .int .i64 0]) ∧ Below w.heap.size w w' := by
  go_enter Try.func22, Try.ntmps22
  go_wp2
  exact bodyPost_ret (v := .agg #[.bool false, .int .i64 (v % 4294967296), .int .i64 (v / 4294967296), .int .i64 0, .int .i64 0, .int .i64 0, .int .i64 0]) (by simp [results, Try.results22, go_sem]) rfl ⟨rfl, (((Below.refl _ w).alloc (Nat.le_refl _) _).alloc (by simp) _)⟩
set_option maxHeartbeats 1000000 in
theorem of_neg (v u : Int) (w : World) (h0 : v < 0) (h1 : -9223372036854775808 ≤ v) (hu : -(v + 1) = u) :
    Calls Try.prog 22 #[.int .i64 v] w fun e w' => e = .returned (.agg #[.bool true, .int .i64 (dgP (dOf u) oneD 0), .int .i64 (dgP (dOf u) oneD 1), .int .i64 (dgP (dOf u) oneD 2), .int .i64 (dgP (dOf u) oneD 3), .int .i64 (dgP (dOf u) oneD 4), .int .i64 (dgP (dOf u) oneD 5)]) ∧ Below w.heap.size w w' := by
  have u0 : 0 ≤ u := by omega
  have u1 : u ≤ 9223372036854775807 := by omega
  have HO : Hid (∀ w, Calls Try.prog 44 #[.agg #[.bool true, .int .i64 (u % 4294967296), .int .i64 (u / 4294967296), .int .i64 0, .int .i64 0, .int .i64 0, .int .i64 0]] w fun e w' => e = .returned (.agg #[.bool true, .int .i64 (dgP (dOf u) oneD 0), .int .i64 (dgP (dOf u) oneD 1), .int .i64 (dgP (dOf u) oneD 2), .int .i64 (dgP (dOf u) oneD 3), .int .i64 (dgP (dOf u) oneD 4), .int .i64 (dgP (dOf u) oneD 5)]) ∧ Below w.heap.size w w') := fun w => addOne_any true (dOf u) w (dOf_dig u u0 (by omega))
  have b1 : -9223372036854775808 ≤ v + 1 := by omega
  have b2 : v + 1 ≤ 9223372036854775807 := by omega
  have R0 : BigAt ((w.alloc (.cells #[.bool false, .int .i64 0, .int .i64 0, .int .i64 0, .int .i64 0, .int .i64 0, .int .i64 0] 71)).alloc (.cells #[.bool true, .int .i64 (u % 4294967296), .int .i64 (u / 4294967296), .int .i64 0, .int .i64 0, .int .i64 0, .int .i64 0] 71)) w.heap.size false (fun _ => 0) := bigAt_of (by simp [go_sem]) (by simp [go_sem]) (by simp [go_sem]) (by simp [go_sem]) (by simp [go_sem]) (by simp [go_sem]) (by simp [go_sem]) (fun j => by simp [go_sem])
  have HR : Hid (BigAt ((w.alloc (.cells #[.bool false, .int .i64 0, .int .i64 0, .int .i64 0, .int .i64 0, .int .i64 0, .int .i64 0] 71)).alloc (.cells #[.bool true, .int .i64 (u % 4294967296), .int .i64 (u / 4294967296), .int .i64 0, .int .i64 0, .int .i64 0, .int .i64 0] 71)) w.heap.size false (fun _ => 0)) := R0
  clear R0
  go_enter Try.func22, Try.ntmps22
  go_wp2_with fail
  refine Calls.mono (HO.out _) ?_
  rintro e w1 ⟨rfl, hb⟩
  have hR := HR.out.below hb
  have HB : Hid (Below w.heap.size w w1) := (((Below.refl _ w).alloc (Nat.le_refl _) _).alloc (by simp) _).trans (hb.mono (by simp; omega))
  have t0 := hR.s
  have t1 : w1.cell? ⟨w.heap.size, 1, none⟩ = some (.int .i64 0) := hR.c 0 (by omega)
  have t2 : w1.cell? ⟨w.heap.size, 2, none⟩ = some (.int .i64 0) := hR.c 1 (by omega)
  have t3 : w1.cell? ⟨w.heap.size, 3, none⟩ = some (.int .i64 0) := hR.c 2 (by omega)
  have t4 : w1.cell? ⟨w.heap.size, 4, none⟩ = some (.int .i64 0) := hR.c 3 (by omega)
  have t5 : w1.cell? ⟨w.heap.size, 5, none⟩ = some (.int .i64 0) := hR.c 4 (by omega)
  have t6 : w1.cell? ⟨w.heap.size, 6, none⟩ = some (.int .i64 0) := hR.c 5 (by omega)
  have tf := hR.f
  clear hR hb HR HO
  go_wp2
  refine bodyPost_ret (v := .agg #[.bool true, .int .i64 (dgP (dOf u) oneD 0), .int .i64 (dgP (dOf u) oneD 1), .int .i64 (dgP (dOf u) oneD 2), .int .i64 (dgP (dOf u) oneD 3), .int .i64 (dgP (dOf u) oneD 4), .int .i64 (dgP (dOf u) oneD 5)]) (by simp [results, Try.results22, go_sem, t0, t1, t2, t3, t4, t5, t6]) rfl ⟨rfl, ?_⟩
  exact bset (bset (bset (bset (bset (bset (bset HB.out _ _ _ (by omega)) _ _ _ (by omega)) _ _ _ (by omega)) _ _ _ (by omega)) _ _ _ (by omega)) _ _ _ (by omega)) _ _ _ (by omega)

theorem of_big (v : Int) (w : World) (h1 : -9223372036854775808 ≤ v) (h2 : v ≤ 9223372036854775807) :
    Calls Try.prog 22 #[.int .i64 v] w fun e w' => ∃ v', e = .returned v' ∧ IsBig v' v ∧ Below w.heap.size w w' := by
  by_cases h : v < 0
  · refine Calls.mono (of_neg v (-(v + 1)) w h h1 rfl) fun e w' t => ⟨_, t.1, ⟨true, dgP (dOf (-(v + 1))) oneD, rfl, dgP_dig (dOf_dig _ (by omega) (by omega)) oneD_dig, ?_, fun _ => h⟩, t.2⟩
    have hv := valP_exact (dOf_dig (-(v + 1)) (by omega) (by omega)) oneD_dig (by rw [dOf_val _ (by omega), valD_one]; omega)
    rw [dOf_val _ (by omega), valD_one] at hv
    unfold sv; rw [hv]; simp; omega
  · exact Calls.mono (of_pos v w (by omega) h2) fun e w' t => ⟨_, t.1, ⟨false, dOf v, rfl, dOf_dig v (by omega) (by omega), by unfold sv; rw [dOf_val v (by omega)]; rfl, fun h => by cases h⟩, t.2⟩
end Go.Proofs.Ytgpophdlmibmgaa
