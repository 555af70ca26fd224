/- The document's own sum by what it says. Conditions: the sizes' sum has six digits. -/
import Derived.Test.YtgpophdlmibmgaaBig7
namespace Go.Proofs.Ytgpophdlmibmgaa
open Go.RowKit
set_option linter.unusedVariables false
set_option maxRecDepth 100000

theorem BigAt.other7 {W : World} {g h : Nat} {m : Bool} {d : Nat → Int} (k : BigAt W g m d) (hn : g ≠ h) (v0 v1 v2 v3 v4 v5 v6 : Value) :
    BigAt (((((((W.setCell ⟨h, 0, none⟩ v0).setCell ⟨h, 1, none⟩ v1).setCell ⟨h, 2, none⟩ v2).setCell ⟨h, 3, none⟩ v3).setCell ⟨h, 4, none⟩ v4).setCell ⟨h, 5, none⟩ v5).setCell ⟨h, 6, none⟩ v6) g m d :=
  ((((((k.other 0 v0 hn).other 1 v1 hn).other 2 v2 hn).other 3 v3 hn).other 4 v4 hn).other 5 v5 hn).other 6 v6 hn
theorem bset7 {B : Nat} {w W : World} (k : Below B w W) (h : Nat) (v0 v1 v2 v3 v4 v5 v6 : Value) (hb : B ≤ h) :
    Below B w (((((((W.setCell ⟨h, 0, none⟩ v0).setCell ⟨h, 1, none⟩ v1).setCell ⟨h, 2, none⟩ v2).setCell ⟨h, 3, none⟩ v3).setCell ⟨h, 4, none⟩ v4).setCell ⟨h, 5, none⟩ v5).setCell ⟨h, 6, none⟩ v6) :=
  bset (bset (bset (bset (bset (bset (bset k h 0 v0 hb) h 1 v1 hb) h 2 v2 hb) h 3 v3 hb) h 4 v4 hb) h 5 v5 hb) h 6 v6 hb

set_option maxHeartbeats 1000000 in
theorem add_same (m n : Bool) (a b : Nat → Int) (w : World) (ha : Dig a) (hb : Dig b) (hmn : (m == n) = true) :
    Calls Try.prog 20 #[.agg #[.bool m, .int .i64 (a 0), .int .i64 (a 1), .int .i64 (a 2), .int .i64 (a 3), .int .i64 (a 4), .int .i64 (a 5)], .agg #[.bool n, .int .i64 (b 0), .int .i64 (b 1), .int .i64 (b 2), .int .i64 (b 3), .int .i64 (b 4), .int .i64 (b 5)]] w fun e w' => e = .returned (.agg #[.bool m, .int .i64 (dgP a b 0), .int .i64 (dgP a b 1), .int .i64 (dgP a b 2), .int .i64 (dgP a b 3), .int .i64 (dgP a b 4), .int .i64 (dgP a b 5)]) ∧ Below w.heap.size w w' := by
  have HP : Hid (∀ w, Calls Try.prog 39 #[.agg #[.bool m, .int .i64 (a 0), .int .i64 (a 1), .int .i64 (a 2), .int .i64 (a 3), .int .i64 (a 4), .int .i64 (a 5)], .agg #[.bool n, .int .i64 (b 0), .int .i64 (b 1), .int .i64 (b 2), .int .i64 (b 3), .int .i64 (b 4), .int .i64 (b 5)]] w fun e w' => e = .returned (.agg #[.bool m, .int .i64 (dgP a b 0), .int .i64 (dgP a b 1), .int .i64 (dgP a b 2), .int .i64 (dgP a b 3), .int .i64 (dgP a b 4), .int .i64 (dgP a b 5)]) ∧ Below w.heap.size w w') := fun w => rplus_any m n a b w ha hb
  have A0 : BigAt (((w.alloc (.cells #[.bool m, .int .i64 (a 0), .int .i64 (a 1), .int .i64 (a 2), .int .i64 (a 3), .int .i64 (a 4), .int .i64 (a 5)] 71)).alloc (.cells #[.bool n, .int .i64 (b 0), .int .i64 (b 1), .int .i64 (b 2), .int .i64 (b 3), .int .i64 (b 4), .int .i64 (b 5)] 71)).alloc (.cells #[.bool false, .int .i64 0, .int .i64 0, .int .i64 0, .int .i64 0, .int .i64 0, .int .i64 0] 71)) w.heap.size m a := bigAt_of (by simp [go_sem]) (by simp [go_sem]) (by simp [go_sem]) (by simp [go_sem]) (by simp [go_sem]) (by simp [go_sem]) (by simp [go_sem]) (fun j => by simp [go_sem])
  have B0 : BigAt (((w.alloc (.cells #[.bool m, .int .i64 (a 0), .int .i64 (a 1), .int .i64 (a 2), .int .i64 (a 3), .int .i64 (a 4), .int .i64 (a 5)] 71)).alloc (.cells #[.bool n, .int .i64 (b 0), .int .i64 (b 1), .int .i64 (b 2), .int .i64 (b 3), .int .i64 (b 4), .int .i64 (b 5)] 71)).alloc (.cells #[.bool false, .int .i64 0, .int .i64 0, .int .i64 0, .int .i64 0, .int .i64 0, .int .i64 0] 71)) (w.heap.size + 1) n b := bigAt_of (by simp [go_sem]) (by simp [go_sem]) (by simp [go_sem]) (by simp [go_sem]) (by simp [go_sem]) (by simp [go_sem]) (by simp [go_sem]) (fun j => by simp [go_sem])
  have R0 : BigAt (((w.alloc (.cells #[.bool m, .int .i64 (a 0), .int .i64 (a 1), .int .i64 (a 2), .int .i64 (a 3), .int .i64 (a 4), .int .i64 (a 5)] 71)).alloc (.cells #[.bool n, .int .i64 (b 0), .int .i64 (b 1), .int .i64 (b 2), .int .i64 (b 3), .int .i64 (b 4), .int .i64 (b 5)] 71)).alloc (.cells #[.bool false, .int .i64 0, .int .i64 0, .int .i64 0, .int .i64 0, .int .i64 0, .int .i64 0] 71)) (w.heap.size + 1 + 1) false (fun _ => 0) := bigAt_of (by simp [go_sem]) (by simp [go_sem]) (by simp [go_sem]) (by simp [go_sem]) (by simp [go_sem]) (by simp [go_sem]) (by simp [go_sem]) (fun j => by simp [go_sem])
  have W0b : Below w.heap.size w (((w.alloc (.cells #[.bool m, .int .i64 (a 0), .int .i64 (a 1), .int .i64 (a 2), .int .i64 (a 3), .int .i64 (a 4), .int .i64 (a 5)] 71)).alloc (.cells #[.bool n, .int .i64 (b 0), .int .i64 (b 1), .int .i64 (b 2), .int .i64 (b 3), .int .i64 (b 4), .int .i64 (b 5)] 71)).alloc (.cells #[.bool false, .int .i64 0, .int .i64 0, .int .i64 0, .int .i64 0, .int .i64 0, .int .i64 0] 71)) := ((((Below.refl _ w).alloc (Nat.le_refl _) _).alloc (by simp) _).alloc (by simp; omega) _)
  have HA : Hid (BigAt (((w.alloc (.cells #[.bool m, .int .i64 (a 0), .int .i64 (a 1), .int .i64 (a 2), .int .i64 (a 3), .int .i64 (a 4), .int .i64 (a 5)] 71)).alloc (.cells #[.bool n, .int .i64 (b 0), .int .i64 (b 1), .int .i64 (b 2), .int .i64 (b 3), .int .i64 (b 4), .int .i64 (b 5)] 71)).alloc (.cells #[.bool false, .int .i64 0, .int .i64 0, .int .i64 0, .int .i64 0, .int .i64 0, .int .i64 0] 71)) w.heap.size m a ∧ BigAt (((w.alloc (.cells #[.bool m, .int .i64 (a 0), .int .i64 (a 1), .int .i64 (a 2), .int .i64 (a 3), .int .i64 (a 4), .int .i64 (a 5)] 71)).alloc (.cells #[.bool n, .int .i64 (b 0), .int .i64 (b 1), .int .i64 (b 2), .int .i64 (b 3), .int .i64 (b 4), .int .i64 (b 5)] 71)).alloc (.cells #[.bool false, .int .i64 0, .int .i64 0, .int .i64 0, .int .i64 0, .int .i64 0, .int .i64 0] 71)) (w.heap.size + 1) n b ∧ BigAt (((w.alloc (.cells #[.bool m, .int .i64 (a 0), .int .i64 (a 1), .int .i64 (a 2), .int .i64 (a 3), .int .i64 (a 4), .int .i64 (a 5)] 71)).alloc (.cells #[.bool n, .int .i64 (b 0), .int .i64 (b 1), .int .i64 (b 2), .int .i64 (b 3), .int .i64 (b 4), .int .i64 (b 5)] 71)).alloc (.cells #[.bool false, .int .i64 0, .int .i64 0, .int .i64 0, .int .i64 0, .int .i64 0, .int .i64 0] 71)) (w.heap.size + 1 + 1) false (fun _ => 0) ∧ Below w.heap.size w (((w.alloc (.cells #[.bool m, .int .i64 (a 0), .int .i64 (a 1), .int .i64 (a 2), .int .i64 (a 3), .int .i64 (a 4), .int .i64 (a 5)] 71)).alloc (.cells #[.bool n, .int .i64 (b 0), .int .i64 (b 1), .int .i64 (b 2), .int .i64 (b 3), .int .i64 (b 4), .int .i64 (b 5)] 71)).alloc (.cells #[.bool false, .int .i64 0, .int .i64 0, .int .i64 0, .int .i64 0, .int .i64 0, .int .i64 0] 71))) := ⟨A0, B0, R0, W0b⟩
  clear A0 B0 R0 W0b
  clear ha hb
  go_enter Try.func20, Try.ntmps20
  go_wp2_with fail
  refine Calls.mono (HP.out _) ?_
  rintro e w1 ⟨rfl, hb⟩
  have hR := HA.out.2.2.1.below hb
  have HB : Hid (Below w.heap.size w w1) := HA.out.2.2.2.trans (hb.mono HA.out.2.2.2.size)
  have t0 := hR.s
  have t1 : w1.cell? ⟨w.heap.size + 1 + 1, 1, none⟩ = some (.int .i64 0) := hR.c 0 (by omega)
  have t2 : w1.cell? ⟨w.heap.size + 1 + 1, 2, none⟩ = some (.int .i64 0) := hR.c 1 (by omega)
  have t3 : w1.cell? ⟨w.heap.size + 1 + 1, 3, none⟩ = some (.int .i64 0) := hR.c 2 (by omega)
  have t4 : w1.cell? ⟨w.heap.size + 1 + 1, 4, none⟩ = some (.int .i64 0) := hR.c 3 (by omega)
  have t5 : w1.cell? ⟨w.heap.size + 1 + 1, 5, none⟩ = some (.int .i64 0) := hR.c 4 (by omega)
  have t6 : w1.cell? ⟨w.heap.size + 1 + 1, 6, none⟩ = some (.int .i64 0) := hR.c 5 (by omega)
  have tf := hR.f
  clear hR hb HA HP
  go_wp2
  refine bodyPost_ret (v := .agg #[.bool m, .int .i64 (dgP a b 0), .int .i64 (dgP a b 1), .int .i64 (dgP a b 2), .int .i64 (dgP a b 3), .int .i64 (dgP a b 4), .int .i64 (dgP a b 5)]) (by simp [results, Try.results20, go_sem, t0, t1, t2, t3, t4, t5, t6]) rfl ⟨rfl, ?_⟩
  exact bset (bset (bset (bset (bset (bset (bset HB.out _ _ _ (by omega)) _ _ _ (by omega)) _ _ _ (by omega)) _ _ _ (by omega)) _ _ _ (by omega)) _ _ _ (by omega)) _ _ _ (by omega)

set_option maxHeartbeats 4000000 in
theorem add_diff_ge_n (m n : Bool) (a b : Nat → Int) (w : World) (ha : Dig a) (hb : Dig b) (hmn : (m == n) = false) (hs : 0 ≤ sgnV a b) (hz : zB (dgL a b) = false) :
    Calls Try.prog 20 #[.agg #[.bool m, .int .i64 (a 0), .int .i64 (a 1), .int .i64 (a 2), .int .i64 (a 3), .int .i64 (a 4), .int .i64 (a 5)], .agg #[.bool n, .int .i64 (b 0), .int .i64 (b 1), .int .i64 (b 2), .int .i64 (b 3), .int .i64 (b 4), .int .i64 (b 5)]] w fun e w' => e = .returned (.agg #[.bool m, .int .i64 (dgL a b 0), .int .i64 (dgL a b 1), .int .i64 (dgL a b 2), .int .i64 (dgL a b 3), .int .i64 (dgL a b 4), .int .i64 (dgL a b 5)]) ∧ Below w.heap.size w w' := by
  have HL : Hid (∀ w, Calls Try.prog 41 #[.agg #[.bool m, .int .i64 (a 0), .int .i64 (a 1), .int .i64 (a 2), .int .i64 (a 3), .int .i64 (a 4), .int .i64 (a 5)], .agg #[.bool n, .int .i64 (b 0), .int .i64 (b 1), .int .i64 (b 2), .int .i64 (b 3), .int .i64 (b 4), .int .i64 (b 5)]] w fun e w' => e = .returned (.agg #[.bool m, .int .i64 (dgL a b 0), .int .i64 (dgL a b 1), .int .i64 (dgL a b 2), .int .i64 (dgL a b 3), .int .i64 (dgL a b 4), .int .i64 (dgL a b 5)]) ∧ Below w.heap.size w w') := fun w => rless_any m n a b w ha hb
  have HS : Hid (∀ w, Calls Try.prog 40 #[.agg #[.bool m, .int .i64 (a 0), .int .i64 (a 1), .int .i64 (a 2), .int .i64 (a 3), .int .i64 (a 4), .int .i64 (a 5)], .agg #[.bool n, .int .i64 (b 0), .int .i64 (b 1), .int .i64 (b 2), .int .i64 (b 3), .int .i64 (b 4), .int .i64 (b 5)]] w fun e w' => e = .returned (.int .i64 (sgnV a b)) ∧ Below w.heap.size w w') := fun w => rsize_any m n a b w ha hb
  have HZ : Hid (∀ w, Calls Try.prog 42 #[.agg #[.bool m, .int .i64 (dgL a b 0), .int .i64 (dgL a b 1), .int .i64 (dgL a b 2), .int .i64 (dgL a b 3), .int .i64 (dgL a b 4), .int .i64 (dgL a b 5)]] w fun e w' => e = .returned (.bool false) ∧ Below w.heap.size w w') := fun w => by rw [← hz]; exact bzero_any m (dgL a b) w
  have A0 : BigAt (((w.alloc (.cells #[.bool m, .int .i64 (a 0), .int .i64 (a 1), .int .i64 (a 2), .int .i64 (a 3), .int .i64 (a 4), .int .i64 (a 5)] 71)).alloc (.cells #[.bool n, .int .i64 (b 0), .int .i64 (b 1), .int .i64 (b 2), .int .i64 (b 3), .int .i64 (b 4), .int .i64 (b 5)] 71)).alloc (.cells #[.bool false, .int .i64 0, .int .i64 0, .int .i64 0, .int .i64 0, .int .i64 0, .int .i64 0] 71)) w.heap.size m a := bigAt_of (by simp [go_sem]) (by simp [go_sem]) (by simp [go_sem]) (by simp [go_sem]) (by simp [go_sem]) (by simp [go_sem]) (by simp [go_sem]) (fun j => by simp [go_sem])
  have B0 : BigAt (((w.alloc (.cells #[.bool m, .int .i64 (a 0), .int .i64 (a 1), .int .i64 (a 2), .int .i64 (a 3), .int .i64 (a 4), .int .i64 (a 5)] 71)).alloc (.cells #[.bool n, .int .i64 (b 0), .int .i64 (b 1), .int .i64 (b 2), .int .i64 (b 3), .int .i64 (b 4), .int .i64 (b 5)] 71)).alloc (.cells #[.bool false, .int .i64 0, .int .i64 0, .int .i64 0, .int .i64 0, .int .i64 0, .int .i64 0] 71)) (w.heap.size + 1) n b := bigAt_of (by simp [go_sem]) (by simp [go_sem]) (by simp [go_sem]) (by simp [go_sem]) (by simp [go_sem]) (by simp [go_sem]) (by simp [go_sem]) (fun j => by simp [go_sem])
  have R0 : BigAt (((w.alloc (.cells #[.bool m, .int .i64 (a 0), .int .i64 (a 1), .int .i64 (a 2), .int .i64 (a 3), .int .i64 (a 4), .int .i64 (a 5)] 71)).alloc (.cells #[.bool n, .int .i64 (b 0), .int .i64 (b 1), .int .i64 (b 2), .int .i64 (b 3), .int .i64 (b 4), .int .i64 (b 5)] 71)).alloc (.cells #[.bool false, .int .i64 0, .int .i64 0, .int .i64 0, .int .i64 0, .int .i64 0, .int .i64 0] 71)) (w.heap.size + 1 + 1) false (fun _ => 0) := bigAt_of (by simp [go_sem]) (by simp [go_sem]) (by simp [go_sem]) (by simp [go_sem]) (by simp [go_sem]) (by simp [go_sem]) (by simp [go_sem]) (fun j => by simp [go_sem])
  have W0b : Below w.heap.size w (((w.alloc (.cells #[.bool m, .int .i64 (a 0), .int .i64 (a 1), .int .i64 (a 2), .int .i64 (a 3), .int .i64 (a 4), .int .i64 (a 5)] 71)).alloc (.cells #[.bool n, .int .i64 (b 0), .int .i64 (b 1), .int .i64 (b 2), .int .i64 (b 3), .int .i64 (b 4), .int .i64 (b 5)] 71)).alloc (.cells #[.bool false, .int .i64 0, .int .i64 0, .int .i64 0, .int .i64 0, .int .i64 0, .int .i64 0] 71)) := ((((Below.refl _ w).alloc (Nat.le_refl _) _).alloc (by simp) _).alloc (by simp; omega) _)
  have HA : Hid (BigAt (((w.alloc (.cells #[.bool m, .int .i64 (a 0), .int .i64 (a 1), .int .i64 (a 2), .int .i64 (a 3), .int .i64 (a 4), .int .i64 (a 5)] 71)).alloc (.cells #[.bool n, .int .i64 (b 0), .int .i64 (b 1), .int .i64 (b 2), .int .i64 (b 3), .int .i64 (b 4), .int .i64 (b 5)] 71)).alloc (.cells #[.bool false, .int .i64 0, .int .i64 0, .int .i64 0, .int .i64 0, .int .i64 0, .int .i64 0] 71)) w.heap.size m a ∧ BigAt (((w.alloc (.cells #[.bool m, .int .i64 (a 0), .int .i64 (a 1), .int .i64 (a 2), .int .i64 (a 3), .int .i64 (a 4), .int .i64 (a 5)] 71)).alloc (.cells #[.bool n, .int .i64 (b 0), .int .i64 (b 1), .int .i64 (b 2), .int .i64 (b 3), .int .i64 (b 4), .int .i64 (b 5)] 71)).alloc (.cells #[.bool false, .int .i64 0, .int .i64 0, .int .i64 0, .int .i64 0, .int .i64 0, .int .i64 0] 71)) (w.heap.size + 1) n b ∧ BigAt (((w.alloc (.cells #[.bool m, .int .i64 (a 0), .int .i64 (a 1), .int .i64 (a 2), .int .i64 (a 3), .int .i64 (a 4), .int .i64 (a 5)] 71)).alloc (.cells #[.bool n, .int .i64 (b 0), .int .i64 (b 1), .int .i64 (b 2), .int .i64 (b 3), .int .i64 (b 4), .int .i64 (b 5)] 71)).alloc (.cells #[.bool false, .int .i64 0, .int .i64 0, .int .i64 0, .int .i64 0, .int .i64 0, .int .i64 0] 71)) (w.heap.size + 1 + 1) false (fun _ => 0) ∧ Below w.heap.size w (((w.alloc (.cells #[.bool m, .int .i64 (a 0), .int .i64 (a 1), .int .i64 (a 2), .int .i64 (a 3), .int .i64 (a 4), .int .i64 (a 5)] 71)).alloc (.cells #[.bool n, .int .i64 (b 0), .int .i64 (b 1), .int .i64 (b 2), .int .i64 (b 3), .int .i64 (b 4), .int .i64 (b 5)] 71)).alloc (.cells #[.bool false, .int .i64 0, .int .i64 0, .int .i64 0, .int .i64 0, .int .i64 0, .int .i64 0] 71))) := ⟨A0, B0, R0, W0b⟩
  clear A0 B0 R0 W0b
  clear ha hb hz
  go_enter Try.func20, Try.ntmps20
  go_wp2_with fail
  refine Calls.mono (HS.out _) ?_
  rintro e w1 ⟨rfl, hb⟩
  have hA := HA.out.1.below hb
  have hB := HA.out.2.1.below hb
  have hR := HA.out.2.2.1.below hb
  have HB1 : Hid (Below w.heap.size w w1) := HA.out.2.2.2.trans (hb.mono HA.out.2.2.2.size)
  have HR1 : Hid (BigAt w1 (w.heap.size + 1 + 1) false (fun _ => 0)) := hR
  have hAf := hA.f
  have hBf := hB.f
  have s0 := hA.s
  have e0 : w1.cell? ⟨w.heap.size, 1, none⟩ = some (.int .i64 (a 0)) := hA.c 0 (by omega)
  have e1 : w1.cell? ⟨w.heap.size, 2, none⟩ = some (.int .i64 (a 1)) := hA.c 1 (by omega)
  have e2 : w1.cell? ⟨w.heap.size, 3, none⟩ = some (.int .i64 (a 2)) := hA.c 2 (by omega)
  have e3 : w1.cell? ⟨w.heap.size, 4, none⟩ = some (.int .i64 (a 3)) := hA.c 3 (by omega)
  have e4 : w1.cell? ⟨w.heap.size, 5, none⟩ = some (.int .i64 (a 4)) := hA.c 4 (by omega)
  have e5 : w1.cell? ⟨w.heap.size, 6, none⟩ = some (.int .i64 (a 5)) := hA.c 5 (by omega)
  have s1 := hB.s
  have f0 : w1.cell? ⟨w.heap.size + 1, 1, none⟩ = some (.int .i64 (b 0)) := hB.c 0 (by omega)
  have f1 : w1.cell? ⟨w.heap.size + 1, 2, none⟩ = some (.int .i64 (b 1)) := hB.c 1 (by omega)
  have f2 : w1.cell? ⟨w.heap.size + 1, 3, none⟩ = some (.int .i64 (b 2)) := hB.c 2 (by omega)
  have f3 : w1.cell? ⟨w.heap.size + 1, 4, none⟩ = some (.int .i64 (b 3)) := hB.c 3 (by omega)
  have f4 : w1.cell? ⟨w.heap.size + 1, 5, none⟩ = some (.int .i64 (b 4)) := hB.c 4 (by omega)
  have f5 : w1.cell? ⟨w.heap.size + 1, 6, none⟩ = some (.int .i64 (b 5)) := hB.c 5 (by omega)
  clear hA hB hR hb HA HS
  go_wp2_with fail
  refine Calls.mono (HL.out _) ?_
  rintro e w2 ⟨rfl, hb⟩
  have hR2 : BigAt w2 (w.heap.size + 1 + 1) false (fun _ => 0) := (HR1.out).below hb
  have HR2 : Hid (BigAt (w2.alloc (.cells #[.bool m, .int .i64 (dgL a b 0), .int .i64 (dgL a b 1), .int .i64 (dgL a b 2), .int .i64 (dgL a b 3), .int .i64 (dgL a b 4), .int .i64 (dgL a b 5)] 71)) (w.heap.size + 1 + 1) false (fun _ => 0)) := hR2.below ((Below.refl _ w2).alloc (Nat.le_refl _) _)
  have HC2 : Hid (BigAt (w2.alloc (.cells #[.bool m, .int .i64 (dgL a b 0), .int .i64 (dgL a b 1), .int .i64 (dgL a b 2), .int .i64 (dgL a b 3), .int .i64 (dgL a b 4), .int .i64 (dgL a b 5)] 71)) w2.heap.size m (dgL a b)) := bigAt_of (by simp [go_sem]) (by simp [go_sem]) (by simp [go_sem]) (by simp [go_sem]) (by simp [go_sem]) (by simp [go_sem]) (by simp [go_sem]) (fun j => by simp [go_sem])
  have hlt : w.heap.size + 1 + 1 < w2.heap.size := hR2.lt
  have HB2 : Hid (Below w.heap.size w (w2.alloc (.cells #[.bool m, .int .i64 (dgL a b 0), .int .i64 (dgL a b 1), .int .i64 (dgL a b 2), .int .i64 (dgL a b 3), .int .i64 (dgL a b 4), .int .i64 (dgL a b 5)] 71))) := by
    have k : Below w.heap.size w w2 := (HB1.out).trans (hb.mono (by have := HB1.out.size; omega))
    exact k.alloc k.size _
  clear hb hR2 hAf hBf HR1 HB1 HL
  clear s0 s1 e0 e1 e2 e3 e4 e5 f0 f1 f2 f3 f4 f5
  go_wp2_with fail
  refine Calls.mono (HZ.out _) ?_
  rintro e w3 ⟨rfl, hb⟩
  have hC := HC2.out.below hb
  have hR := HR2.out.below hb
  have HB : Hid (Below w.heap.size w w3) := HB2.out.trans (hb.mono HB2.out.size)
  have cf := hC.f
  have s0 := hC.s
  have e0 : w3.cell? ⟨w2.heap.size, 1, none⟩ = some (.int .i64 (dgL a b 0)) := hC.c 0 (by omega)
  have e1 : w3.cell? ⟨w2.heap.size, 2, none⟩ = some (.int .i64 (dgL a b 1)) := hC.c 1 (by omega)
  have e2 : w3.cell? ⟨w2.heap.size, 3, none⟩ = some (.int .i64 (dgL a b 2)) := hC.c 2 (by omega)
  have e3 : w3.cell? ⟨w2.heap.size, 4, none⟩ = some (.int .i64 (dgL a b 3)) := hC.c 3 (by omega)
  have e4 : w3.cell? ⟨w2.heap.size, 5, none⟩ = some (.int .i64 (dgL a b 4)) := hC.c 4 (by omega)
  have e5 : w3.cell? ⟨w2.heap.size, 6, none⟩ = some (.int .i64 (dgL a b 5)) := hC.c 5 (by omega)
  have t0 := hR.s
  have t1 : w3.cell? ⟨w.heap.size + 1 + 1, 1, none⟩ = some (.int .i64 0) := hR.c 0 (by omega)
  have t2 : w3.cell? ⟨w.heap.size + 1 + 1, 2, none⟩ = some (.int .i64 0) := hR.c 1 (by omega)
  have t3 : w3.cell? ⟨w.heap.size + 1 + 1, 3, none⟩ = some (.int .i64 0) := hR.c 2 (by omega)
  have t4 : w3.cell? ⟨w.heap.size + 1 + 1, 4, none⟩ = some (.int .i64 0) := hR.c 3 (by omega)
  have t5 : w3.cell? ⟨w.heap.size + 1 + 1, 5, none⟩ = some (.int .i64 0) := hR.c 4 (by omega)
  have t6 : w3.cell? ⟨w.heap.size + 1 + 1, 6, none⟩ = some (.int .i64 0) := hR.c 5 (by omega)
  have tf := hR.f
  clear hC hR hb HC2 HR2 HB2 HZ
  go_wp2
  refine bodyPost_ret (v := .agg #[.bool m, .int .i64 (dgL a b 0), .int .i64 (dgL a b 1), .int .i64 (dgL a b 2), .int .i64 (dgL a b 3), .int .i64 (dgL a b 4), .int .i64 (dgL a b 5)]) (by simp [results, Try.results20, go_sem, t0, t1, t2, t3, t4, t5, t6]) rfl ⟨rfl, ?_⟩
  exact bset (bset (bset (bset (bset (bset (bset HB.out _ _ _ (by omega)) _ _ _ (by omega)) _ _ _ (by omega)) _ _ _ (by omega)) _ _ _ (by omega)) _ _ _ (by omega)) _ _ _ (by omega)

set_option maxHeartbeats 4000000 in
theorem add_diff_ge_z (m n : Bool) (a b : Nat → Int) (w : World) (ha : Dig a) (hb : Dig b) (hmn : (m == n) = false) (hs : 0 ≤ sgnV a b) (hz : zB (dgL a b) = true) :
    Calls Try.prog 20 #[.agg #[.bool m, .int .i64 (a 0), .int .i64 (a 1), .int .i64 (a 2), .int .i64 (a 3), .int .i64 (a 4), .int .i64 (a 5)], .agg #[.bool n, .int .i64 (b 0), .int .i64 (b 1), .int .i64 (b 2), .int .i64 (b 3), .int .i64 (b 4), .int .i64 (b 5)]] w fun e w' => e = .returned (.agg #[.bool false, .int .i64 (dgL a b 0), .int .i64 (dgL a b 1), .int .i64 (dgL a b 2), .int .i64 (dgL a b 3), .int .i64 (dgL a b 4), .int .i64 (dgL a b 5)]) ∧ Below w.heap.size w w' := by
  have HL : Hid (∀ w, Calls Try.prog 41 #[.agg #[.bool m, .int .i64 (a 0), .int .i64 (a 1), .int .i64 (a 2), .int .i64 (a 3), .int .i64 (a 4), .int .i64 (a 5)], .agg #[.bool n, .int .i64 (b 0), .int .i64 (b 1), .int .i64 (b 2), .int .i64 (b 3), .int .i64 (b 4), .int .i64 (b 5)]] w fun e w' => e = .returned (.agg #[.bool m, .int .i64 (dgL a b 0), .int .i64 (dgL a b 1), .int .i64 (dgL a b 2), .int .i64 (dgL a b 3), .int .i64 (dgL a b 4), .int .i64 (dgL a b 5)]) ∧ Below w.heap.size w w') := fun w => rless_any m n a b w ha hb
  have HS : Hid (∀ w, Calls Try.prog 40 #[.agg #[.bool m, .int .i64 (a 0), .int .i64 (a 1), .int .i64 (a 2), .int .i64 (a 3), .int .i64 (a 4), .int .i64 (a 5)], .agg #[.bool n, .int .i64 (b 0), .int .i64 (b 1), .int .i64 (b 2), .int .i64 (b 3), .int .i64 (b 4), .int .i64 (b 5)]] w fun e w' => e = .returned (.int .i64 (sgnV a b)) ∧ Below w.heap.size w w') := fun w => rsize_any m n a b w ha hb
  have HZ : Hid (∀ w, Calls Try.prog 42 #[.agg #[.bool m, .int .i64 (dgL a b 0), .int .i64 (dgL a b 1), .int .i64 (dgL a b 2), .int .i64 (dgL a b 3), .int .i64 (dgL a b 4), .int .i64 (dgL a b 5)]] w fun e w' => e = .returned (.bool true) ∧ Below w.heap.size w w') := fun w => by rw [← hz]; exact bzero_any m (dgL a b) w
  have A0 : BigAt (((w.alloc (.cells #[.bool m, .int .i64 (a 0), .int .i64 (a 1), .int .i64 (a 2), .int .i64 (a 3), .int .i64 (a 4), .int .i64 (a 5)] 71)).alloc (.cells #[.bool n, .int .i64 (b 0), .int .i64 (b 1), .int .i64 (b 2), .int .i64 (b 3), .int .i64 (b 4), .int .i64 (b 5)] 71)).alloc (.cells #[.bool false, .int .i64 0, .int .i64 0, .int .i64 0, .int .i64 0, .int .i64 0, .int .i64 0] 71)) w.heap.size m a := bigAt_of (by simp [go_sem]) (by simp [go_sem]) (by simp [go_sem]) (by simp [go_sem]) (by simp [go_sem]) (by simp [go_sem]) (by simp [go_sem]) (fun j => by simp [go_sem])
  have B0 : BigAt (((w.alloc (.cells #[.bool m, .int .i64 (a 0), .int .i64 (a 1), .int .i64 (a 2), .int .i64 (a 3), .int .i64 (a 4), .int .i64 (a 5)] 71)).alloc (.cells #[.bool n, .int .i64 (b 0), .int .i64 (b 1), .int .i64 (b 2), .int .i64 (b 3), .int .i64 (b 4), .int .i64 (b 5)] 71)).alloc (.cells #[.bool false, .int .i64 0, .int .i64 0, .int .i64 0, .int .i64 0, .int .i64 0, .int .i64 0] 71)) (w.heap.size + 1) n b := bigAt_of (by simp [go_sem]) (by simp [go_sem]) (by simp [go_sem]) (by simp [go_sem]) (by simp [go_sem]) (by simp [go_sem]) (by simp [go_sem]) (fun j => by simp [go_sem])
  have R0 : BigAt (((w.alloc (.cells #[.bool m, .int .i64 (a 0), .int .i64 (a 1), .int .i64 (a 2), .int .i64 (a 3), .int .i64 (a 4), .int .i64 (a 5)] 71)).alloc (.cells #[.bool n, .int .i64 (b 0), .int .i64 (b 1), .int .i64 (b 2), .int .i64 (b 3), .int .i64 (b 4), .int .i64 (b 5)] 71)).alloc (.cells #[.bool false, .int .i64 0, .int .i64 0, .int .i64 0, .int .i64 0, .int .i64 0, .int .i64 0] 71)) (w.heap.size + 1 + 1) false (fun _ => 0) := bigAt_of (by simp [go_sem]) (by simp [go_sem]) (by simp [go_sem]) (by simp [go_sem]) (by simp [go_sem]) (by simp [go_sem]) (by simp [go_sem]) (fun j => by simp [go_sem])
  have W0b : Below w.heap.size w (((w.alloc (.cells #[.bool m, .int .i64 (a 0), .int .i64 (a 1), .int .i64 (a 2), .int .i64 (a 3), .int .i64 (a 4), .int .i64 (a 5)] 71)).alloc (.cells #[.bool n, .int .i64 (b 0), .int .i64 (b 1), .int .i64 (b 2), .int .i64 (b 3), .int .i64 (b 4), .int .i64 (b 5)] 71)).alloc (.cells #[.bool false, .int .i64 0, .int .i64 0, .int .i64 0, .int .i64 0, .int .i64 0, .int .i64 0] 71)) := ((((Below.refl _ w).alloc (Nat.le_refl _) _).alloc (by simp) _).alloc (by simp; omega) _)
  have HA : Hid (BigAt (((w.alloc (.cells #[.bool m, .int .i64 (a 0), .int .i64 (a 1), .int .i64 (a 2), .int .i64 (a 3), .int .i64 (a 4), .int .i64 (a 5)] 71)).alloc (.cells #[.bool n, .int .i64 (b 0), .int .i64 (b 1), .int .i64 (b 2), .int .i64 (b 3), .int .i64 (b 4), .int .i64 (b 5)] 71)).alloc (.cells #[.bool false, .int .i64 0, .int .i64 0, .int .i64 0, .int .i64 0, .int .i64 0, .int .i64 0] 71)) w.heap.size m a ∧ BigAt (((w.alloc (.cells #[.bool m, .int .i64 (a 0), .int .i64 (a 1), .int .i64 (a 2), .int .i64 (a 3), .int .i64 (a 4), .int .i64 (a 5)] 71)).alloc (.cells #[.bool n, .int .i64 (b 0), .int .i64 (b 1), .int .i64 (b 2), .int .i64 (b 3), .int .i64 (b 4), .int .i64 (b 5)] 71)).alloc (.cells #[.bool false, .int .i64 0, .int .i64 0, .int .i64 0, .int .i64 0, .int .i64 0, .int .i64 0] 71)) (w.heap.size + 1) n b ∧ BigAt (((w.alloc (.cells #[.bool m, .int .i64 (a 0), .int .i64 (a 1), .int .i64 (a 2), .int .i64 (a 3), .int .i64 (a 4), .int .i64 (a 5)] 71)).alloc (.cells #[.bool n, .int .i64 (b 0), .int .i64 (b 1), .int .i64 (b 2), .int .i64 (b 3), .int .i64 (b 4), .int .i64 (b 5)] 71)).alloc (.cells #[.bool false, .int .i64 0, .int .i64 0, .int .i64 0, .int .i64 0, .int .i64 0, .int .i64 0] 71)) (w.heap.size + 1 + 1) false (fun _ => 0) ∧ Below w.heap.size w (((w.alloc (.cells #[.bool m, .int .i64 (a 0), .int .i64 (a 1), .int .i64 (a 2), .int .i64 (a 3), .int .i64 (a 4), .int .i64 (a 5)] 71)).alloc (.cells #[.bool n, .int .i64 (b 0), .int .i64 (b 1), .int .i64 (b 2), .int .i64 (b 3), .int .i64 (b 4), .int .i64 (b 5)] 71)).alloc (.cells #[.bool false, .int .i64 0, .int .i64 0, .int .i64 0, .int .i64 0, .int .i64 0, .int .i64 0] 71))) := ⟨A0, B0, R0, W0b⟩
  clear A0 B0 R0 W0b
  clear ha hb hz
  go_enter Try.func20, Try.ntmps20
  go_wp2_with fail
  refine Calls.mono (HS.out _) ?_
  rintro e w1 ⟨rfl, hb⟩
  have hA := HA.out.1.below hb
  have hB := HA.out.2.1.below hb
  have hR := HA.out.2.2.1.below hb
  have HB1 : Hid (Below w.heap.size w w1) := HA.out.2.2.2.trans (hb.mono HA.out.2.2.2.size)
  have HR1 : Hid (BigAt w1 (w.heap.size + 1 + 1) false (fun _ => 0)) := hR
  have hAf := hA.f
  have hBf := hB.f
  have s0 := hA.s
  have e0 : w1.cell? ⟨w.heap.size, 1, none⟩ = some (.int .i64 (a 0)) := hA.c 0 (by omega)
  have e1 : w1.cell? ⟨w.heap.size, 2, none⟩ = some (.int .i64 (a 1)) := hA.c 1 (by omega)
  have e2 : w1.cell? ⟨w.heap.size, 3, none⟩ = some (.int .i64 (a 2)) := hA.c 2 (by omega)
  have e3 : w1.cell? ⟨w.heap.size, 4, none⟩ = some (.int .i64 (a 3)) := hA.c 3 (by omega)
  have e4 : w1.cell? ⟨w.heap.size, 5, none⟩ = some (.int .i64 (a 4)) := hA.c 4 (by omega)
  have e5 : w1.cell? ⟨w.heap.size, 6, none⟩ = some (.int .i64 (a 5)) := hA.c 5 (by omega)
  have s1 := hB.s
  have f0 : w1.cell? ⟨w.heap.size + 1, 1, none⟩ = some (.int .i64 (b 0)) := hB.c 0 (by omega)
  have f1 : w1.cell? ⟨w.heap.size + 1, 2, none⟩ = some (.int .i64 (b 1)) := hB.c 1 (by omega)
  have f2 : w1.cell? ⟨w.heap.size + 1, 3, none⟩ = some (.int .i64 (b 2)) := hB.c 2 (by omega)
  have f3 : w1.cell? ⟨w.heap.size + 1, 4, none⟩ = some (.int .i64 (b 3)) := hB.c 3 (by omega)
  have f4 : w1.cell? ⟨w.heap.size + 1, 5, none⟩ = some (.int .i64 (b 4)) := hB.c 4 (by omega)
  have f5 : w1.cell? ⟨w.heap.size + 1, 6, none⟩ = some (.int .i64 (b 5)) := hB.c 5 (by omega)
  clear hA hB hR hb HA HS
  go_wp2_with fail
  refine Calls.mono (HL.out _) ?_
  rintro e w2 ⟨rfl, hb⟩
  have hR2 : BigAt w2 (w.heap.size + 1 + 1) false (fun _ => 0) := (HR1.out).below hb
  have HR2 : Hid (BigAt (w2.alloc (.cells #[.bool m, .int .i64 (dgL a b 0), .int .i64 (dgL a b 1), .int .i64 (dgL a b 2), .int .i64 (dgL a b 3), .int .i64 (dgL a b 4), .int .i64 (dgL a b 5)] 71)) (w.heap.size + 1 + 1) false (fun _ => 0)) := hR2.below ((Below.refl _ w2).alloc (Nat.le_refl _) _)
  have HC2 : Hid (BigAt (w2.alloc (.cells #[.bool m, .int .i64 (dgL a b 0), .int .i64 (dgL a b 1), .int .i64 (dgL a b 2), .int .i64 (dgL a b 3), .int .i64 (dgL a b 4), .int .i64 (dgL a b 5)] 71)) w2.heap.size m (dgL a b)) := bigAt_of (by simp [go_sem]) (by simp [go_sem]) (by simp [go_sem]) (by simp [go_sem]) (by simp [go_sem]) (by simp [go_sem]) (by simp [go_sem]) (fun j => by simp [go_sem])
  have hlt : w.heap.size + 1 + 1 < w2.heap.size := hR2.lt
  have HB2 : Hid (Below w.heap.size w (w2.alloc (.cells #[.bool m, .int .i64 (dgL a b 0), .int .i64 (dgL a b 1), .int .i64 (dgL a b 2), .int .i64 (dgL a b 3), .int .i64 (dgL a b 4), .int .i64 (dgL a b 5)] 71))) := by
    have k : Below w.heap.size w w2 := (HB1.out).trans (hb.mono (by have := HB1.out.size; omega))
    exact k.alloc k.size _
  clear hb hR2 hAf hBf HR1 HB1 HL
  clear s0 s1 e0 e1 e2 e3 e4 e5 f0 f1 f2 f3 f4 f5
  go_wp2_with fail
  refine Calls.mono (HZ.out _) ?_
  rintro e w3 ⟨rfl, hb⟩
  have hC := HC2.out.below hb
  have hR := HR2.out.below hb
  have HB : Hid (Below w.heap.size w w3) := HB2.out.trans (hb.mono HB2.out.size)
  have cf := hC.f
  have s0 := hC.s
  have e0 : w3.cell? ⟨w2.heap.size, 1, none⟩ = some (.int .i64 (dgL a b 0)) := hC.c 0 (by omega)
  have e1 : w3.cell? ⟨w2.heap.size, 2, none⟩ = some (.int .i64 (dgL a b 1)) := hC.c 1 (by omega)
  have e2 : w3.cell? ⟨w2.heap.size, 3, none⟩ = some (.int .i64 (dgL a b 2)) := hC.c 2 (by omega)
  have e3 : w3.cell? ⟨w2.heap.size, 4, none⟩ = some (.int .i64 (dgL a b 3)) := hC.c 3 (by omega)
  have e4 : w3.cell? ⟨w2.heap.size, 5, none⟩ = some (.int .i64 (dgL a b 4)) := hC.c 4 (by omega)
  have e5 : w3.cell? ⟨w2.heap.size, 6, none⟩ = some (.int .i64 (dgL a b 5)) := hC.c 5 (by omega)
  have t0 := hR.s
  have t1 : w3.cell? ⟨w.heap.size + 1 + 1, 1, none⟩ = some (.int .i64 0) := hR.c 0 (by omega)
  have t2 : w3.cell? ⟨w.heap.size + 1 + 1, 2, none⟩ = some (.int .i64 0) := hR.c 1 (by omega)
  have t3 : w3.cell? ⟨w.heap.size + 1 + 1, 3, none⟩ = some (.int .i64 0) := hR.c 2 (by omega)
  have t4 : w3.cell? ⟨w.heap.size + 1 + 1, 4, none⟩ = some (.int .i64 0) := hR.c 3 (by omega)
  have t5 : w3.cell? ⟨w.heap.size + 1 + 1, 5, none⟩ = some (.int .i64 0) := hR.c 4 (by omega)
  have t6 : w3.cell? ⟨w.heap.size + 1 + 1, 6, none⟩ = some (.int .i64 0) := hR.c 5 (by omega)
  have tf := hR.f
  clear hC hR hb HC2 HR2 HB2 HZ
  go_wp2
  refine bodyPost_ret (v := .agg #[.bool false, .int .i64 (dgL a b 0), .int .i64 (dgL a b 1), .int .i64 (dgL a b 2), .int .i64 (dgL a b 3), .int .i64 (dgL a b 4), .int .i64 (dgL a b 5)]) (by simp [results, Try.results20, go_sem, t0, t1, t2, t3, t4, t5, t6]) rfl ⟨rfl, ?_⟩
  exact bset (bset (bset (bset (bset (bset (bset (bset HB.out _ _ _ (by omega)) _ _ _ (by omega)) _ _ _ (by omega)) _ _ _ (by omega)) _ _ _ (by omega)) _ _ _ (by omega)) _ _ _ (by omega)) _ _ _ (by omega)

set_option maxHeartbeats 4000000 in
theorem add_diff_lt_n (m n : Bool) (a b : Nat → Int) (w : World) (ha : Dig a) (hb : Dig b) (hmn : (m == n) = false) (hs : sgnV a b < 0) (hz : zB (dgL b a) = false) :
    Calls Try.prog 20 #[.agg #[.bool m, .int .i64 (a 0), .int .i64 (a 1), .int .i64 (a 2), .int .i64 (a 3), .int .i64 (a 4), .int .i64 (a 5)], .agg #[.bool n, .int .i64 (b 0), .int .i64 (b 1), .int .i64 (b 2), .int .i64 (b 3), .int .i64 (b 4), .int .i64 (b 5)]] w fun e w' => e = .returned (.agg #[.bool n, .int .i64 (dgL b a 0), .int .i64 (dgL b a 1), .int .i64 (dgL b a 2), .int .i64 (dgL b a 3), .int .i64 (dgL b a 4), .int .i64 (dgL b a 5)]) ∧ Below w.heap.size w w' := by
  have HL : Hid (∀ w, Calls Try.prog 41 #[.agg #[.bool n, .int .i64 (b 0), .int .i64 (b 1), .int .i64 (b 2), .int .i64 (b 3), .int .i64 (b 4), .int .i64 (b 5)], .agg #[.bool m, .int .i64 (a 0), .int .i64 (a 1), .int .i64 (a 2), .int .i64 (a 3), .int .i64 (a 4), .int .i64 (a 5)]] w fun e w' => e = .returned (.agg #[.bool n, .int .i64 (dgL b a 0), .int .i64 (dgL b a 1), .int .i64 (dgL b a 2), .int .i64 (dgL b a 3), .int .i64 (dgL b a 4), .int .i64 (dgL b a 5)]) ∧ Below w.heap.size w w') := fun w => rless_any n m b a w hb ha
  have HS : Hid (∀ w, Calls Try.prog 40 #[.agg #[.bool m, .int .i64 (a 0), .int .i64 (a 1), .int .i64 (a 2), .int .i64 (a 3), .int .i64 (a 4), .int .i64 (a 5)], .agg #[.bool n, .int .i64 (b 0), .int .i64 (b 1), .int .i64 (b 2), .int .i64 (b 3), .int .i64 (b 4), .int .i64 (b 5)]] w fun e w' => e = .returned (.int .i64 (sgnV a b)) ∧ Below w.heap.size w w') := fun w => rsize_any m n a b w ha hb
  have HZ : Hid (∀ w, Calls Try.prog 42 #[.agg #[.bool n, .int .i64 (dgL b a 0), .int .i64 (dgL b a 1), .int .i64 (dgL b a 2), .int .i64 (dgL b a 3), .int .i64 (dgL b a 4), .int .i64 (dgL b a 5)]] w fun e w' => e = .returned (.bool false) ∧ Below w.heap.size w w') := fun w => by rw [← hz]; exact bzero_any n (dgL b a) w
  have A0 : BigAt (((w.alloc (.cells #[.bool m, .int .i64 (a 0), .int .i64 (a 1), .int .i64 (a 2), .int .i64 (a 3), .int .i64 (a 4), .int .i64 (a 5)] 71)).alloc (.cells #[.bool n, .int .i64 (b 0), .int .i64 (b 1), .int .i64 (b 2), .int .i64 (b 3), .int .i64 (b 4), .int .i64 (b 5)] 71)).alloc (.cells #[.bool false, .int .i64 0, .int .i64 0, .int .i64 0, .int .i64 0, .int .i64 0, .int .i64 0] 71)) w.heap.size m a := bigAt_of (by simp [go_sem]) (by simp [go_sem]) (by simp [go_sem]) (by simp [go_sem]) (by simp [go_sem]) (by simp [go_sem]) (by simp [go_sem]) (fun j => by simp [go_sem])
  have B0 : BigAt (((w.alloc (.cells #[.bool m, .int .i64 (a 0), .int .i64 (a 1), .int .i64 (a 2), .int .i64 (a 3), .int .i64 (a 4), .int .i64 (a 5)] 71)).alloc (.cells #[.bool n, .int .i64 (b 0), .int .i64 (b 1), .int .i64 (b 2), .int .i64 (b 3), .int .i64 (b 4), .int .i64 (b 5)] 71)).alloc (.cells #[.bool false, .int .i64 0, .int .i64 0, .int .i64 0, .int .i64 0, .int .i64 0, .int .i64 0] 71)) (w.heap.size + 1) n b := bigAt_of (by simp [go_sem]) (by simp [go_sem]) (by simp [go_sem]) (by simp [go_sem]) (by simp [go_sem]) (by simp [go_sem]) (by simp [go_sem]) (fun j => by simp [go_sem])
  have R0 : BigAt (((w.alloc (.cells #[.bool m, .int .i64 (a 0), .int .i64 (a 1), .int .i64 (a 2), .int .i64 (a 3), .int .i64 (a 4), .int .i64 (a 5)] 71)).alloc (.cells #[.bool n, .int .i64 (b 0), .int .i64 (b 1), .int .i64 (b 2), .int .i64 (b 3), .int .i64 (b 4), .int .i64 (b 5)] 71)).alloc (.cells #[.bool false, .int .i64 0, .int .i64 0, .int .i64 0, .int .i64 0, .int .i64 0, .int .i64 0] 71)) (w.heap.size + 1 + 1) false (fun _ => 0) := bigAt_of (by simp [go_sem]) (by simp [go_sem]) (by simp [go_sem]) (by simp [go_sem]) (by simp [go_sem]) (by simp [go_sem]) (by simp [go_sem]) (fun j => by simp [go_sem])
  have W0b : Below w.heap.size w (((w.alloc (.cells #[.bool m, .int .i64 (a 0), .int .i64 (a 1), .int .i64 (a 2), .int .i64 (a 3), .int .i64 (a 4), .int .i64 (a 5)] 71)).alloc (.cells #[.bool n, .int .i64 (b 0), .int .i64 (b 1), .int .i64 (b 2), .int .i64 (b 3), .int .i64 (b 4), .int .i64 (b 5)] 71)).alloc (.cells #[.bool false, .int .i64 0, .int .i64 0, .int .i64 0, .int .i64 0, .int .i64 0, .int .i64 0] 71)) := ((((Below.refl _ w).alloc (Nat.le_refl _) _).alloc (by simp) _).alloc (by simp; omega) _)
  have HA : Hid (BigAt (((w.alloc (.cells #[.bool m, .int .i64 (a 0), .int .i64 (a 1), .int .i64 (a 2), .int .i64 (a 3), .int .i64 (a 4), .int .i64 (a 5)] 71)).alloc (.cells #[.bool n, .int .i64 (b 0), .int .i64 (b 1), .int .i64 (b 2), .int .i64 (b 3), .int .i64 (b 4), .int .i64 (b 5)] 71)).alloc (.cells #[.bool false, .int .i64 0, .int .i64 0, .int .i64 0, .int .i64 0, .int .i64 0, .int .i64 0] 71)) w.heap.size m a ∧ BigAt (((w.alloc (.cells #[.bool m, .int .i64 (a 0), .int .i64 (a 1), .int .i64 (a 2), .int .i64 (a 3), .int .i64 (a 4), .int .i64 (a 5)] 71)).alloc (.cells #[.bool n, .int .i64 (b 0), .int .i64 (b 1), .int .i64 (b 2), .int .i64 (b 3), .int .i64 (b 4), .int .i64 (b 5)] 71)).alloc (.cells #[.bool false, .int .i64 0, .int .i64 0, .int .i64 0, .int .i64 0, .int .i64 0, .int .i64 0] 71)) (w.heap.size + 1) n b ∧ BigAt (((w.alloc (.cells #[.bool m, .int .i64 (a 0), .int .i64 (a 1), .int .i64 (a 2), .int .i64 (a 3), .int .i64 (a 4), .int .i64 (a 5)] 71)).alloc (.cells #[.bool n, .int .i64 (b 0), .int .i64 (b 1), .int .i64 (b 2), .int .i64 (b 3), .int .i64 (b 4), .int .i64 (b 5)] 71)).alloc (.cells #[.bool false, .int .i64 0, .int .i64 0, .int .i64 0, .int .i64 0, .int .i64 0, .int .i64 0] 71)) (w.heap.size + 1 + 1) false (fun _ => 0) ∧ Below w.heap.size w (((w.alloc (.cells #[.bool m, .int .i64 (a 0), .int .i64 (a 1), .int .i64 (a 2), .int .i64 (a 3), .int .i64 (a 4), .int .i64 (a 5)] 71)).alloc (.cells #[.bool n, .int .i64 (b 0), .int .i64 (b 1), .int .i64 (b 2), .int .i64 (b 3), .int .i64 (b 4), .int .i64 (b 5)] 71)).alloc (.cells #[.bool false, .int .i64 0, .int .i64 0, .int .i64 0, .int .i64 0, .int .i64 0, .int .i64 0] 71))) := ⟨A0, B0, R0, W0b⟩
  clear A0 B0 R0 W0b
  clear ha hb hz
  go_enter Try.func20, Try.ntmps20
  go_wp2_with fail
  refine Calls.mono (HS.out _) ?_
  rintro e w1 ⟨rfl, hb⟩
  have hA := HA.out.1.below hb
  have hB := HA.out.2.1.below hb
  have hR := HA.out.2.2.1.below hb
  have HB1 : Hid (Below w.heap.size w w1) := HA.out.2.2.2.trans (hb.mono HA.out.2.2.2.size)
  have HR1 : Hid (BigAt w1 (w.heap.size + 1 + 1) false (fun _ => 0)) := hR
  have hAf := hA.f
  have hBf := hB.f
  have s0 := hA.s
  have e0 : w1.cell? ⟨w.heap.size, 1, none⟩ = some (.int .i64 (a 0)) := hA.c 0 (by omega)
  have e1 : w1.cell? ⟨w.heap.size, 2, none⟩ = some (.int .i64 (a 1)) := hA.c 1 (by omega)
  have e2 : w1.cell? ⟨w.heap.size, 3, none⟩ = some (.int .i64 (a 2)) := hA.c 2 (by omega)
  have e3 : w1.cell? ⟨w.heap.size, 4, none⟩ = some (.int .i64 (a 3)) := hA.c 3 (by omega)
  have e4 : w1.cell? ⟨w.heap.size, 5, none⟩ = some (.int .i64 (a 4)) := hA.c 4 (by omega)
  have e5 : w1.cell? ⟨w.heap.size, 6, none⟩ = some (.int .i64 (a 5)) := hA.c 5 (by omega)
  have s1 := hB.s
  have f0 : w1.cell? ⟨w.heap.size + 1, 1, none⟩ = some (.int .i64 (b 0)) := hB.c 0 (by omega)
  have f1 : w1.cell? ⟨w.heap.size + 1, 2, none⟩ = some (.int .i64 (b 1)) := hB.c 1 (by omega)
  have f2 : w1.cell? ⟨w.heap.size + 1, 3, none⟩ = some (.int .i64 (b 2)) := hB.c 2 (by omega)
  have f3 : w1.cell? ⟨w.heap.size + 1, 4, none⟩ = some (.int .i64 (b 3)) := hB.c 3 (by omega)
  have f4 : w1.cell? ⟨w.heap.size + 1, 5, none⟩ = some (.int .i64 (b 4)) := hB.c 4 (by omega)
  have f5 : w1.cell? ⟨w.heap.size + 1, 6, none⟩ = some (.int .i64 (b 5)) := hB.c 5 (by omega)
  clear hA hB hR hb HA HS
  go_wp2_with fail
  refine Calls.mono (HL.out _) ?_
  rintro e w2 ⟨rfl, hb⟩
  have hR2 : BigAt w2 (w.heap.size + 1 + 1) false (fun _ => 0) := ((HR1.out.other7 (by omega) _ _ _ _ _ _ _).other7 (by omega) _ _ _ _ _ _ _).below hb
  have HR2 : Hid (BigAt (w2.alloc (.cells #[.bool n, .int .i64 (dgL b a 0), .int .i64 (dgL b a 1), .int .i64 (dgL b a 2), .int .i64 (dgL b a 3), .int .i64 (dgL b a 4), .int .i64 (dgL b a 5)] 71)) (w.heap.size + 1 + 1) false (fun _ => 0)) := hR2.below ((Below.refl _ w2).alloc (Nat.le_refl _) _)
  have HC2 : Hid (BigAt (w2.alloc (.cells #[.bool n, .int .i64 (dgL b a 0), .int .i64 (dgL b a 1), .int .i64 (dgL b a 2), .int .i64 (dgL b a 3), .int .i64 (dgL b a 4), .int .i64 (dgL b a 5)] 71)) w2.heap.size n (dgL b a)) := bigAt_of (by simp [go_sem]) (by simp [go_sem]) (by simp [go_sem]) (by simp [go_sem]) (by simp [go_sem]) (by simp [go_sem]) (by simp [go_sem]) (fun j => by simp [go_sem])
  have hlt : w.heap.size + 1 + 1 < w2.heap.size := hR2.lt
  have HB2 : Hid (Below w.heap.size w (w2.alloc (.cells #[.bool n, .int .i64 (dgL b a 0), .int .i64 (dgL b a 1), .int .i64 (dgL b a 2), .int .i64 (dgL b a 3), .int .i64 (dgL b a 4), .int .i64 (dgL b a 5)] 71))) := by
    have k : Below w.heap.size w w2 := (bset7 (bset7 HB1.out w.heap.size _ _ _ _ _ _ _ (Nat.le_refl _)) (w.heap.size + 1) _ _ _ _ _ _ _ (by omega)).trans (hb.mono (by have := HB1.out.size; simp; omega))
    exact k.alloc k.size _
  clear hb hR2 hAf hBf HR1 HB1 HL
  clear s0 s1 e0 e1 e2 e3 e4 e5 f0 f1 f2 f3 f4 f5
  go_wp2_with fail
  refine Calls.mono (HZ.out _) ?_
  rintro e w3 ⟨rfl, hb⟩
  have hC := HC2.out.below hb
  have hR := HR2.out.below hb
  have HB : Hid (Below w.heap.size w w3) := HB2.out.trans (hb.mono HB2.out.size)
  have cf := hC.f
  have s0 := hC.s
  have e0 : w3.cell? ⟨w2.heap.size, 1, none⟩ = some (.int .i64 (dgL b a 0)) := hC.c 0 (by omega)
  have e1 : w3.cell? ⟨w2.heap.size, 2, none⟩ = some (.int .i64 (dgL b a 1)) := hC.c 1 (by omega)
  have e2 : w3.cell? ⟨w2.heap.size, 3, none⟩ = some (.int .i64 (dgL b a 2)) := hC.c 2 (by omega)
  have e3 : w3.cell? ⟨w2.heap.size, 4, none⟩ = some (.int .i64 (dgL b a 3)) := hC.c 3 (by omega)
  have e4 : w3.cell? ⟨w2.heap.size, 5, none⟩ = some (.int .i64 (dgL b a 4)) := hC.c 4 (by omega)
  have e5 : w3.cell? ⟨w2.heap.size, 6, none⟩ = some (.int .i64 (dgL b a 5)) := hC.c 5 (by omega)
  have t0 := hR.s
  have t1 : w3.cell? ⟨w.heap.size + 1 + 1, 1, none⟩ = some (.int .i64 0) := hR.c 0 (by omega)
  have t2 : w3.cell? ⟨w.heap.size + 1 + 1, 2, none⟩ = some (.int .i64 0) := hR.c 1 (by omega)
  have t3 : w3.cell? ⟨w.heap.size + 1 + 1, 3, none⟩ = some (.int .i64 0) := hR.c 2 (by omega)
  have t4 : w3.cell? ⟨w.heap.size + 1 + 1, 4, none⟩ = some (.int .i64 0) := hR.c 3 (by omega)
  have t5 : w3.cell? ⟨w.heap.size + 1 + 1, 5, none⟩ = some (.int .i64 0) := hR.c 4 (by omega)
  have t6 : w3.cell? ⟨w.heap.size + 1 + 1, 6, none⟩ = some (.int .i64 0) := hR.c 5 (by omega)
  have tf := hR.f
  clear hC hR hb HC2 HR2 HB2 HZ
  go_wp2
  refine bodyPost_ret (v := .agg #[.bool n, .int .i64 (dgL b a 0), .int .i64 (dgL b a 1), .int .i64 (dgL b a 2), .int .i64 (dgL b a 3), .int .i64 (dgL b a 4), .int .i64 (dgL b a 5)]) (by simp [results, Try.results20, go_sem, t0, t1, t2, t3, t4, t5, t6]) rfl ⟨rfl, ?_⟩
  exact bset (bset (bset (bset (bset (bset (bset HB.out _ _ _ (by omega)) _ _ _ (by omega)) _ _ _ (by omega)) _ _ _ (by omega)) _ _ _ (by omega)) _ _ _ (by omega)) _ _ _ (by omega)

set_option maxHeartbeats 4000000 in
theorem add_diff_lt_z (m n : Bool) (a b : Nat → Int) (w : World) (ha : Dig a) (hb : Dig b) (hmn : (m == n) = false) (hs : sgnV a b < 0) (hz : zB (dgL b a) = true) :
    Calls Try.prog 20 #[.agg #[.bool m, .int .i64 (a 0), .int .i64 (a 1), .int .i64 (a 2), .int .i64 (a 3), .int .i64 (a 4), .int .i64 (a 5)], .agg #[.bool n, .int .i64 (b 0), .int .i64 (b 1), .int .i64 (b 2), .int .i64 (b 3), .int .i64 (b 4), .int .i64 (b 5)]] w fun e w' => e = .returned (.agg #[.bool false, .int .i64 (dgL b a 0), .int .i64 (dgL b a 1), .int .i64 (dgL b a 2), .int .i64 (dgL b a 3), .int .i64 (dgL b a 4), .int .i64 (dgL b a 5)]) ∧ Below w.heap.size w w' := by
  have HL : Hid (∀ w, Calls Try.prog 41 #[.agg #[.bool n, .int .i64 (b 0), .int .i64 (b 1), .int .i64 (b 2), .int .i64 (b 3), .int .i64 (b 4), .int .i64 (b 5)], .agg #[.bool m, .int .i64 (a 0), .int .i64 (a 1), .int .i64 (a 2), .int .i64 (a 3), .int .i64 (a 4), .int .i64 (a 5)]] w fun e w' => e = .returned (.agg #[.bool n, .int .i64 (dgL b a 0), .int .i64 (dgL b a 1), .int .i64 (dgL b a 2), .int .i64 (dgL b a 3), .int .i64 (dgL b a 4), .int .i64 (dgL b a 5)]) ∧ Below w.heap.size w w') := fun w => rless_any n m b a w hb ha
  have HS : Hid (∀ w, Calls Try.prog 40 #[.agg #[.bool m, .int .i64 (a 0), .int .i64 (a 1), .int .i64 (a 2), .int .i64 (a 3), .int .i64 (a 4), .int .i64 (a 5)], .agg #[.bool n, .int .i64 (b 0), .int .i64 (b 1), .int .i64 (b 2), .int .i64 (b 3), .int .i64 (b 4), .int .i64 (b 5)]] w fun e w' => e = .returned (.int .i64 (sgnV a b)) ∧ Below w.heap.size w w') := fun w => rsize_any m n a b w ha hb
  have HZ : Hid (∀ w, Calls Try.prog 42 #[.agg #[.bool n, .int .i64 (dgL b a 0), .int .i64 (dgL b a 1), .int .i64 (dgL b a 2), .int .i64 (dgL b a 3), .int .i64 (dgL b a 4), .int .i64 (dgL b a 5)]] w fun e w' => e = .returned (.bool true) ∧ Below w.heap.size w w') := fun w => by rw [← hz]; exact bzero_any n (dgL b a) w
  have A0 : BigAt (((w.alloc (.cells #[.bool m, .int .i64 (a 0), .int .i64 (a 1), .int .i64 (a 2), .int .i64 (a 3), .int .i64 (a 4), .int .i64 (a 5)] 71)).alloc (.cells #[.bool n, .int .i64 (b 0), .int .i64 (b 1), .int .i64 (b 2), .int .i64 (b 3), .int .i64 (b 4), .int .i64 (b 5)] 71)).alloc (.cells #[.bool false, .int .i64 0, .int .i64 0, .int .i64 0, .int .i64 0, .int .i64 0, .int .i64 0] 71)) w.heap.size m a := bigAt_of (by simp [go_sem]) (by simp [go_sem]) (by simp [go_sem]) (by simp [go_sem]) (by simp [go_sem]) (by simp [go_sem]) (by simp [go_sem]) (fun j => by simp [go_sem])
  have B0 : BigAt (((w.alloc (.cells #[.bool m, .int .i64 (a 0), .int .i64 (a 1), .int .i64 (a 2), .int .i64 (a 3), .int .i64 (a 4), .int .i64 (a 5)] 71)).alloc (.cells #[.bool n, .int .i64 (b 0), .int .i64 (b 1), .int .i64 (b 2), .int .i64 (b 3), .int .i64 (b 4), .int .i64 (b 5)] 71)).alloc (.cells #[.bool false, .int .i64 0, .int .i64 0, .int .i64 0, .int .i64 0, .int .i64 0, .int .i64 0] 71)) (w.heap.size + 1) n b := bigAt_of (by simp [go_sem]) (by simp [go_sem]) (by simp [go_sem]) (by simp [go_sem]) (by simp [go_sem]) (by simp [go_sem]) (by simp [go_sem]) (fun j => by simp [go_sem])
  have R0 : BigAt (((w.alloc (.cells #[.bool m, .int .i64 (a 0), .int .i64 (a 1), .int .i64 (a 2), .int .i64 (a 3), .int .i64 (a 4), .int .i64 (a 5)] 71)).alloc (.cells #[.bool n, .int .i64 (b 0), .int .i64 (b 1), .int .i64 (b 2), .int .i64 (b 3), .int .i64 (b 4), .int .i64 (b 5)] 71)).alloc (.cells #[.bool false, .int .i64 0, .int .i64 0, .int .i64 0, .int .i64 0, .int .i64 0, .int .i64 0] 71)) (w.heap.size + 1 + 1) false (fun _ => 0) := bigAt_of (by simp [go_sem]) (by simp [go_sem]) (by simp [go_sem]) (by simp [go_sem]) (by simp [go_sem]) (by simp [go_sem]) (by simp [go_sem]) (fun j => by simp [go_sem])
  have W0b : Below w.heap.size w (((w.alloc (.cells #[.bool m, .int .i64 (a 0), .int .i64 (a 1), .int .i64 (a 2), .int .i64 (a 3), .int .i64 (a 4), .int .i64 (a 5)] 71)).alloc (.cells #[.bool n, .int .i64 (b 0), .int .i64 (b 1), .int .i64 (b 2), .int .i64 (b 3), .int .i64 (b 4), .int .i64 (b 5)] 71)).alloc (.cells #[.bool false, .int .i64 0, .int .i64 0, .int .i64 0, .int .i64 0, .int .i64 0, .int .i64 0] 71)) := ((((Below.refl _ w).alloc (Nat.le_refl _) _).alloc (by simp) _).alloc (by simp; omega) _)
  have HA : Hid (BigAt (((w.alloc (.cells #[.bool m, .int .i64 (a 0), .int .i64 (a 1), .int .i64 (a 2), .int .i64 (a 3), .int .i64 (a 4), .int .i64 (a 5)] 71)).alloc (.cells #[.bool n, .int .i64 (b 0), .int .i64 (b 1), .int .i64 (b 2), .int .i64 (b 3), .int .i64 (b 4), .int .i64 (b 5)] 71)).alloc (.cells #[.bool false, .int .i64 0, .int .i64 0, .int .i64 0, .int .i64 0, .int .i64 0, .int .i64 0] 71)) w.heap.size m a ∧ BigAt (((w.alloc (.cells #[.bool m, .int .i64 (a 0), .int .i64 (a 1), .int .i64 (a 2), .int .i64 (a 3), .int .i64 (a 4), .int .i64 (a 5)] 71)).alloc (.cells #[.bool n, .int .i64 (b 0), .int .i64 (b 1), .int .i64 (b 2), .int .i64 (b 3), .int .i64 (b 4), .int .i64 (b 5)] 71)).alloc (.cells #[.bool false, .int .i64 0, .int .i64 0, .int .i64 0, .int .i64 0, .int .i64 0, .int .i64 0] 71)) (w.heap.size + 1) n b ∧ BigAt (((w.alloc (.cells #[.bool m, .int .i64 (a 0), .int .i64 (a 1), .int .i64 (a 2), .int .i64 (a 3), .int .i64 (a 4), .int .i64 (a 5)] 71)).alloc (.cells #[.bool n, .int .i64 (b 0), .int .i64 (b 1), .int .i64 (b 2), .int .i64 (b 3), .int .i64 (b 4), .int .i64 (b 5)] 71)).alloc (.cells #[.bool false, .int .i64 0, .int .i64 0, .int .i64 0, .int .i64 0, .int .i64 0, .int .i64 0] 71)) (w.heap.size + 1 + 1) false (fun _ => 0) ∧ Below w.heap.size w (((w.alloc (.cells #[.bool m, .int .i64 (a 0), .int .i64 (a 1), .int .i64 (a 2), .int .i64 (a 3), .int .i64 (a 4), .int .i64 (a 5)] 71)).alloc (.cells #[.bool n, .int .i64 (b 0), .int .i64 (b 1), .int .i64 (b 2), .int .i64 (b 3), .int .i64 (b 4), .int .i64 (b 5)] 71)).alloc (.cells #[.bool false, .int .i64 0, .int .i64 0, .int .i64 0, .int .i64 0, .int .i64 0, .int .i64 0] 71))) := ⟨A0, B0, R0, W0b⟩
  clear A0 B0 R0 W0b
  clear ha hb hz
  go_enter Try.func20, Try.ntmps20
  go_wp2_with fail
  refine Calls.mono (HS.out _) ?_
  rintro e w1 ⟨rfl, hb⟩
  have hA := HA.out.1.below hb
  have hB := HA.out.2.1.below hb
  have hR := HA.out.2.2.1.below hb
  have HB1 : Hid (Below w.heap.size w w1) := HA.out.2.2.2.trans (hb.mono HA.out.2.2.2.size)
  have HR1 : Hid (BigAt w1 (w.heap.size + 1 + 1) false (fun _ => 0)) := hR
  have hAf := hA.f
  have hBf := hB.f
  have s0 := hA.s
  have e0 : w1.cell? ⟨w.heap.size, 1, none⟩ = some (.int .i64 (a 0)) := hA.c 0 (by omega)
  have e1 : w1.cell? ⟨w.heap.size, 2, none⟩ = some (.int .i64 (a 1)) := hA.c 1 (by omega)
  have e2 : w1.cell? ⟨w.heap.size, 3, none⟩ = some (.int .i64 (a 2)) := hA.c 2 (by omega)
  have e3 : w1.cell? ⟨w.heap.size, 4, none⟩ = some (.int .i64 (a 3)) := hA.c 3 (by omega)
  have e4 : w1.cell? ⟨w.heap.size, 5, none⟩ = some (.int .i64 (a 4)) := hA.c 4 (by omega)
  have e5 : w1.cell? ⟨w.heap.size, 6, none⟩ = some (.int .i64 (a 5)) := hA.c 5 (by omega)
  have s1 := hB.s
  have f0 : w1.cell? ⟨w.heap.size + 1, 1, none⟩ = some (.int .i64 (b 0)) := hB.c 0 (by omega)
  have f1 : w1.cell? ⟨w.heap.size + 1, 2, none⟩ = some (.int .i64 (b 1)) := hB.c 1 (by omega)
  have f2 : w1.cell? ⟨w.heap.size + 1, 3, none⟩ = some (.int .i64 (b 2)) := hB.c 2 (by omega)
  have f3 : w1.cell? ⟨w.heap.size + 1, 4, none⟩ = some (.int .i64 (b 3)) := hB.c 3 (by omega)
  have f4 : w1.cell? ⟨w.heap.size + 1, 5, none⟩ = some (.int .i64 (b 4)) := hB.c 4 (by omega)
  have f5 : w1.cell? ⟨w.heap.size + 1, 6, none⟩ = some (.int .i64 (b 5)) := hB.c 5 (by omega)
  clear hA hB hR hb HA HS
  go_wp2_with fail
  refine Calls.mono (HL.out _) ?_
  rintro e w2 ⟨rfl, hb⟩
  have hR2 : BigAt w2 (w.heap.size + 1 + 1) false (fun _ => 0) := ((HR1.out.other7 (by omega) _ _ _ _ _ _ _).other7 (by omega) _ _ _ _ _ _ _).below hb
  have HR2 : Hid (BigAt (w2.alloc (.cells #[.bool n, .int .i64 (dgL b a 0), .int .i64 (dgL b a 1), .int .i64 (dgL b a 2), .int .i64 (dgL b a 3), .int .i64 (dgL b a 4), .int .i64 (dgL b a 5)] 71)) (w.heap.size + 1 + 1) false (fun _ => 0)) := hR2.below ((Below.refl _ w2).alloc (Nat.le_refl _) _)
  have HC2 : Hid (BigAt (w2.alloc (.cells #[.bool n, .int .i64 (dgL b a 0), .int .i64 (dgL b a 1), .int .i64 (dgL b a 2), .int .i64 (dgL b a 3), .int .i64 (dgL b a 4), .int .i64 (dgL b a 5)] 71)) w2.heap.size n (dgL b a)) := bigAt_of (by simp [go_sem]) (by simp [go_sem]) (by simp [go_sem]) (by simp [go_sem]) (by simp [go_sem]) (by simp [go_sem]) (by simp [go_sem]) (fun j => by simp [go_sem])
  have hlt : w.heap.size + 1 + 1 < w2.heap.size := hR2.lt
  have HB2 : Hid (Below w.heap.size w (w2.alloc (.cells #[.bool n, .int .i64 (dgL b a 0), .int .i64 (dgL b a 1), .int .i64 (dgL b a 2), .int .i64 (dgL b a 3), .int .i64 (dgL b a 4), .int .i64 (dgL b a 5)] 71))) := by
    have k : Below w.heap.size w w2 := (bset7 (bset7 HB1.out w.heap.size _ _ _ _ _ _ _ (Nat.le_refl _)) (w.heap.size + 1) _ _ _ _ _ _ _ (by omega)).trans (hb.mono (by have := HB1.out.size; simp; omega))
    exact k.alloc k.size _
  clear hb hR2 hAf hBf HR1 HB1 HL
  clear s0 s1 e0 e1 e2 e3 e4 e5 f0 f1 f2 f3 f4 f5
  go_wp2_with fail
  refine Calls.mono (HZ.out _) ?_
  rintro e w3 ⟨rfl, hb⟩
  have hC := HC2.out.below hb
  have hR := HR2.out.below hb
  have HB : Hid (Below w.heap.size w w3) := HB2.out.trans (hb.mono HB2.out.size)
  have cf := hC.f
  have s0 := hC.s
  have e0 : w3.cell? ⟨w2.heap.size, 1, none⟩ = some (.int .i64 (dgL b a 0)) := hC.c 0 (by omega)
  have e1 : w3.cell? ⟨w2.heap.size, 2, none⟩ = some (.int .i64 (dgL b a 1)) := hC.c 1 (by omega)
  have e2 : w3.cell? ⟨w2.heap.size, 3, none⟩ = some (.int .i64 (dgL b a 2)) := hC.c 2 (by omega)
  have e3 : w3.cell? ⟨w2.heap.size, 4, none⟩ = some (.int .i64 (dgL b a 3)) := hC.c 3 (by omega)
  have e4 : w3.cell? ⟨w2.heap.size, 5, none⟩ = some (.int .i64 (dgL b a 4)) := hC.c 4 (by omega)
  have e5 : w3.cell? ⟨w2.heap.size, 6, none⟩ = some (.int .i64 (dgL b a 5)) := hC.c 5 (by omega)
  have t0 := hR.s
  have t1 : w3.cell? ⟨w.heap.size + 1 + 1, 1, none⟩ = some (.int .i64 0) := hR.c 0 (by omega)
  have t2 : w3.cell? ⟨w.heap.size + 1 + 1, 2, none⟩ = some (.int .i64 0) := hR.c 1 (by omega)
  have t3 : w3.cell? ⟨w.heap.size + 1 + 1, 3, none⟩ = some (.int .i64 0) := hR.c 2 (by omega)
  have t4 : w3.cell? ⟨w.heap.size + 1 + 1, 4, none⟩ = some (.int .i64 0) := hR.c 3 (by omega)
  have t5 : w3.cell? ⟨w.heap.size + 1 + 1, 5, none⟩ = some (.int .i64 0) := hR.c 4 (by omega)
  have t6 : w3.cell? ⟨w.heap.size + 1 + 1, 6, none⟩ = some (.int .i64 0) := hR.c 5 (by omega)
  have tf := hR.f
  clear hC hR hb HC2 HR2 HB2 HZ
  go_wp2
  refine bodyPost_ret (v := .agg #[.bool false, .int .i64 (dgL b a 0), .int .i64 (dgL b a 1), .int .i64 (dgL b a 2), .int .i64 (dgL b a 3), .int .i64 (dgL b a 4), .int .i64 (dgL b a 5)]) (by simp [results, Try.results20, go_sem, t0, t1, t2, t3, t4, t5, t6]) rfl ⟨rfl, ?_⟩
  exact bset (bset (bset (bset (bset (bset (bset (bset HB.out _ _ _ (by omega)) _ _ _ (by omega)) _ _ _ (by omega)) _ _ _ (by omega)) _ _ _ (by omega)) _ _ _ (by omega)) _ _ _ (by omega)) _ _ _ (by omega)
end Go.Proofs.Ytgpophdlmibmgaa
