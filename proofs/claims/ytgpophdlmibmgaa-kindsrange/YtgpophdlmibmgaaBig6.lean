/- The document's own numbers by what they say: Neg, Of. Conditions: the numbers' own ranges. -/
import Derived.Test.YtgpophdlmibmgaaBig2
import Derived.Test.YtgpophdlmibmgaaBig3
import Derived.Test.YtgpophdlmibmgaaBig4
import Derived.Test.YtgpophdlmibmgaaBig5
namespace Go.Proofs.Ytgpophdlmibmgaa
open Go.RowKit
set_option linter.unusedVariables false
set_option maxRecDepth 100000

/-- What a sign and digits say. -/
def sv (m : Bool) (d : Nat → Int) : Int := if m = true then -(valD d 6) else valD d 6
/-- A value that says the number x; nought has no sign. -/
def IsBig (v : Value) (x : Int) : Prop := ∃ m d, v = .agg #[.bool m, .int .i64 (d 0), .int .i64 (d 1), .int .i64 (d 2), .int .i64 (d 3), .int .i64 (d 4), .int .i64 (d 5)] ∧ Dig d ∧ sv m d = x ∧ (m = true → x < 0)
theorem BigAt.lt {W : World} {g : Nat} {m : Bool} {d : Nat → Int} (h : BigAt W g m d) : g < W.heap.size := World.block_lt_of_cell? W ⟨g, 0, none⟩ h.s
theorem BigAt.below {W W' : World} {g : Nat} {m : Bool} {d : Nat → Int} (h : BigAt W g m d) (k : Below W.heap.size W W') : BigAt W' g m d :=
  ⟨cell_later k h.s, fun j hj => cell_later k (h.c j hj), fun j => (k.frozen (p := ⟨g, j, none⟩) h.lt).trans (h.f j)⟩
theorem zB_val {d : Nat → Int} (h : Dig d) : (zB d = true → valD d 6 = 0) ∧ (zB d = false → 0 < valD d 6) := by
  have h0 := h 0 (by omega); have h1 := h 1 (by omega); have h2 := h 2 (by omega); have h3 := h 3 (by omega); have h4 := h 4 (by omega); have h5 := h 5 (by omega)
  simp only [valD, zB]
  refine ⟨fun e => ?_, fun e => ?_⟩
  · simp only [Bool.and_eq_true, beq_iff_eq] at e
    obtain ⟨e0, e1, e2, e3, e4, e5⟩ := e
    rw [e0, e1, e2, e3, e4, e5]; rfl
  · have : ¬ (d 0 = 0 ∧ d 1 = 0 ∧ d 2 = 0 ∧ d 3 = 0 ∧ d 4 = 0 ∧ d 5 = 0) := fun ⟨e0, e1, e2, e3, e4, e5⟩ => by simp [e0, e1, e2, e3, e4, e5] at e
    simp only [show (4294967296 : Int) ^ 0 = 1 from rfl, show (4294967296 : Int) ^ 1 = 4294967296 from rfl, show (4294967296 : Int) ^ 2 = 18446744073709551616 from by decide, show (4294967296 : Int) ^ 3 = 79228162514264337593543950336 from by decide, show (4294967296 : Int) ^ 4 = 340282366920938463463374607431768211456 from by decide, show (4294967296 : Int) ^ 5 = 1461501637330902918203684832716283019655932542976 from by decide]
    omega

set_option maxHeartbeats 1000000 in
theorem bneg_zero (m : Bool) (d : Nat → Int) (w : World) (hz : zB d = true) :
    Calls Try.prog 64 #[.agg #[.bool m, .int .i64 (d 0), .int .i64 (d 1), .int .i64 (d 2), .int .i64 (d 3), .int .i64 (d 4), .int .i64 (d 5)]] w fun e w' => e = .returned (.agg #[.bool m, .int .i64 (d 0), .int .i64 (d 1), .int .i64 (d 2), .int .i64 (d 3), .int .i64 (d 4), .int .i64 (d 5)]) ∧ Below w.heap.size w w' := by
  have HZ : Hid (∀ w, Calls Try.prog 42 #[.agg #[.bool m, .int .i64 (d 0), .int .i64 (d 1), .int .i64 (d 2), .int .i64 (d 3), .int .i64 (d 4), .int .i64 (d 5)]] w fun e w' => e = .returned (.bool true) ∧ Below w.heap.size w w') := fun w => by rw [← hz]; exact bzero_any m d w
  have A0 : BigAt ((w.alloc (.cells #[.bool m, .int .i64 (d 0), .int .i64 (d 1), .int .i64 (d 2), .int .i64 (d 3), .int .i64 (d 4), .int .i64 (d 5)] 71)).alloc (.cells #[.bool false, .int .i64 0, .int .i64 0, .int .i64 0, .int .i64 0, .int .i64 0, .int .i64 0] 71)) w.heap.size m d := bigAt_of (by simp [go_sem]) (by simp [go_sem]) (by simp [go_sem]) (by simp [go_sem]) (by simp [go_sem]) (by simp [go_sem]) (by simp [go_sem]) (fun j => by simp [go_sem])
  have R0 : BigAt ((w.alloc (.cells #[.bool m, .int .i64 (d 0), .int .i64 (d 1), .int .i64 (d 2), .int .i64 (d 3), .int .i64 (d 4), .int .i64 (d 5)] 71)).alloc (.cells #[.bool false, .int .i64 0, .int .i64 0, .int .i64 0, .int .i64 0, .int .i64 0, .int .i64 0] 71)) (w.heap.size + 1) false (fun _ => 0) := bigAt_of (by simp [go_sem]) (by simp [go_sem]) (by simp [go_sem]) (by simp [go_sem]) (by simp [go_sem]) (by simp [go_sem]) (by simp [go_sem]) (fun j => by simp [go_sem])
  have HA : Hid (BigAt ((w.alloc (.cells #[.bool m, .int .i64 (d 0), .int .i64 (d 1), .int .i64 (d 2), .int .i64 (d 3), .int .i64 (d 4), .int .i64 (d 5)] 71)).alloc (.cells #[.bool false, .int .i64 0, .int .i64 0, .int .i64 0, .int .i64 0, .int .i64 0, .int .i64 0] 71)) w.heap.size m d ∧ BigAt ((w.alloc (.cells #[.bool m, .int .i64 (d 0), .int .i64 (d 1), .int .i64 (d 2), .int .i64 (d 3), .int .i64 (d 4), .int .i64 (d 5)] 71)).alloc (.cells #[.bool false, .int .i64 0, .int .i64 0, .int .i64 0, .int .i64 0, .int .i64 0, .int .i64 0] 71)) (w.heap.size + 1) false (fun _ => 0)) := ⟨A0, R0⟩
  clear A0 R0 hz
  go_enter Try.func64, Try.ntmps64
  go_wp2_with fail
  refine Calls.mono (HZ.out _) ?_
  rintro e w1 ⟨rfl, hb⟩
  have hA := HA.out.1.below hb
  have hR := HA.out.2.below hb
  have HB : Hid (Below w.heap.size w w1) := (((Below.refl _ w).alloc (Nat.le_refl _) _).alloc (by simp) _).trans (hb.mono (by simp; omega))
  have s0 := hA.s
  have e0 : w1.cell? ⟨w.heap.size, 1, none⟩ = some (.int .i64 (d 0)) := hA.c 0 (by omega)
  have e1 : w1.cell? ⟨w.heap.size, 2, none⟩ = some (.int .i64 (d 1)) := hA.c 1 (by omega)
  have e2 : w1.cell? ⟨w.heap.size, 3, none⟩ = some (.int .i64 (d 2)) := hA.c 2 (by omega)
  have e3 : w1.cell? ⟨w.heap.size, 4, none⟩ = some (.int .i64 (d 3)) := hA.c 3 (by omega)
  have e4 : w1.cell? ⟨w.heap.size, 5, none⟩ = some (.int .i64 (d 4)) := hA.c 4 (by omega)
  have e5 : w1.cell? ⟨w.heap.size, 6, none⟩ = some (.int .i64 (d 5)) := hA.c 5 (by omega)
  have t0 := hR.s
  have t1 : w1.cell? ⟨w.heap.size + 1, 1, none⟩ = some (.int .i64 0) := hR.c 0 (by omega)
  have t2 : w1.cell? ⟨w.heap.size + 1, 2, none⟩ = some (.int .i64 0) := hR.c 1 (by omega)
  have t3 : w1.cell? ⟨w.heap.size + 1, 3, none⟩ = some (.int .i64 0) := hR.c 2 (by omega)
  have t4 : w1.cell? ⟨w.heap.size + 1, 4, none⟩ = some (.int .i64 0) := hR.c 3 (by omega)
  have t5 : w1.cell? ⟨w.heap.size + 1, 5, none⟩ = some (.int .i64 0) := hR.c 4 (by omega)
  have t6 : w1.cell? ⟨w.heap.size + 1, 6, none⟩ = some (.int .i64 0) := hR.c 5 (by omega)
  have tf := hR.f
  have sf := hA.f
  clear hA hR hb HA HZ
  go_wp2
  refine bodyPost_ret (v := .agg #[.bool m, .int .i64 (d 0), .int .i64 (d 1), .int .i64 (d 2), .int .i64 (d 3), .int .i64 (d 4), .int .i64 (d 5)]) (by simp [results, Try.results64, go_sem, t0, t1, t2, t3, t4, t5, t6]) rfl ⟨rfl, ?_⟩
  exact bset (bset (bset (bset (bset (bset (bset HB.out _ _ _ (by omega)) _ _ _ (by omega)) _ _ _ (by omega)) _ _ _ (by omega)) _ _ _ (by omega)) _ _ _ (by omega)) _ _ _ (by omega)

set_option maxHeartbeats 1000000 in
theorem bneg_some (m : Bool) (d : Nat → Int) (w : World) (hz : zB d = false) :
    Calls Try.prog 64 #[.agg #[.bool m, .int .i64 (d 0), .int .i64 (d 1), .int .i64 (d 2), .int .i64 (d 3), .int .i64 (d 4), .int .i64 (d 5)]] w fun e w' => e = .returned (.agg #[.bool (!m), .int .i64 (d 0), .int .i64 (d 1), .int .i64 (d 2), .int .i64 (d 3), .int .i64 (d 4), .int .i64 (d 5)]) ∧ Below w.heap.size w w' := by
  have HZ : Hid (∀ w, Calls Try.prog 42 #[.agg #[.bool m, .int .i64 (d 0), .int .i64 (d 1), .int .i64 (d 2), .int .i64 (d 3), .int .i64 (d 4), .int .i64 (d 5)]] w fun e w' => e = .returned (.bool false) ∧ Below w.heap.size w w') := fun w => by rw [← hz]; exact bzero_any m d w
  have A0 : BigAt ((w.alloc (.cells #[.bool m, .int .i64 (d 0), .int .i64 (d 1), .int .i64 (d 2), .int .i64 (d 3), .int .i64 (d 4), .int .i64 (d 5)] 71)).alloc (.cells #[.bool false, .int .i64 0, .int .i64 0, .int .i64 0, .int .i64 0, .int .i64 0, .int .i64 0] 71)) w.heap.size m d := bigAt_of (by simp [go_sem]) (by simp [go_sem]) (by simp [go_sem]) (by simp [go_sem]) (by simp [go_sem]) (by simp [go_sem]) (by simp [go_sem]) (fun j => by simp [go_sem])
  have R0 : BigAt ((w.alloc (.cells #[.bool m, .int .i64 (d 0), .int .i64 (d 1), .int .i64 (d 2), .int .i64 (d 3), .int .i64 (d 4), .int .i64 (d 5)] 71)).alloc (.cells #[.bool false, .int .i64 0, .int .i64 0, .int .i64 0, .int .i64 0, .int .i64 0, .int .i64 0] 71)) (w.heap.size + 1) false (fun _ => 0) := bigAt_of (by simp [go_sem]) (by simp [go_sem]) (by simp [go_sem]) (by simp [go_sem]) (by simp [go_sem]) (by simp [go_sem]) (by simp [go_sem]) (fun j => by simp [go_sem])
  have HA : Hid (BigAt ((w.alloc (.cells #[.bool m, .int .i64 (d 0), .int .i64 (d 1), .int .i64 (d 2), .int .i64 (d 3), .int .i64 (d 4), .int .i64 (d 5)] 71)).alloc (.cells #[.bool false, .int .i64 0, .int .i64 0, .int .i64 0, .int .i64 0, .int .i64 0, .int .i64 0] 71)) w.heap.size m d ∧ BigAt ((w.alloc (.cells #[.bool m, .int .i64 (d 0), .int .i64 (d 1), .int .i64 (d 2), .int .i64 (d 3), .int .i64 (d 4), .int .i64 (d 5)] 71)).alloc (.cells #[.bool false, .int .i64 0, .int .i64 0, .int .i64 0, .int .i64 0, .int .i64 0, .int .i64 0] 71)) (w.heap.size + 1) false (fun _ => 0)) := ⟨A0, R0⟩
  clear A0 R0 hz
  go_enter Try.func64, Try.ntmps64
  go_wp2_with fail
  refine Calls.mono (HZ.out _) ?_
  rintro e w1 ⟨rfl, hb⟩
  have hA := HA.out.1.below hb
  have hR := HA.out.2.below hb
  have HB : Hid (Below w.heap.size w w1) := (((Below.refl _ w).alloc (Nat.le_refl _) _).alloc (by simp) _).trans (hb.mono (by simp; omega))
  have s0 := hA.s
  have e0 : w1.cell? ⟨w.heap.size, 1, none⟩ = some (.int .i64 (d 0)) := hA.c 0 (by omega)
  have e1 : w1.cell? ⟨w.heap.size, 2, none⟩ = some (.int .i64 (d 1)) := hA.c 1 (by omega)
  have e2 : w1.cell? ⟨w.heap.size, 3, none⟩ = some (.int .i64 (d 2)) := hA.c 2 (by omega)
  have e3 : w1.cell? ⟨w.heap.size, 4, none⟩ = some (.int .i64 (d 3)) := hA.c 3 (by omega)
  have e4 : w1.cell? ⟨w.heap.size, 5, none⟩ = some (.int .i64 (d 4)) := hA.c 4 (by omega)
  have e5 : w1.cell? ⟨w.heap.size, 6, none⟩ = some (.int .i64 (d 5)) := hA.c 5 (by omega)
  have t0 := hR.s
  have t1 : w1.cell? ⟨w.heap.size + 1, 1, none⟩ = some (.int .i64 0) := hR.c 0 (by omega)
  have t2 : w1.cell? ⟨w.heap.size + 1, 2, none⟩ = some (.int .i64 0) := hR.c 1 (by omega)
  have t3 : w1.cell? ⟨w.heap.size + 1, 3, none⟩ = some (.int .i64 0) := hR.c 2 (by omega)
  have t4 : w1.cell? ⟨w.heap.size + 1, 4, none⟩ = some (.int .i64 0) := hR.c 3 (by omega)
  have t5 : w1.cell? ⟨w.heap.size + 1, 5, none⟩ = some (.int .i64 0) := hR.c 4 (by omega)
  have t6 : w1.cell? ⟨w.heap.size + 1, 6, none⟩ = some (.int .i64 0) := hR.c 5 (by omega)
  have tf := hR.f
  have sf := hA.f
  clear hA hR hb HA HZ
  go_wp2
  refine bodyPost_ret (v := .agg #[.bool (!m), .int .i64 (d 0), .int .i64 (d 1), .int .i64 (d 2), .int .i64 (d 3), .int .i64 (d 4), .int .i64 (d 5)]) (by simp [results, Try.results64, go_sem, t0, t1, t2, t3, t4, t5, t6]) rfl ⟨rfl, ?_⟩
  exact bset (bset (bset (bset (bset (bset (bset (bset HB.out _ _ _ (by omega)) _ _ _ (by omega)) _ _ _ (by omega)) _ _ _ (by omega)) _ _ _ (by omega)) _ _ _ (by omega)) _ _ _ (by omega)) _ _ _ (by omega)

theorem bneg_any (v : Value) (x : Int) (w : World) (h : IsBig v x) :
    Calls Try.prog 64 #[v] w fun e w' => ∃ v', e = .returned v' ∧ IsBig v' (-x) ∧ Below w.heap.size w w' := by
  obtain ⟨m, d, rfl, hd, hx, hm⟩ := h
  cases hz : zB d with
  | true =>
    have h0 := (zB_val hd).1 hz
    have hx0 : x = 0 := by
      unfold sv at hx; rw [h0] at hx; cases m
      · simp at hx; omega
      · simp at hx; omega
    refine Calls.mono (bneg_zero m d w hz) fun e w' t => ⟨_, t.1, ⟨m, d, rfl, hd, ?_, ?_⟩, t.2⟩
    · unfold sv; rw [h0, hx0]; cases m <;> rfl
    · intro e; have := hm e; omega
  | false =>
    refine Calls.mono (bneg_some m d w hz) fun e w' t => ⟨_, t.1, ⟨!m, d, rfl, hd, ?_, ?_⟩, t.2⟩
    · unfold sv at *; cases m <;> simp at * <;> omega
    · intro e
      have := (zB_val hd).2 hz
      unfold sv at hx; cases m
      · simp at hx; omega
      · simp at e
end Go.Proofs.Ytgpophdlmibmgaa
