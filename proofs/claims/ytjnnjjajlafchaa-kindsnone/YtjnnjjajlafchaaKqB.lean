/- The contracts of kinds' Check, Range, Spec, of a nil and of a zero sheet. Conditions: none. -/
import Derived.Test.YtjnnjjajlafchaaKnN
import Derived.Test.YtjnnjjajlafchaaKqA
namespace Go.Proofs.Ytjnnjjajlafchaa
open Go.RowKit
set_option linter.unusedVariables false
set_option maxRecDepth 100000

set_option maxHeartbeats 400000 in
theorem check_nil (a : Option Addr) (n cap : Nat) (W : World) :
    Calls Try.prog 18 #[.pointer none, .slice a n cap] W fun e W' => e = .returned (.int .i64 1) ∧ W' = W := by
  go_enter Try.func18, Try.ntmps18
  go_wp2
  go_ret
  exact ⟨rfl, rfl⟩
set_option maxHeartbeats 400000 in
theorem check_zero (q : Nat) (a : Option Addr) (n cap : Nat) (W : World) (h : W.cell? ⟨q, 0, none⟩ = some (.pointer none)) :
    Calls Try.prog 18 #[.pointer (some ⟨q, 0, none⟩), .slice a n cap] W fun e W' => e = .returned (.int .i64 1) ∧ W' = W := by
  go_enter Try.func18, Try.ntmps18
  go_wp2
  go_ret
  exact ⟨rfl, rfl⟩
set_option maxHeartbeats 400000 in
theorem range_bad (p : Option Addr) (a : Option Addr) (n cap : Nat) (W : World) (h : Calls Try.prog 18 #[.pointer p, .slice a n cap] (W.alloc (.cells #[.int .i64 0, .int .i64 0] 25)) fun e W' => e = .returned (.int .i64 1) ∧ W' = (W.alloc (.cells #[.int .i64 0, .int .i64 0] 25))) :
    Calls Try.prog 17 #[.pointer p, .slice a n cap] W fun e W' => e = .returned (.tuple #[.agg #[.int .i64 0, .int .i64 0], .int .i64 1]) ∧ Below W.heap.size W W' := by
  go_enter Try.func17, Try.ntmps17
  go_wp2_with fail
  refine Calls.mono h ?_
  rintro e W1 ⟨rfl, rfl⟩
  go_wp2
  refine bodyPost_ret (v := .tuple #[.agg #[.int .i64 0, .int .i64 0], .int .i64 1]) (by simp [results, Try.results17, go_sem]) rfl ⟨rfl, ?_⟩
  exact (Below.refl _ _).alloc (Nat.le_refl _) _
theorem nil_sigs (W : World) : (binOp .eql 22 (.slice none 0 0) (.slice none 0 0)).run Try.prog W = .ok (.bool true) W := by kernel_rfl
theorem nil_props (W : World) : (binOp .eql 40 (.slice none 0 0) (.slice none 0 0)).run Try.prog W = .ok (.bool true) W := by kernel_rfl
set_option maxHeartbeats 400000 in
theorem cloneS_nil (W : World) : Calls Try.prog 32 #[.slice none 0 0] W fun e W' => e = .returned (.slice none 0 0) ∧ W' = W := by
  have hnil := nil_sigs
  go_enter Try.func32, Try.ntmps32
  go_wp2
  go_ret
  exact ⟨rfl, rfl⟩
set_option maxHeartbeats 400000 in
theorem cloneP_nil (W : World) : Calls Try.prog 33 #[.slice none 0 0] W fun e W' => e = .returned (.slice none 0 0) ∧ W' = W := by
  have hnil := nil_props
  go_enter Try.func33, Try.ntmps33
  go_wp2
  go_ret
  exact ⟨rfl, rfl⟩
/-- The zero specification. -/
def spec0 : Value := .agg #[.string ⟨#[]⟩, .int .i64 0, .int .i64 0, .slice none 0 0, .slice none 0 0]
set_option maxHeartbeats 400000 in
theorem spec_nil (W : World) : Calls Try.prog 19 #[.pointer none] W fun e W' => e = .returned (.agg #[.string ⟨#[]⟩, .int .i64 0, .int .i64 0, .slice none 0 0, .slice none 0 0]) ∧ Below W.heap.size W W' := by
  go_enter Try.func19, Try.ntmps19
  go_wp2
  refine bodyPost_ret (v := .agg #[.string ⟨#[]⟩, .int .i64 0, .int .i64 0, .slice none 0 0, .slice none 0 0]) (by simp [results, Try.results19, go_sem]) rfl ⟨rfl, ?_⟩
  exact (Below.refl _ _).alloc (Nat.le_refl _) _
/-- A zero sheet at q. -/
def Zero (W : World) (q : Nat) : Prop := W.cell? ⟨q, 0, none⟩ = some (.pointer none) ∧ W.cell? ⟨q, 1, none⟩ = some (.string ⟨#[]⟩) ∧ W.cell? ⟨q, 2, none⟩ = some (.int .i64 0) ∧ W.cell? ⟨q, 3, none⟩ = some (.int .i64 0) ∧ W.cell? ⟨q, 4, none⟩ = some (.slice none 0 0) ∧ W.cell? ⟨q, 5, none⟩ = some (.slice none 0 0)
theorem Zero.below {W W' : World} {q : Nat} (h : Zero W q) (k : Below W.heap.size W W') : Zero W' q :=
  ⟨cell_up k h.1, cell_up k h.2.1, cell_up k h.2.2.1, cell_up k h.2.2.2.1, cell_up k h.2.2.2.2.1, cell_up k h.2.2.2.2.2⟩
set_option maxHeartbeats 2000000 in
theorem spec_zero (q : Nat) (W : World) (h : Zero W q) : Calls Try.prog 19 #[.pointer (some ⟨q, 0, none⟩)] W fun e W' => e = .returned (.agg #[.string ⟨#[]⟩, .int .i64 0, .int .i64 0, .slice none 0 0, .slice none 0 0]) ∧ Below W.heap.size W W' := by
  have hlt : q < W.heap.size := World.block_lt_of_cell? W _ h.1
  have hz : Zero ((W.alloc (.cells #[.string ⟨#[]⟩, .int .i64 0, .int .i64 0, .slice none 0 0, .slice none 0 0] 42)).alloc (.cells #[.string ⟨#[]⟩, .int .i64 0, .int .i64 0, .slice none 0 0, .slice none 0 0] 42)) q := h.below (((Below.refl _ _).alloc (Nat.le_refl _) _).alloc (by simp) _)
  obtain ⟨z0, z1, z2, z3, z4, z5⟩ := h
  obtain ⟨y0, y1, y2, y3, y4, y5⟩ := hz
  have HB : Hid (Below W.heap.size W ((W.alloc (.cells #[.string ⟨#[]⟩, .int .i64 0, .int .i64 0, .slice none 0 0, .slice none 0 0] 42)).alloc (.cells #[.string ⟨#[]⟩, .int .i64 0, .int .i64 0, .slice none 0 0, .slice none 0 0] 42))) := ((Below.refl _ _).alloc (Nat.le_refl _) _).alloc (by simp) _
  go_enter Try.func19, Try.ntmps19
  go_wp2_with (first
    | (go_at_call 27; refine (all_nil _).mono ?_; rintro e w' ⟨rfl, hw9⟩; subst w')
    | (go_at_call 32; refine (cloneS_nil _).mono ?_; rintro e w' ⟨rfl, hw9⟩; subst w')
    | (go_at_call 33; refine (cloneP_nil _).mono ?_; rintro e w' ⟨rfl, hw9⟩; subst w'))
  go_loopw [30] (fun i wr => i = .int .i64 0 ∧ wr = ((W.alloc (.cells #[.string ⟨#[]⟩, .int .i64 0, .int .i64 0, .slice none 0 0, .slice none 0 0] 42)).alloc (.cells #[.string ⟨#[]⟩, .int .i64 0, .int .i64 0, .slice none 0 0, .slice none 0 0] 42))) (fun _ _ => 0)
  case atStart => exact ⟨rfl, rfl⟩
  case round =>
    obtain ⟨rfl, rfl⟩ := hrel
    go_wp2
    refine bodyPost_ret (v := .agg #[.string ⟨#[]⟩, .int .i64 0, .int .i64 0, .slice none 0 0, .slice none 0 0]) (by simp [results, Try.results19, go_sem]) rfl ⟨rfl, ?_⟩
    exact HB.out
end Go.Proofs.Ytjnnjjajlafchaa
