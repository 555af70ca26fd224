/- The contracts of tree's fitsN, fitsInterval. Conditions: none. -/
import Derived.Test.YtjnnjjajlafchaaKnF
namespace Go.Proofs.Ytjnnjjajlafchaa
open Go.RowKit
set_option linter.unusedVariables false
set_option maxRecDepth 100000

def fitsNB (op n : Int) : Bool :=
  if op = 0 ∨ op = 1 ∨ op = 2 then n == 0 else if op = 3 ∨ op = 7 ∨ op = 8 ∨ op = 9 then n == 1 else if op = 6 ∨ op = 10 then n == 2 else if op = 4 ∨ op = 5 then decide (2 ≤ n) else false
set_option maxHeartbeats 2000000 in
theorem fitsN_any (op n fr to num : Int) (tl tc : Nat) (ta : Option Addr) (w : World) :
    Calls Try.prog 80 #[.agg #[.int .i64 op, .int .i64 n, .int .i64 fr, .int .i64 to, .slice ta tl tc, .int .i64 num]] w fun e w' => e = .returned (.bool (fitsNB op n)) ∧ Below w.heap.size w w' := by
  by_cases h : op = 0 ∨ op = 1 ∨ op = 2 ∨ op = 3 ∨ op = 7 ∨ op = 8 ∨ op = 9 ∨ op = 6 ∨ op = 10 ∨ op = 4 ∨ op = 5
  · rcases h with rfl | rfl | rfl | rfl | rfl | rfl | rfl | rfl | rfl | rfl | rfl
    all_goals
      go_enter Try.func80, Try.ntmps80
      go_wp2
      go_ret
      exact ⟨ret_bool (by simp [fitsNB]), (Below.refl _ _).alloc (Nat.le_refl _) _⟩
  · have HE : Hid (fitsNB op n = false) := by
      show _ = _
      unfold fitsNB
      rw [if_neg (by omega), if_neg (by omega), if_neg (by omega), if_neg (by omega)]
    have k0 : (op == 0) = false := by simp; omega
    have k1 : (op == 1) = false := by simp; omega
    have k2 : (op == 2) = false := by simp; omega
    have k3 : (op == 3) = false := by simp; omega
    have k4 : (op == 4) = false := by simp; omega
    have k5 : (op == 5) = false := by simp; omega
    have k6 : (op == 6) = false := by simp; omega
    have k7 : (op == 7) = false := by simp; omega
    have k8 : (op == 8) = false := by simp; omega
    have k9 : (op == 9) = false := by simp; omega
    have k10 : (op == 10) = false := by simp; omega
    clear h
    go_enter Try.func80, Try.ntmps80
    go_wp2
    go_ret
    exact ⟨ret_bool HE.out.symm, (Below.refl _ _).alloc (Nat.le_refl _) _⟩
def fitsIB (op fr to : Int) : Bool := if op = 8 ∨ op = 9 ∨ op = 10 then isIntB fr && (isIntB to || to == -1) else fr == 0 && to == 0
set_option maxHeartbeats 2000000 in
theorem fitsI_any (op n fr to num : Int) (tl tc : Nat) (ta : Option Addr) (w : World) :
    Calls Try.prog 81 #[.agg #[.int .i64 op, .int .i64 n, .int .i64 fr, .int .i64 to, .slice ta tl tc, .int .i64 num]] w fun e w' => e = .returned (.bool (fitsIB op fr to)) ∧ Below w.heap.size w w' := by
  have HI : Hid (∀ x X, Calls Try.prog 88 #[.int .i64 x] X fun e w' => e = .returned (.bool (isIntB x)) ∧ w' = X) := isInt_any
  by_cases h : op = 8 ∨ op = 9 ∨ op = 10
  · have HE : Hid (fitsIB op fr to = (isIntB fr && (isIntB to || to == -1))) := by simp only [Hid, fitsIB]; rw [if_pos h]
    cases b1 : isIntB fr <;> cases b2 : isIntB to
    all_goals
      rw [b1, b2] at HE
      rcases h with rfl | rfl | rfl
      all_goals
        go_enter Try.func81, Try.ntmps81
        go_wp2_with (go_at_call 88; refine (HI.out _ _).mono ?_; rintro e w' ⟨rfl, hw9⟩; subst w')
        go_ret
        exact ⟨ret_bool (by rw [HE.out]; simp), (Below.refl _ _).alloc (Nat.le_refl _) _⟩
  · have HE : Hid (fitsIB op fr to = (fr == 0 && to == 0)) := by simp only [Hid, fitsIB]; rw [if_neg h]
    have k8 : (op == 8) = false := by simp; omega
    have k9 : (op == 9) = false := by simp; omega
    have k10 : (op == 10) = false := by simp; omega
    clear h
    cases b1 : (fr == 0)
    all_goals
      go_enter Try.func81, Try.ntmps81
      go_wp2
      go_ret
      exact ⟨ret_bool (by rw [HE.out]; simp [b1]), (Below.refl _ _).alloc (Nat.le_refl _) _⟩
end Go.Proofs.Ytjnnjjajlafchaa
