/- Quotients by one, by minus one, of nought, by itself: numbers; two Accs of the law's own. -/
import Derived.Test.YtapdnahjcadpeaaDoorDivF
import Derived.Test.YtapdnahjcadpeaaDoorSmall
import Derived.Deep.RegionHeld3
namespace Go.Proofs.YtapdnahjcadpeaaDoor
open Go.RowKit
set_option linter.unusedVariables false
set_option maxRecDepth 100000

theorem divF_one (x : Int) (up : Bool) : divF x 4294967296 up = x := by
  have h1 : numF x 4294967296 = x * 4294967296 := by
    unfold numF absF
    by_cases h : x < 0
    · rw [if_pos (by simp [h])]; omega
    · rw [if_neg (by simp; omega)]; omega
  have h2 : absF 4294967296 = 4294967296 := rfl
  unfold divF; rw [h1, h2]; split <;> omega
theorem divF_minus (x : Int) (up : Bool) : divF x (-4294967296) up = -x := by
  have h1 : numF x (-4294967296) = -x * 4294967296 := by
    unfold numF absF
    by_cases h : x < 0
    · rw [if_neg (by simp [h])]; omega
    · rw [if_pos (by simp; omega)]; omega
  have h2 : absF (-4294967296) = 4294967296 := rfl
  unfold divF; rw [h1, h2]; split <;> omega
theorem divF_zero (y : Int) (up : Bool) : divF 0 y up = 0 := by
  have h1 : numF 0 y = 0 := by unfold numF absF; split <;> rfl
  unfold divF; rw [h1]; split <;> simp
theorem divF_self (y : Int) (hy : y ≠ 0) (up : Bool) : divF y y up = 4294967296 := by
  have h1 : numF y y = absF y * 4294967296 := by unfold numF; rw [if_neg (by simp)]
  have h2 : absF y ≠ 0 := by unfold absF; omega
  unfold divF; rw [h1]
  split
  · rw [← Int.mul_neg, Int.mul_ediv_cancel_left _ h2]; rfl
  · rw [Int.mul_ediv_cancel_left _ h2]

/-- Two Accs of the law's own. -/
def Two (w : World) (A B : Nat) (W : World) (o p : Bool) : Prop := Live w A W o ∧ Live w B W p
theorem Two.drew {w W : World} {A B : Nat} {o p : Bool} (h : Two w A B W o p) : Two w A B W.drew o p := ⟨h.1.drew, h.2.drew⟩
theorem Two.left {w W : World} {A B : Nat} {o p : Bool} {v : Int} {e : Ending} {W' : World} (h : Two w A B W o p) (hn : A ≠ B) (s : Says w A o W v e W') : e = .returned (.int .i64 (clampF v)) ∧ Two w A B W' (o || overF v) p :=
  ⟨s.1, s.2.1, h.2.kept s.2.2 (Ne.symm hn) h.1.new⟩
theorem Two.right {w W : World} {A B : Nat} {o p : Bool} {v : Int} {e : Ending} {W' : World} (h : Two w A B W o p) (hn : A ≠ B) (s : Says w B p W v e W') : e = .returned (.int .i64 (clampF v)) ∧ Two w A B W' o (p || overF v) :=
  ⟨s.1, h.1.kept s.2.2 hn h.2.new, s.2.1⟩

end Go.Proofs.YtapdnahjcadpeaaDoor
