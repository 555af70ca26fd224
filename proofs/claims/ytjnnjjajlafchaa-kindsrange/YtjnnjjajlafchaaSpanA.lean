/- The contracts of span's small functions: Empty, Has, In, none, told, middle, Halves. Conditions: the numbers' own ranges. -/
import Derived.Test.YtjnnjjajlafchaaLiveB
import Derived.Test.YtjnnjjajlafchaaSpanM
import Derived.Outline
namespace Go.Proofs.Ytjnnjjajlafchaa
open Go.RowKit
set_option linter.unusedVariables false
set_option maxRecDepth 100000

theorem bcell {W w1 : World} (hb : Below W.heap.size W w1) : (∀ b o, b < W.heap.size → w1.cell? ⟨b, o, none⟩ = W.cell? ⟨b, o, none⟩) ∧ (∀ b o, b < W.heap.size → w1.frozen? ⟨b, o, none⟩ = W.frozen? ⟨b, o, none⟩) :=
  ⟨fun b o h => hb.cell (p := ⟨b, o, none⟩) h, fun b o h => hb.frozen (p := ⟨b, o, none⟩) h⟩

theorem below_set {B : Nat} {w W : World} (h : Below B w W) (b o : Nat) (v : Value) (hb : B ≤ b) : Below B w (W.setCell ⟨b, o, none⟩ v) := h.setCell hb v
set_option maxHeartbeats 400000 in
theorem sempty_any (lo hi : Int) (b : Bool) (w : World) (h : decide (hi < lo) = b) :
    Calls Try.prog 41 #[(.agg #[.int .i64 lo, .int .i64 hi])] w fun e w' => e = .returned (.bool b) ∧ Below w.heap.size w w' := by
  go_enter Try.func41, Try.ntmps41
  go_wp2
  go_ret
  exact ⟨rfl, (Below.refl _ _).alloc (Nat.le_refl _) _⟩
set_option maxHeartbeats 400000 in
theorem snone_any (w : World) :
    Calls Try.prog 65 #[] w fun e w' => e = .returned ((.agg #[.int .i64 (0), .int .i64 (-1)])) ∧ Below w.heap.size w w' := by
  go_enter Try.func65, Try.ntmps65
  go_wp2
  exact bodyPost_ret (v := (.agg #[.int .i64 (0), .int .i64 (-1)])) (by simp [results, Try.results65, go_sem]) rfl ⟨rfl, (Below.refl _ _).alloc (Nat.le_refl _) _⟩
/-- A span as it is told. -/
def toldLo (lo hi : Int) : Int := if hi < lo then 0 else lo
def toldHi (lo hi : Int) : Int := if hi < lo then -1 else hi
end Go.Proofs.Ytjnnjjajlafchaa
