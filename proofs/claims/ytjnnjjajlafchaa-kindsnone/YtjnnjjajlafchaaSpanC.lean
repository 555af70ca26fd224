/- The contracts of span's Acc: Minus, products, Cross, Times, Plus. Conditions: the numbers' own ranges; of Plus at most 400000 spans. -/
import Derived.Test.YtjnnjjajlafchaaSpanB
namespace Go.Proofs.Ytjnnjjajlafchaa
open Go.RowKit
set_option linter.unusedVariables false
set_option maxRecDepth 100000

/-- An int. -/
def B64 (p : Int) : Prop := -9223372036854775808 ≤ p ∧ p ≤ 9223372036854775807
/-- How a method that tells a span ends. -/
def SpanSays (w : World) (b : Nat) (o : Bool) (W : World) (lo hi : Int) (ov : Bool) (e : Ending) (W' : World) : Prop := e = .returned ((.agg #[.int .i64 lo, .int .i64 hi])) ∧ Live w b W' (o || ov) ∧ Kept b W W'
theorem Kept.below {b : Nat} {x y z : World} (h : Kept b x y) (k : Below y.heap.size y z) : Kept b x z := h.trans (Kept.of_below k)
theorem Kept.cell {b : Nat} {x y : World} (h : Kept b x y) {g i : Nat} {v : Value} (hv : x.cell? ⟨g, i, none⟩ = some v) (hg : g ≠ b) : y.cell? ⟨g, i, none⟩ = some v := by
  have hlt : g < x.heap.size := World.block_lt_of_cell? x ⟨g, i, none⟩ hv
  rw [World.cell?_of_block (w := x) (a := ⟨g, i, none⟩) (h.block g hlt hg)]; exact hv
theorem Kept.frz {b : Nat} {x y : World} (h : Kept b x y) {g i : Nat} (hlt : g < x.heap.size) (hg : g ≠ b) : y.frozen? ⟨g, i, none⟩ = x.frozen? ⟨g, i, none⟩ :=
  World.frozen?_of_block (w := x) (a := ⟨g, i, none⟩) (h.block g hlt hg)
theorem Kept.set {b : Nat} {x y : World} (h : Kept b x y) (g i : Nat) (v : Value) (hg : x.heap.size ≤ g) : Kept b x (y.setCell ⟨g, i, none⟩ v) :=
  ⟨h.os, h.tape, h.output, by have := h.size; simpa using this, fun k hk hb => (Below.heap_setCell _ _ _ _ (by show k ≠ g; omega)).trans (h.block k hk hb)⟩
theorem Live.setOther {w W : World} {b : Nat} {o : Bool} (h : Live w b W o) (g i : Nat) (v : Value) (hg : b < g) : Live w b (W.setCell ⟨g, i, none⟩ v) o :=
  h.kept (Kept.setCell g W i v) (by omega) (by have := h.new; omega)
/-- A row of two spans that was just laid. -/
theorem row_two (W : World) (a b c d : Int) (g : Nat) (hg : g = W.heap.size) : SpanRow (W.alloc (.cells #[.int .i64 a, .int .i64 b, .int .i64 c, .int .i64 d] 25)) (some ⟨g, 0, none⟩) [(a, b), (c, d)] := by
  subst hg
  intro i hi
  refine ⟨W.heap.size, 0, rfl, ?_⟩
  match i, hi with
  | 0, _ => simp
  | 1, _ => simp
theorem anyEmpty_two (W : World) (a b c d : Int) (r : Bool) (hr : (decide (b < a) || decide (d < c)) = r) (g : Nat) (hg : g = W.heap.size) :
    Calls Try.prog 64 #[.slice (some ⟨g, 0, none⟩) 2 2] (W.alloc (.cells #[.int .i64 a, .int .i64 b, .int .i64 c, .int .i64 d] 25)) fun e w' => e = .returned (.bool r) ∧ Below W.heap.size W w' := by
  have h := anyEmpty_any (some ⟨g, 0, none⟩) [(a, b), (c, d)] 2 _ (row_two W a b c d g hg) (by simp)
  have e : anyE [(a, b), (c, d)] = r := by rw [← hr]; simp [anyE]
  rw [e] at h
  exact Calls.mono h fun e w' t => ⟨t.1, ((Below.refl _ W).alloc (Nat.le_refl _) _).trans (t.2.mono (by simp))⟩

theorem says_set {w W W2 : World} {v : Nat} {o : Bool} (l : Live w v W2 o) (k : Kept v W W2) (g : Nat) (hg : W.heap.size ≤ g) (x y : Value) (hv : v < W.heap.size) :
    Live w v ((W2.setCell ⟨g, 0, none⟩ x).setCell ⟨g, 1, none⟩ y) o ∧ Kept v W ((W2.setCell ⟨g, 0, none⟩ x).setCell ⟨g, 1, none⟩ y) :=
  ⟨(l.setOther g 0 x (by omega)).setOther g 1 y (by omega), (k.set g 0 x hg).set g 1 y hg⟩

end Go.Proofs.Ytjnnjjajlafchaa
