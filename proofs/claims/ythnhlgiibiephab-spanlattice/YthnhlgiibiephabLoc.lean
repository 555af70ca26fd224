/- A local of the law's own that holds a span, or nought yet. -/
import Derived.Test.YthnhlgiibiephabInv
namespace Go.Proofs.Ythnhlgiibiephab
open Go.RowKit
set_option linter.unusedVariables false
set_option maxRecDepth 100000

/-- Block g, laid behind the base, holds the span if it was stored (s), else nought. -/
structure Loc (B : Nat) (W : World) (g : Nat) (s : Bool) (lo hi : Int) : Prop where
  c0 : W.cell? ⟨g, 0, none⟩ = some (.int .i64 (if s = true then lo else 0))
  c1 : W.cell? ⟨g, 1, none⟩ = some (.int .i64 (if s = true then hi else 0))
  f0 : W.frozen? ⟨g, 0, none⟩ = false
  f1 : W.frozen? ⟨g, 1, none⟩ = false
  new : B ≤ g
theorem Loc.lt {B : Nat} {W : World} {g : Nat} {s : Bool} {lo hi : Int} (h : Loc B W g s lo hi) : g < W.heap.size := World.block_lt_of_cell? W ⟨g, 0, none⟩ h.c0
theorem Loc.below {B : Nat} {W W' : World} {g : Nat} {s : Bool} {lo hi : Int} (h : Loc B W g s lo hi) (k : Below W.heap.size W W') : Loc B W' g s lo hi :=
  ⟨cell_later k h.c0, cell_later k h.c1, (k.frozen (p := ⟨g, 0, none⟩) h.lt).trans h.f0, (k.frozen (p := ⟨g, 1, none⟩) h.lt).trans h.f1, h.new⟩
theorem Loc.kept {B : Nat} {W W' : World} {g v : Nat} {s : Bool} {lo hi : Int} (h : Loc B W g s lo hi) (k : Kept v W W') (hv : v < B) : Loc B W' g s lo hi := by
  have hg : g ≠ v := by have := h.new; omega
  exact ⟨k.cell h.c0 hg, k.cell h.c1 hg, (k.frz h.lt hg).trans h.f0, (k.frz h.lt hg).trans h.f1, h.new⟩
theorem Loc.fresh (B : Nat) (W : World) (lo hi : Int) (h : B ≤ W.heap.size) : Loc B (W.alloc (.cells #[.int .i64 0, .int .i64 0] 23)) W.heap.size false lo hi :=
  ⟨by simp, by simp, by simp, by simp, h⟩
theorem cell_far (W : World) (g h i j : Nat) (v : Value) (hn : g ≠ h) : (W.setCell ⟨h, j, none⟩ v).cell? ⟨g, i, none⟩ = W.cell? ⟨g, i, none⟩ :=
  World.cell?_of_block (w := W) (a := ⟨g, i, none⟩) (Below.heap_setCell _ _ _ _ hn)
theorem frz_far (W : World) (g h i j : Nat) (v : Value) (hn : g ≠ h) : (W.setCell ⟨h, j, none⟩ v).frozen? ⟨g, i, none⟩ = W.frozen? ⟨g, i, none⟩ :=
  World.frozen?_of_block (w := W) (a := ⟨g, i, none⟩) (Below.heap_setCell _ _ _ _ hn)
theorem Loc.other {B : Nat} {W : World} {g h : Nat} {s : Bool} {lo hi : Int} (k : Loc B W g s lo hi) (hn : g ≠ h) (x y : Value) : Loc B ((W.setCell ⟨h, 0, none⟩ x).setCell ⟨h, 1, none⟩ y) g s lo hi :=
  ⟨by rw [cell_far _ _ _ _ _ _ hn, cell_far _ _ _ _ _ _ hn]; exact k.c0, by rw [cell_far _ _ _ _ _ _ hn, cell_far _ _ _ _ _ _ hn]; exact k.c1, by rw [frz_far _ _ _ _ _ _ hn, frz_far _ _ _ _ _ _ hn]; exact k.f0, by rw [frz_far _ _ _ _ _ _ hn, frz_far _ _ _ _ _ _ hn]; exact k.f1, k.new⟩
theorem Loc.store {B : Nat} {W : World} {g : Nat} {s : Bool} {lo hi : Int} (k : Loc B W g s lo hi) : Loc B ((W.setCell ⟨g, 0, none⟩ (.int .i64 lo)).setCell ⟨g, 1, none⟩ (.int .i64 hi)) g true lo hi := by
  have h0 : (W.setCell ⟨g, 0, none⟩ (.int .i64 lo)).cell? ⟨g, 0, none⟩ = some (.int .i64 lo) := World.cell?_setCell_same _ _ _ k.c0
  have h1 : (W.setCell ⟨g, 0, none⟩ (.int .i64 lo)).cell? ⟨g, 1, none⟩ = some (.int .i64 (if s = true then hi else 0)) := by
    simp [go_sem, k.c1]
  exact ⟨by simp [go_sem, h0], by rw [World.cell?_setCell_same _ _ _ h1]; rfl, by simp [k.f0], by simp [k.f1], k.new⟩
theorem Kept2.set {b c : Nat} {x y : World} (h : Kept2 b c x y) (g : Nat) (p q : Value) (hg : x.heap.size ≤ g) : Kept2 b c x ((y.setCell ⟨g, 0, none⟩ p).setCell ⟨g, 1, none⟩ q) :=
  ⟨h.os, h.tape, h.output, by have := h.size; simpa using this, fun k hk hb hc => ((Below.heap_setCell _ _ _ _ (by show k ≠ g; omega)).trans (Below.heap_setCell _ _ _ _ (by show k ≠ g; omega))).trans (h.block k hk hb hc)⟩
theorem Live.set2 {w W : World} {b : Nat} {o : Bool} (h : Live w b W o) (g : Nat) (p q : Value) (hg : b < g) : Live w b ((W.setCell ⟨g, 0, none⟩ p).setCell ⟨g, 1, none⟩ q) o := (h.setOther g 0 p hg).setOther g 1 q hg
end Go.Proofs.Ythnhlgiibiephab
