/- The contracts of fix's Acc once more, of an Acc that the law itself made: what else the law made stays, what was there stays. Conditions: the numbers' own ranges. -/
import Derived.Test.YtipbjoeekbgnbaaMul
import Derived.Test.YtipbjoeekbgnbaaAdd
import Derived.Deep.RegionWith
import Derived.ChangeAlike
namespace Go.Proofs.Ytipbjoeekbgnbaa
open Go.RowKit
set_option linter.unusedVariables false
set_option maxRecDepth 100000

/-- Nothing that was there has turned but block b. -/
structure Kept (b : Nat) (W W' : World) : Prop where
  os : W'.os = W.os
  tape : W'.tape = W.tape
  output : W'.output = W.output
  size : W.heap.size ≤ W'.heap.size
  block : ∀ k, k < W.heap.size → k ≠ b → W'.heap[k]? = W.heap[k]?
theorem Kept.refl (b : Nat) (W : World) : Kept b W W := ⟨rfl, rfl, rfl, Nat.le_refl _, fun _ _ _ => rfl⟩
theorem Kept.trans {b : Nat} {x y z : World} (h : Kept b x y) (k : Kept b y z) : Kept b x z :=
  ⟨k.os.trans h.os, k.tape.trans h.tape, k.output.trans h.output, Nat.le_trans h.size k.size, fun i hi hb => (k.block i (Nat.lt_of_lt_of_le hi h.size) hb).trans (h.block i hi hb)⟩
theorem Kept.alloc (b : Nat) (W : World) (o : Obj) : Kept b W (W.alloc o) :=
  ⟨rfl, rfl, rfl, by simp, fun k hk _ => Below.heap_alloc _ _ _ hk⟩
theorem Kept.setCell (b : Nat) (W : World) (i : Nat) (v : Value) : Kept b W (W.setCell ⟨b, i, none⟩ v) :=
  ⟨rfl, rfl, rfl, by simp, fun k _ hb => Below.heap_setCell _ _ _ _ hb⟩
theorem Kept.of_below {b : Nat} {W W' : World} (h : Below W.heap.size W W') : Kept b W W' := ⟨h.os, h.tape, h.output, h.size, fun k hk _ => h.block k hk⟩
theorem Kept.drew (b : Nat) (W : World) : Kept b W W.drew := ⟨rfl, rfl, rfl, Nat.le_refl _, fun _ _ _ => rfl⟩

/-- An Acc of the law's own, at block b, that says o; what was there in w has not turned. -/
structure Live (w : World) (b : Nat) (W : World) (o : Bool) : Prop where
  cell : W.cell? ⟨b, 0, none⟩ = some (.bool o)
  frz : W.frozen? ⟨b, 0, none⟩ = false
  new : w.heap.size ≤ b
  old : b < W.heap.size
  below : Below w.heap.size w W
theorem Live.acc {w W : World} {b : Nat} {o : Bool} (h : Live w b W o) : AccIs W (some ⟨b, 0, none⟩) o := accIs_some h.cell h.frz
theorem Live.kept {w W W' : World} {b c : Nat} {o : Bool} (h : Live w b W o) (k : Kept c W W') (hc : b ≠ c) (hn : w.heap.size ≤ c) : Live w b W' o := by
  have hb := k.block b h.old hc
  refine ⟨?_, ?_, h.new, Nat.lt_of_lt_of_le h.old k.size, ?_⟩
  · rw [World.cell?_of_block (w := W) (a := ⟨b, 0, none⟩) hb]; exact h.cell
  · rw [World.frozen?_of_block (w := W) (a := ⟨b, 0, none⟩) hb]; exact h.frz
  · refine h.below.trans ⟨k.os, k.tape, k.output, k.size, fun i hi => k.block i ?_ ?_⟩
    · have := h.below.size; omega
    · omega
theorem Live.stays {w W W' : World} {b : Nat} {o : Bool} (h : Live w b W o) (k : Below W.heap.size W W') : Live w b W' o := by
  have hb := k.block b h.old
  refine ⟨?_, ?_, h.new, Nat.lt_of_lt_of_le h.old k.size, h.below.trans (k.mono h.below.size)⟩
  · rw [World.cell?_of_block (w := W) (a := ⟨b, 0, none⟩) hb]; exact h.cell
  · rw [World.frozen?_of_block (w := W) (a := ⟨b, 0, none⟩) hb]; exact h.frz
theorem Live.alloc {w W : World} {b : Nat} {o : Bool} (h : Live w b W o) (ob : Obj) : Live w b (W.alloc ob) o := h.stays ((Below.refl _ W).alloc (Nat.le_refl _) ob)
theorem Live.drew {w W : World} {b : Nat} {o : Bool} (h : Live w b W o) : Live w b W.drew o := h.stays (Below.refl _ W).drew
theorem Live.set {w W : World} {b : Nat} {o : Bool} (h : Live w b W o) (v : Bool) : Live w b (W.setCell ⟨b, 0, none⟩ (.bool v)) v :=
  ⟨World.cell?_setCell_same _ _ _ h.cell, by simp [h.frz], h.new, by simpa using h.old, h.below.setCell h.new _⟩
/-- How a method of such an Acc ends. -/
def Says (w : World) (b : Nat) (o : Bool) (W : World) (v : Int) (e : Ending) (W' : World) : Prop := e = .returned (.int .i64 (clampF v)) ∧ Live w b W' (o || overF v) ∧ Kept b W W'
theorem says_of {w W W0 W' : World} {b : Nat} {o : Bool} {v : Int} {e : Ending} (h : Live w b W o) (k : Kept b W0 W) (t : Tells W (some ⟨b, 0, none⟩) o v e W') : Says w b o W0 v e W' := by
  refine ⟨t.1, ?_, ?_⟩
  · rw [t.2]; exact h.set _
  · rw [t.2]; exact k.trans (Kept.setCell b W 0 _)

theorem not_i64 (y : Int) (y1 : -9223372036854775808 ≤ y) (y2 : y ≤ 9223372036854775807) : bits .xor .i64 (-1) y = -1 - y := by
  show IntKind.i64.wrap ((BitVec.ofInt 64 (-1) ^^^ BitVec.ofInt 64 y).toNat : Int) = _
  have h1 : BitVec.ofInt 64 (-1) = BitVec.allOnes 64 := by decide
  rw [h1, BitVec.allOnes_xor, BitVec.toNat_not, BitVec.toNat_ofInt, IntKind.wrap_i64]
  omega
theorem sub_sum (x y : Int) : sumL [x, -1 - y, 1] = x - y := by simp [sumL]; omega
end Go.Proofs.Ytipbjoeekbgnbaa
