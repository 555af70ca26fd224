/- Worlds: what has turned, slices of ints and of bytes. -/
import Derived.Test.YtkkgfbhngoijaaaDoorChecked
import Derived.WalkKit
import Derived.WalkSpells
import Derived.WalkLawsBesides
import Derived.Below
import Derived.OwnWalk
import Derived.BigRegion
import Derived.BigQuiet
import Derived.Deep.QuietTactic
import Derived.ChangeAlike
import Derived.Deep.OwnRows
import Derived.ProofKit
import Derived.RowKit
import Derived.Lib.ConvBytes
import Derived.Lib.Strings
import Derived.Lib.AppendStr
import Derived.Laws.BitsAllLaws
import Derived.Laws.Bits128
import Derived.Laws.IdiomStrings
namespace Go.Proofs.YtkkgfbhngoijaaaDoor
open Go.RowKit
set_option linter.unusedVariables false
set_option maxRecDepth 100000

theorem ret_int {k : IntKind} {a b : Int} (h : a = b) : Ending.returned (.int k a) = .returned (.int k b) := by rw [h]
theorem bounds_int {a : Int} (h : (Lit.int .i64 a).wf = true) : -9223372036854775808 ≤ a ∧ a ≤ 9223372036854775807 := by
  simpa [Lit.wf, IntKind.min, IntKind.max, IntKind.bits, IntKind.signed] using h
def B64 (p : Int) : Prop := -9223372036854775808 ≤ p ∧ p ≤ 9223372036854775807

/-- Nothing that was there has turned but the blocks of S. -/
structure Mod (S : List Nat) (W W' : World) : Prop where
  os : W'.os = W.os
  tape : W'.tape = W.tape
  output : W'.output = W.output
  size : W.heap.size ≤ W'.heap.size
  block : ∀ k, k < W.heap.size → k ∉ S → W'.heap[k]? = W.heap[k]?
theorem Mod.refl (S : List Nat) (W : World) : Mod S W W := ⟨rfl, rfl, rfl, Nat.le_refl _, fun _ _ _ => rfl⟩
theorem Mod.trans {S : List Nat} {x y z : World} (h : Mod S x y) (k : Mod S y z) : Mod S x z :=
  ⟨k.os.trans h.os, k.tape.trans h.tape, k.output.trans h.output, Nat.le_trans h.size k.size, fun i hi hb => (k.block i (Nat.lt_of_lt_of_le hi h.size) hb).trans (h.block i hi hb)⟩
theorem Mod.mono {S T : List Nat} {x y : World} (h : Mod S x y) (k : ∀ i, i ∈ S → i ∈ T) : Mod T x y :=
  ⟨h.os, h.tape, h.output, h.size, fun i hi hb => h.block i hi fun hs => hb (k i hs)⟩
theorem Mod.of_below {S : List Nat} {W W' : World} (h : Below W.heap.size W W') : Mod S W W' := ⟨h.os, h.tape, h.output, h.size, fun k hk _ => h.block k hk⟩
theorem Mod.setCell {S : List Nat} {x y : World} (h : Mod S x y) (b i : Nat) (v : Value) (hb : b ∈ S) : Mod S x (y.setCell ⟨b, i, none⟩ v) :=
  ⟨h.os, h.tape, h.output, by simpa using h.size, fun k hk hs => (Below.heap_setCell _ _ _ _ (fun e => hs (by rw [e]; exact hb))).trans (h.block k hk hs)⟩
theorem Mod.drew {S : List Nat} {x y : World} (h : Mod S x y) : Mod S x y.drew := ⟨h.os, h.tape, h.output, h.size, h.block⟩
theorem Mod.alloc {S : List Nat} {x y : World} (h : Mod S x y) (o : Obj) : Mod S x (y.alloc o) :=
  h.trans (Mod.of_below ((Below.refl _ y).alloc (Nat.le_refl _) o))
theorem Mod.cellEq {S : List Nat} {x y : World} (h : Mod S x y) {g i : Nat} (hl : g < x.heap.size) (hg : g ∉ S) : y.cell? ⟨g, i, none⟩ = x.cell? ⟨g, i, none⟩ :=
  World.cell?_of_block (w := x) (a := ⟨g, i, none⟩) (h.block g hl hg)
theorem Mod.cell {S : List Nat} {x y : World} (h : Mod S x y) {g i : Nat} {v : Value} (hv : x.cell? ⟨g, i, none⟩ = some v) (hg : g ∉ S) : y.cell? ⟨g, i, none⟩ = some v := by
  rw [h.cellEq (World.block_lt_of_cell? x ⟨g, i, none⟩ hv) hg]; exact hv
theorem Mod.frozen {S : List Nat} {x y : World} (h : Mod S x y) {g i : Nat} (hl : g < x.heap.size) (hg : g ∉ S) : y.frozen? ⟨g, i, none⟩ = x.frozen? ⟨g, i, none⟩ :=
  World.frozen?_of_block (w := x) (a := ⟨g, i, none⟩) (h.block g hl hg)
/-- Of worlds that grew from w on: what was there in w has not turned. -/
theorem Mod.below {S : List Nat} {w x y : World} (h : Mod S x y) (k : Below w.heap.size w x) (hS : ∀ i ∈ S, w.heap.size ≤ i) : Below w.heap.size w y :=
  k.trans ⟨h.os, h.tape, h.output, h.size, fun i hi => h.block i (Nat.lt_of_lt_of_le hi k.size) fun hs => by have := hS i hs; omega⟩

/-- A slice's numbers in memory. -/
def IntRow (w : World) (a : Option Addr) (zs : List Int) : Prop := ∀ i, i < zs.length → ∃ b off, a = some ⟨b, off, none⟩ ∧ w.cell? ⟨b, off + i, none⟩ = some (.int .i64 (zs.getD i 0))
/-- A slice does not lie in the blocks of S. -/
def Off (a : Option Addr) (S : List Nat) : Prop := ∀ x, a = some x → x.block ∉ S
theorem IntRow.mod {S : List Nat} {w w' : World} {a : Option Addr} {zs : List Int} (h : IntRow w a zs) (k : Mod S w w') (ho : Off a S) : IntRow w' a zs := by
  intro i hi
  obtain ⟨b, off, rfl, hc⟩ := h i hi
  exact ⟨b, off, rfl, k.cell hc (ho _ rfl)⟩
theorem IntRow.take {w : World} {a : Option Addr} {zs : List Int} (h : IntRow w a zs) (k : Nat) : IntRow w a (zs.take k) := by
  intro i hi
  rw [List.length_take] at hi
  obtain ⟨b, off, rfl, hc⟩ := h i (by omega)
  refine ⟨b, off, rfl, ?_⟩
  rw [hc, List.getD_eq_getElem?_getD, List.getD_eq_getElem?_getD, List.getElem?_take_of_lt (by omega)]
theorem IntRow.drop {w : World} {b off : Nat} {zs : List Int} (h : IntRow w (some ⟨b, off, none⟩) zs) (k : Nat) : IntRow w (some ⟨b, off + k, none⟩) (zs.drop k) := by
  intro i hi
  rw [List.length_drop] at hi
  obtain ⟨b', off', e, hc⟩ := h (k + i) (by omega)
  cases e
  refine ⟨b, off + k, rfl, ?_⟩
  rw [show off + k + i = off + (k + i) by omega, hc, List.getD_eq_getElem?_getD, List.getD_eq_getElem?_getD, List.getElem?_drop]

/-- Nothing but block b has turned. -/
structure Only (b : Nat) (w w' : World) : Prop where
  os : w'.os = w.os
  tape : w'.tape = w.tape
  output : w'.output = w.output
  size : w'.heap.size = w.heap.size
  block : ∀ k, k ≠ b → w'.heap[k]? = w.heap[k]?
  frz : ∀ a, w'.frozen? a = w.frozen? a
theorem Only.refl (b : Nat) (w : World) : Only b w w := ⟨rfl, rfl, rfl, rfl, fun _ _ => rfl, fun _ => rfl⟩
theorem Only.trans {b : Nat} {x y z : World} (h : Only b x y) (k : Only b y z) : Only b x z :=
  ⟨k.os.trans h.os, k.tape.trans h.tape, k.output.trans h.output, k.size.trans h.size, fun i hi => (k.block i hi).trans (h.block i hi), fun a => (k.frz a).trans (h.frz a)⟩
theorem Only.set {b : Nat} {w w' : World} (h : Only b w w') (o : Nat) (v : Value) : Only b w (w'.setCell ⟨b, o, none⟩ v) :=
  h.trans ⟨rfl, rfl, rfl, by simp, fun k hk => Below.heap_setCell _ _ _ _ hk, fun a => by simp⟩
theorem Only.below {b B : Nat} {w w' : World} (h : Only b w w') (hB : B ≤ b) : Below B w w' :=
  ⟨h.os, h.tape, h.output, by rw [h.size]; exact Nat.le_refl _, fun k hk => h.block k (by omega)⟩

/-- '[]byte(s)': a new row of the string's bytes; nothing old has turned. -/
theorem conv_bytes (w : World) (s : ByteArray) : ∃ (W : World) (cap : Nat), (convert 9 50 (.string s)).run Tryd.prog w = .ok (.slice (some ⟨w.heap.size, 0, none⟩) s.size cap) W ∧ Below w.heap.size w W ∧ W.heap.size = w.heap.size + 1 ∧
    (∀ j, j < s.size → W.cell? ⟨w.heap.size, j, none⟩ = some (.int .u8 (s.data.toList.getD j 0).toNat)) ∧ (∀ j, j < s.size → W.frozen? ⟨w.heap.size, j, none⟩ = false) := by
  refine ⟨_, _, Lib.run_convert_string_bytes (P := Tryd.prog) w 9 50 5 s Tryd.underlying9 Tryd.underlying50 Tryd.underlying5, ⟨?_, ?_, ?_, ?_, ?_⟩, Lib.bytesWorld_size w _ s, fun j hj => Lib.bytesWorld_cell w _ s j hj, fun j hj => ?_⟩
  · simp [Lib.bytesWorld, World.freeze, World.alloc, World.drew, -World.alloc_eq, -World.drew_eq]
  · simp [Lib.bytesWorld, World.freeze, World.alloc, World.drew, -World.alloc_eq, -World.drew_eq]
  · simp [Lib.bytesWorld, World.freeze, World.alloc, World.drew, -World.alloc_eq, -World.drew_eq]
  · rw [Lib.bytesWorld_size]; omega
  · intro k hk; exact Lib.bytesWorld_at_old w _ s k hk
  · simp only [World.frozen?, Lib.bytesWorld_at_new]
    have : s.size ≤ (Lib.bytesCells w 5 s).size := by simp [Lib.bytesCells]
    simp; omega

end Go.Proofs.YtkkgfbhngoijaaaDoor
