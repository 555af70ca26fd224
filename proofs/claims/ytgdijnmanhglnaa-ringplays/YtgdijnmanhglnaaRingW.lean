/- Worlds: what has turned, slices of ints, a ring in memory. -/
import Derived.Test.YtgdijnmanhglnaaChecked
import Derived.Test.YtgdijnmanhglnaaRingM
import Derived.WalkKit
import Derived.WalkSpells
import Derived.WalkLawsBesides
import Derived.Below
import Derived.OwnWalk
import Derived.BigRegion
import Derived.BigQuiet
import Derived.Deep.QuietTactic
import Derived.ChangeAlike
import Derived.Deep.OwnRows
import Derived.ProofKit
namespace Go.Proofs.Ytgdijnmanhglnaa
open Go.RowKit
set_option linter.unusedVariables false
set_option maxRecDepth 100000

theorem ret_int {k : IntKind} {a b : Int} (h : a = b) : Ending.returned (.int k a) = .returned (.int k b) := by rw [h]
theorem bounds_int {a : Int} (h : (Lit.int .i64 a).wf = true) : -9223372036854775808 ≤ a ∧ a ≤ 9223372036854775807 := by
  simpa [Lit.wf, IntKind.min, IntKind.max, IntKind.bits, IntKind.signed] using h
def B64 (p : Int) : Prop := -9223372036854775808 ≤ p ∧ p ≤ 9223372036854775807

/-- Nothing that was there has turned but the blocks of S. -/
structure Mod (S : List Nat) (W W' : World) : Prop where
  os : W'.os = W.os
  tape : W'.tape = W.tape
  output : W'.output = W.output
  size : W.heap.size ≤ W'.heap.size
  block : ∀ k, k < W.heap.size → k ∉ S → W'.heap[k]? = W.heap[k]?
theorem Mod.refl (S : List Nat) (W : World) : Mod S W W := ⟨rfl, rfl, rfl, Nat.le_refl _, fun _ _ _ => rfl⟩
theorem Mod.trans {S : List Nat} {x y z : World} (h : Mod S x y) (k : Mod S y z) : Mod S x z :=
  ⟨k.os.trans h.os, k.tape.trans h.tape, k.output.trans h.output, Nat.le_trans h.size k.size, fun i hi hb => (k.block i (Nat.lt_of_lt_of_le hi h.size) hb).trans (h.block i hi hb)⟩
theorem Mod.mono {S T : List Nat} {x y : World} (h : Mod S x y) (k : ∀ i, i ∈ S → i ∈ T) : Mod T x y :=
  ⟨h.os, h.tape, h.output, h.size, fun i hi hb => h.block i hi fun hs => hb (k i hs)⟩
theorem Mod.of_below {S : List Nat} {W W' : World} (h : Below W.heap.size W W') : Mod S W W' := ⟨h.os, h.tape, h.output, h.size, fun k hk _ => h.block k hk⟩
theorem Mod.setCell {S : List Nat} {x y : World} (h : Mod S x y) (b i : Nat) (v : Value) (hb : b ∈ S) : Mod S x (y.setCell ⟨b, i, none⟩ v) :=
  ⟨h.os, h.tape, h.output, by simpa using h.size, fun k hk hs => (Below.heap_setCell _ _ _ _ (fun e => hs (by rw [e]; exact hb))).trans (h.block k hk hs)⟩
theorem Mod.drew {S : List Nat} {x y : World} (h : Mod S x y) : Mod S x y.drew := ⟨h.os, h.tape, h.output, h.size, h.block⟩
theorem Mod.alloc {S : List Nat} {x y : World} (h : Mod S x y) (o : Obj) : Mod S x (y.alloc o) :=
  h.trans (Mod.of_below ((Below.refl _ y).alloc (Nat.le_refl _) o))
theorem Mod.cellEq {S : List Nat} {x y : World} (h : Mod S x y) {g i : Nat} (hl : g < x.heap.size) (hg : g ∉ S) : y.cell? ⟨g, i, none⟩ = x.cell? ⟨g, i, none⟩ :=
  World.cell?_of_block (w := x) (a := ⟨g, i, none⟩) (h.block g hl hg)
theorem Mod.cell {S : List Nat} {x y : World} (h : Mod S x y) {g i : Nat} {v : Value} (hv : x.cell? ⟨g, i, none⟩ = some v) (hg : g ∉ S) : y.cell? ⟨g, i, none⟩ = some v := by
  rw [h.cellEq (World.block_lt_of_cell? x ⟨g, i, none⟩ hv) hg]; exact hv
theorem Mod.frozen {S : List Nat} {x y : World} (h : Mod S x y) {g i : Nat} (hl : g < x.heap.size) (hg : g ∉ S) : y.frozen? ⟨g, i, none⟩ = x.frozen? ⟨g, i, none⟩ :=
  World.frozen?_of_block (w := x) (a := ⟨g, i, none⟩) (h.block g hl hg)
/-- Of worlds that grew from w on: what was there in w has not turned. -/
theorem Mod.below {S : List Nat} {w x y : World} (h : Mod S x y) (k : Below w.heap.size w x) (hS : ∀ i ∈ S, w.heap.size ≤ i) : Below w.heap.size w y :=
  k.trans ⟨h.os, h.tape, h.output, h.size, fun i hi => h.block i (Nat.lt_of_lt_of_le hi k.size) fun hs => by have := hS i hs; omega⟩

/-- A slice's numbers in memory. -/
def IntRow (w : World) (a : Option Addr) (zs : List Int) : Prop := ∀ i, i < zs.length → ∃ b off, a = some ⟨b, off, none⟩ ∧ w.cell? ⟨b, off + i, none⟩ = some (.int .i64 (zs.getD i 0))
/-- A slice does not lie in the blocks of S. -/
def Off (a : Option Addr) (S : List Nat) : Prop := ∀ x, a = some x → x.block ∉ S
theorem IntRow.mod {S : List Nat} {w w' : World} {a : Option Addr} {zs : List Int} (h : IntRow w a zs) (k : Mod S w w') (ho : Off a S) : IntRow w' a zs := by
  intro i hi
  obtain ⟨b, off, rfl, hc⟩ := h i hi
  exact ⟨b, off, rfl, k.cell hc (ho _ rfl)⟩
theorem IntRow.take {w : World} {a : Option Addr} {zs : List Int} (h : IntRow w a zs) (k : Nat) : IntRow w a (zs.take k) := by
  intro i hi
  rw [List.length_take] at hi
  obtain ⟨b, off, rfl, hc⟩ := h i (by omega)
  refine ⟨b, off, rfl, ?_⟩
  rw [hc, List.getD_eq_getElem?_getD, List.getD_eq_getElem?_getD, List.getElem?_take_of_lt (by omega)]
theorem IntRow.drop {w : World} {b off : Nat} {zs : List Int} (h : IntRow w (some ⟨b, off, none⟩) zs) (k : Nat) : IntRow w (some ⟨b, off + k, none⟩) (zs.drop k) := by
  intro i hi
  rw [List.length_drop] at hi
  obtain ⟨b', off', e, hc⟩ := h (k + i) (by omega)
  cases e
  refine ⟨b, off + k, rfl, ?_⟩
  rw [show off + k + i = off + (k + i) by omega, hc, List.getD_eq_getElem?_getD, List.getD_eq_getElem?_getD, List.getElem?_drop]

/-- A ring in memory: its struct at block b, its cells at block g. -/
structure RingAt (W : World) (b g n last : Nat) (cs xs : List Int) : Prop where
  c0 : W.cell? ⟨b, 0, none⟩ = some (.slice (some ⟨g, 0, none⟩) n n)
  c1 : W.cell? ⟨b, 1, none⟩ = some (.int .i64 last)
  c2 : W.cell? ⟨b, 2, none⟩ = some (.int .i64 xs.length)
  f : ∀ i, W.frozen? ⟨b, i, none⟩ = false
  row : ∀ i, i < n → W.cell? ⟨g, i, none⟩ = some (.int .i64 (cs.getD i 0))
  fg : ∀ i, W.frozen? ⟨g, i, none⟩ = false
  ne : g ≠ b
  rel : ringRel n last cs xs
def RingIs (W : World) (b g n : Nat) (xs : List Int) : Prop := ∃ last cs, RingAt W b g n last cs xs
theorem RingIs.lt {W : World} {b g n : Nat} {xs : List Int} (h : RingIs W b g n xs) : b < W.heap.size ∧ g < W.heap.size := by
  obtain ⟨last, cs, h⟩ := h
  exact ⟨World.block_lt_of_cell? W _ h.c0, World.block_lt_of_cell? W _ (h.row last h.rel.2.1)⟩
theorem RingIs.mod {S : List Nat} {W W' : World} {b g n : Nat} {xs : List Int} (h : RingIs W b g n xs) (k : Mod S W W') (hb : b ∉ S) (hg : g ∉ S) : RingIs W' b g n xs := by
  obtain ⟨l1, l2⟩ := h.lt
  obtain ⟨last, cs, h⟩ := h
  exact ⟨last, cs, k.cell h.c0 hb, k.cell h.c1 hb, k.cell h.c2 hb, fun i => (k.frozen l1 hb).trans (h.f i), fun i hi => k.cell (h.row i hi) hg, fun i => (k.frozen l2 hg).trans (h.fg i), h.ne, h.rel⟩
theorem RingIs.below {W W' : World} {b g n : Nat} {xs : List Int} (h : RingIs W b g n xs) (k : Below W.heap.size W W') : RingIs W' b g n xs :=
  h.mod (S := []) (Mod.of_below k) (by simp) (by simp)
theorem RingIs.len {W : World} {b g n : Nat} {xs : List Int} (h : RingIs W b g n xs) : xs.length ≤ n := by
  obtain ⟨last, cs, h⟩ := h; exact h.rel.2.2.1
theorem cell_ob (W : World) (c j b i : Nat) (v : Value) (h : b ≠ c) : (W.setCell ⟨c, j, none⟩ v).cell? ⟨b, i, none⟩ = W.cell? ⟨b, i, none⟩ :=
  World.cell?_setCell_other _ _ _ _ (by intro e; rw [Addr.mk.injEq] at e; omega)
theorem cell_oo (W : World) (c j b i : Nat) (v : Value) (h : i ≠ j) : (W.setCell ⟨c, j, none⟩ v).cell? ⟨b, i, none⟩ = W.cell? ⟨b, i, none⟩ :=
  World.cell?_setCell_other _ _ _ _ (by intro e; rw [Addr.mk.injEq] at e; omega)
/-- A store of a number into a ring's cell. -/
theorem row_set {W : World} {g n : Nat} {cs : List Int} (hl : cs.length = n) (h : ∀ i, i < n → W.cell? ⟨g, i, none⟩ = some (.int .i64 (cs.getD i 0))) (m : Nat) (hm : m < n) (x : Int) (i : Nat) (hi : i < n) :
    (W.setCell ⟨g, m, none⟩ (.int .i64 x)).cell? ⟨g, i, none⟩ = some (.int .i64 ((cs.set m x).getD i 0)) := by
  rw [getD_set _ _ _ _ (by rw [hl]; exact hm)]
  by_cases e : i = m
  · subst e; rw [if_pos rfl]; exact World.cell?_setCell_same _ _ _ (h i hi)
  · rw [if_neg e, cell_oo _ _ _ _ _ _ e]; exact h i hi
theorem RingIs.drew {W : World} {b g n : Nat} {xs : List Int} (h : RingIs W b g n xs) : RingIs W.drew b g n xs :=
  h.mod (S := []) (Mod.refl _ W).drew (by simp) (by simp)
/-- What a push of one number leaves. -/
theorem RingAt.pushed {W : World} {b g n last : Nat} {cs xs : List Int} (h : RingAt W b g n last cs xs) (x v : Int) (hv : v = ((min (xs.length + 1) n : Nat) : Int)) :
    RingIs (((W.setCell ⟨b, 1, none⟩ (.int .i64 (nextR n last))).setCell ⟨g, nextR n last, none⟩ (.int .i64 x)).setCell ⟨b, 2, none⟩ (.int .i64 v)) b g n ((x :: xs).take n) := by
  subst hv
  have hm := nextR_lt h.rel.2.1
  have hne := h.ne
  have hne' : b ≠ g := fun e => hne e.symm
  have c0 := h.c0
  have c1 := h.c1
  have c2 := h.c2
  have hf := h.f
  have hg := h.fg
  refine ⟨nextR n last, cs.set (nextR n last) x, ?_, ?_, ?_, ?_, ?_, ?_, hne, ringRel_push h.rel x⟩
  · rw [cell_oo _ _ _ _ _ _ (by omega), cell_ob _ _ _ _ _ _ hne', cell_oo _ _ _ _ _ _ (by omega)]; exact c0
  · rw [cell_oo _ _ _ _ _ _ (by omega), cell_ob _ _ _ _ _ _ hne']; exact World.cell?_setCell_same _ _ _ c1
  · rw [take_step_len _ _ _ h.rel.2.2.1]
    have e : ((W.setCell ⟨b, 1, none⟩ (.int .i64 (nextR n last))).setCell ⟨g, nextR n last, none⟩ (.int .i64 x)).cell? ⟨b, 2, none⟩ = some (.int .i64 xs.length) := by
      rw [cell_ob _ _ _ _ _ _ hne', cell_oo _ _ _ _ _ _ (by omega)]; exact c2
    exact World.cell?_setCell_same _ _ _ e
  · intro i; simp [hf]
  · intro i hi
    rw [cell_ob _ _ _ _ _ _ hne]
    refine row_set h.rel.1 (fun i hi => ?_) _ hm x i hi
    rw [cell_ob _ _ _ _ _ _ hne]; exact h.row i hi
  · intro i; simp [hg]
/-- What New makes. -/
theorem ring_made (W : World) (n : Nat) (h : 0 < n) : RingIs ((W.alloc (.cells (madeCells #[.int .i64 0] n) 3)).alloc (.cells #[.slice (some ⟨W.heap.size, 0, none⟩) n n, .int .i64 0, .int .i64 0] 53)) (W.heap.size + 1) W.heap.size n [] := by
  have hrow := (W.rowIs_made (.int .i64 0) n 3).alloc (.cells #[.slice (some ⟨W.heap.size, 0, none⟩) n n, .int .i64 0, .int .i64 0] 53)
  refine ⟨0, List.replicate n 0, ?_, ?_, ?_, ?_, ?_, fun i => hrow.frozen i, by omega, ringRel_nil h _ h _ (by simp)⟩
  · simp [go_sem]
  · simp [go_sem]
  · simp [go_sem]
  · intro i; exact World.frozen?_alloc_at _ _ _ _ (by simp)
  · intro i hi
    rw [hrow.cell hi]
    simp [List.getD_eq_getElem?_getD, hi]
end Go.Proofs.Ytgdijnmanhglnaa
