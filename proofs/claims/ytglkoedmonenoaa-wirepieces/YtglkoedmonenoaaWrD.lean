/- Wire's read: the region that builds the frame, the region of a round. Conditions: what the bytes are. -/
import Derived.Test.YtglkoedmonenoaaWrC
import Derived.Deep.RegionHeld3
import Derived.Deep.DeepMust
namespace Go.Proofs.Ytglkoedmonenoaa
open Go.RowKit
set_option linter.unusedVariables false
set_option maxRecDepth 100000

/-- A frame in memory, at block x. -/
structure FrAt (W : World) (x : Nat) (k fr t : Int) (v s : Value) : Prop where
  c0 : W.cell? ⟨x, 0, none⟩ = some (.int .i64 k)
  c1 : W.cell? ⟨x, 1, none⟩ = some (.int .i64 fr)
  c2 : W.cell? ⟨x, 2, none⟩ = some (.int .i64 t)
  c3 : W.cell? ⟨x, 3, none⟩ = some v
  c4 : W.cell? ⟨x, 4, none⟩ = some s
  f : ∀ i, W.frozen? ⟨x, i, none⟩ = false
theorem FrAt.lt {W : World} {x : Nat} {k fr t : Int} {v s : Value} (h : FrAt W x k fr t v s) : x < W.heap.size := World.block_lt_of_cell? W _ h.c0
theorem FrAt.mod {W W' : World} {x : Nat} {k fr t : Int} {v s : Value} {S : List Nat} (h : FrAt W x k fr t v s) (m : Mod S W W') (hx : x ∉ S) : FrAt W' x k fr t v s :=
  ⟨m.cell h.c0 hx, m.cell h.c1 hx, m.cell h.c2 hx, m.cell h.c3 hx, m.cell h.c4 hx, fun i => (m.frozen h.lt hx).trans (h.f i)⟩
theorem FrAt.below {W W' : World} {x : Nat} {k fr t : Int} {v s : Value} (h : FrAt W x k fr t v s) (m : Below W.heap.size W W') : FrAt W' x k fr t v s := h.mod (S := []) (Mod.of_below m) (by simp)
theorem frAt_new (W : World) (k fr t : Int) (v s : Value) : FrAt (W.alloc (.cells #[.int .i64 k, .int .i64 fr, .int .i64 t, v, s] 26)) W.heap.size k fr t v s :=
  ⟨by simp [go_sem], by simp [go_sem], by simp [go_sem], by simp [go_sem], by simp [go_sem], fun i => World.frozen?_alloc_at _ _ _ _ (by simp)⟩
/-- A frame stored. -/
def frSet (W : World) (x : Nat) (k fr t : Int) (v s : Value) : World := ((((W.setCell ⟨x, 0, none⟩ (.int .i64 k)).setCell ⟨x, 1, none⟩ (.int .i64 fr)).setCell ⟨x, 2, none⟩ (.int .i64 t)).setCell ⟨x, 3, none⟩ v).setCell ⟨x, 4, none⟩ s
theorem cell_oo (W : World) (c j b i : Nat) (v : Value) (h : i ≠ j) : (W.setCell ⟨c, j, none⟩ v).cell? ⟨b, i, none⟩ = W.cell? ⟨b, i, none⟩ :=
  World.cell?_setCell_other _ _ _ _ (by intro e; rw [Addr.mk.injEq] at e; omega)
theorem cell_ob (W : World) (c j b i : Nat) (v : Value) (h : b ≠ c) : (W.setCell ⟨c, j, none⟩ v).cell? ⟨b, i, none⟩ = W.cell? ⟨b, i, none⟩ :=
  World.cell?_setCell_other _ _ _ _ (by intro e; rw [Addr.mk.injEq] at e; omega)
theorem FrAt.stored {W : World} {x : Nat} {k fr t : Int} {v s : Value} (h : FrAt W x k fr t v s) (k' fr' t' : Int) (v' s' : Value) : FrAt (frSet W x k' fr' t' v' s') x k' fr' t' v' s' := by
  unfold frSet
  refine ⟨?_, ?_, ?_, ?_, ?_, fun i => by simp [h.f]⟩
  · rw [cell_oo _ _ _ _ _ _ (by omega), cell_oo _ _ _ _ _ _ (by omega), cell_oo _ _ _ _ _ _ (by omega), cell_oo _ _ _ _ _ _ (by omega)]; exact World.cell?_setCell_same _ _ _ h.c0
  · rw [cell_oo _ _ _ _ _ _ (by omega), cell_oo _ _ _ _ _ _ (by omega), cell_oo _ _ _ _ _ _ (by omega)]
    exact World.cell?_setCell_same _ _ _ ((cell_oo _ _ _ _ _ _ (by omega)).trans h.c1)
  · rw [cell_oo _ _ _ _ _ _ (by omega), cell_oo _ _ _ _ _ _ (by omega)]
    exact World.cell?_setCell_same _ _ _ ((cell_oo _ _ _ _ _ _ (by omega)).trans ((cell_oo _ _ _ _ _ _ (by omega)).trans h.c2))
  · rw [cell_oo _ _ _ _ _ _ (by omega)]
    exact World.cell?_setCell_same _ _ _ ((cell_oo _ _ _ _ _ _ (by omega)).trans ((cell_oo _ _ _ _ _ _ (by omega)).trans ((cell_oo _ _ _ _ _ _ (by omega)).trans h.c3)))
  · exact World.cell?_setCell_same _ _ _ ((cell_oo _ _ _ _ _ _ (by omega)).trans ((cell_oo _ _ _ _ _ _ (by omega)).trans ((cell_oo _ _ _ _ _ _ (by omega)).trans ((cell_oo _ _ _ _ _ _ (by omega)).trans h.c4))))
theorem frSet_mod (W : World) (x : Nat) (k fr t : Int) (v s : Value) : Mod [x] W (frSet W x k fr t v s) := by
  unfold frSet
  exact ((((((Mod.refl [x] W).setCell x 0 _ (by simp)).setCell x 1 _ (by simp)).setCell x 2 _ (by simp)).setCell x 3 _ (by simp)).setCell x 4 _ (by simp))
theorem frSet_below {B : Nat} {W0 W : World} {x : Nat} {k fr t : Int} {v s : Value} (h : Below B W0 W) (hx : B ≤ x) : Below B W0 (frSet W x k fr t v s) :=
  h.trans ⟨(frSet_mod W x k fr t v s).os, (frSet_mod W x k fr t v s).tape, (frSet_mod W x k fr t v s).output, (frSet_mod W x k fr t v s).size, fun i hi => by
    by_cases hl : i < W.heap.size
    · exact (frSet_mod W x k fr t v s).block i hl (by simp; omega)
    · have e : (frSet W x k fr t v s).heap.size = W.heap.size := by simp [frSet]
      rw [Array.getElem?_eq_none (by omega), Array.getElem?_eq_none (by omega)]⟩
/-- A row of numbers that may be written. -/
structure ZeroRow (W : World) (g c : Nat) : Prop where
  cell : ∀ j, j < c → ∃ z, W.cell? ⟨g, j, none⟩ = some (.int .i64 z)
  f : ∀ i, W.frozen? ⟨g, i, none⟩ = false
  lt : g < W.heap.size
theorem ZeroRow.mod {W W' : World} {g c : Nat} {S : List Nat} (h : ZeroRow W g c) (m : Mod S W W') (hg : g ∉ S) : ZeroRow W' g c :=
  ⟨fun j hj => by obtain ⟨z, hz⟩ := h.cell j hj; exact ⟨z, m.cell hz hg⟩, fun i => (m.frozen h.lt hg).trans (h.f i), Nat.lt_of_lt_of_le h.lt m.size⟩
theorem ZeroRow.below {W W' : World} {g c : Nat} (h : ZeroRow W g c) (m : Below W.heap.size W W') : ZeroRow W' g c := h.mod (S := []) (Mod.of_below m) (by simp)
theorem infoInt : (Try.prog.info? 3).map (fun i => (i.zero, i.size, i.bytes)) = some (some (.int .i64 0), 1, 8) := by kernel_rfl
/-- 'make([]int, c)'. -/
theorem make_ints (w : World) (c : Nat) (hc : c ≤ 1000) : ∃ W : World, (Instr.makeSlice 24 (.int .i64 (c : Int)) (.int .i64 (c : Int))).run Try.prog w = .ok (.slice (some ⟨w.heap.size, 0, none⟩) c c) W ∧ Below w.heap.size w W ∧ ZeroRow W w.heap.size c ∧ w.heap.size < W.heap.size := by
  obtain ⟨i0, hi, hz0, hz1, hz2⟩ := info_parts infoInt
  obtain ⟨W, h1, h2, h3⟩ := run_make_full (P := Try.prog) w w.heap.size 24 3 i0 (.int .i64 0) 1 Try.underlying24 hi hz0 hz1 .i64 .i64 c (by rw [hz2]; omega) (by unfold maxLen; omega) (Nat.le_refl _)
  refine ⟨W, h1, (Below.refl _ w).grown h3 (Nat.le_refl _) (fun k hk => by cases hk), ⟨fun j hj => ⟨0, ?_⟩, fun j => h2.frozenAt j, (h2.lt _ rfl).2⟩, (h2.lt _ rfl).2⟩
  rw [h2.cellAt j (by omega)]
  rw [show (Value.int IntKind.i64 0).cells = #[.int .i64 0] from rfl, toList_madeCells_one]
  simp [hj]
/-- The region that builds the frame, in whatever order. -/
@[reducible] def buildOps : Array Oper := #[{ dst := some 37, op := Op.move (Operand.tmp 0), type := 35, pos := "get.go:27", after := #[], guard := none }, { dst := some 38, op := Op.indexAddr 35 (Operand.tmp 37) (Operand.const (Value.int IntKind.i64 1)), type := 0, pos := "get.go:27", after := #[{ on := 0, ground := Ground.data }], guard := none }, { dst := some 39, op := Op.load 5 (Operand.tmp 38), type := 5, pos := "get.go:27", after := #[{ on := 1, ground := Ground.data }], guard := none }, { dst := some 40, op := Op.convert 5 3 (Operand.tmp 39), type := 3, pos := "get.go:27", after := #[{ on := 2, ground := Ground.data }], guard := none }, { dst := some 41, op := Op.move (Operand.tmp 0), type := 35, pos := "get.go:27", after := #[], guard := none }, { dst := some 42, op := Op.indexAddr 35 (Operand.tmp 41) (Operand.const (Value.int IntKind.i64 2)), type := 0, pos := "get.go:27", after := #[{ on := 4, ground := Ground.data }], guard := none }, { dst := some 43, op := Op.load 5 (Operand.tmp 42), type := 5, pos := "get.go:27", after := #[{ on := 5, ground := Ground.data }], guard := none }, { dst := some 44, op := Op.convert 5 3 (Operand.tmp 43), type := 3, pos := "get.go:27", after := #[{ on := 6, ground := Ground.data }], guard := none }, { dst := some 45, op := Op.move (Operand.tmp 0), type := 35, pos := "get.go:27", after := #[], guard := none }, { dst := some 46, op := Op.call { callee := Callee.value (Operand.func 24), args := #[Operand.tmp 45, Operand.const (Value.int IntKind.i64 3), Operand.const (Value.int IntKind.i64 6)], argTypes := #[35, 3, 3] }, type := 3, pos := "get.go:28", after := #[{ on := 8, ground := Ground.data }], guard := none }, { dst := some 47, op := Op.build 23 #[(0, Operand.tmp 40), (1, Operand.tmp 44), (2, Operand.tmp 46)], type := 23, pos := "get.go:27", after := #[{ on := 3, ground := Ground.data }, { on := 7, ground := Ground.data }, { on := 9, ground := Ground.data }], guard := none }, { dst := some 48, op := Op.move (Operand.tmp 5), type := 3, pos := "get.go:27", after := #[], guard := none }, { dst := some 49, op := Op.makeSlice 24 (Operand.tmp 48) (Operand.tmp 48), type := 24, pos := "get.go:27", after := #[{ on := 11, ground := Ground.data }, { on := 11, ground := Ground.data }], guard := none }, { dst := some 50, op := Op.move (Operand.tmp 0), type := 35, pos := "get.go:27", after := #[], guard := none }, { dst := some 51, op := Op.move (Operand.tmp 8), type := 3, pos := "get.go:27", after := #[], guard := none }, { dst := some 52, op := Op.move (Operand.tmp 9), type := 3, pos := "get.go:27", after := #[], guard := none }, { dst := some 53, op := Op.slice 35 (Operand.tmp 50) (some (Operand.tmp 51)) (some (Operand.tmp 52)) none, type := 35, pos := "get.go:27", after := #[{ on := 13, ground := Ground.data }, { on := 14, ground := Ground.data }, { on := 15, ground := Ground.data }], guard := none }, { dst := some 54, op := Op.convert 35 9 (Operand.tmp 53), type := 9, pos := "get.go:27", after := #[{ on := 16, ground := Ground.data }], guard := none }, { dst := some 55, op := Op.build 26 #[(0, Operand.tmp 47), (1, Operand.tmp 49), (2, Operand.tmp 54)], type := 26, pos := "get.go:27", after := #[{ on := 10, ground := Ground.data }, { on := 12, ground := Ground.data }, { on := 17, ground := Ground.data }], guard := none }, { dst := some 11, op := Op.alloc 26, type := 0, pos := "get.go:27", after := #[], guard := none }, { dst := none, op := Op.store 26 (Operand.tmp 11) (Operand.tmp 55), type := 0, pos := "get.go:27", after := #[{ on := 19, ground := Ground.data }, { on := 18, ground := Ground.data }, { on := 9, ground := Ground.chain }, { on := 0, ground := Ground.phase }, { on := 1, ground := Ground.phase }, { on := 2, ground := Ground.phase }, { on := 3, ground := Ground.phase }, { on := 4, ground := Ground.phase }, { on := 5, ground := Ground.phase }, { on := 6, ground := Ground.phase }, { on := 7, ground := Ground.phase }, { on := 8, ground := Ground.phase }, { on := 9, ground := Ground.phase }, { on := 10, ground := Ground.phase }, { on := 11, ground := Ground.phase }, { on := 12, ground := Ground.phase }, { on := 13, ground := Ground.phase }, { on := 14, ground := Ground.phase }, { on := 15, ground := Ground.phase }, { on := 16, ground := Ground.phase }, { on := 17, ground := Ground.phase }, { on := 18, ground := Ground.phase }, { on := 19, ground := Ground.phase }], guard := none }]
set_option maxHeartbeats 16000000 in
theorem read_build (W : World) (b' off n cap c dl dc : Nat) (k1 k2 : Nat) (da sa t : Int) (a2 : Option Addr) (s : ByteArray) (t1 t2 t3 t4 t6 t7 t10 t11 t12 t13 t14 t15 t16 t17 t18 t19 t20 t21 t22 t23 t24 t25 t26 t27 t28 t29 t30 t31 t32 t33 t34 t35 t36 t37 t38 t39 t40 t41 t42 t43 t44 t45 t46 t47 t48 t49 t50 t51 t52 t53 t54 t55 t56 t57 t58 t59 t60 t61 t62 t63 t64 t65 t66 t67 t68 t69 t70 t71 t72 t73 t74 : Value) (Q : Exit → Act → World → Prop)
    (h1 : W.cell? ⟨b', off + 1, none⟩ = some (.int .u8 k1)) (h2 : W.cell? ⟨b', off + 2, none⟩ = some (.int .u8 k2)) (hk1 : k1 < 256) (hk2 : k2 < 256) (hn : 10 ≤ n) (hcm : c ≤ 1000)
    (hsl : ∀ X, (Instr.slice 35 (.slice (some ⟨b', off, none⟩) n cap) (some (.int .i64 da)) (some (.int .i64 sa)) none).run Try.prog X = .ok (.slice a2 dl dc) X)
    (hcv : ∀ X, Below W.heap.size W X → (convert 35 9 (.slice a2 dl dc)).run Try.prog X = .ok (.string s) X)
    (hnum : ∀ X, Below W.heap.size W X → Calls Try.prog 24 #[.slice (some ⟨b', off, none⟩) n cap, .int .i64 3, .int .i64 6] X fun e X' => e = .returned (.int .i64 t) ∧ Below X.heap.size X X')
    (hp : ∀ c a (dd : Option Tmp) vv w, Q (.panic c) (a.put dd vv) w → Q (.panic c) a w)
    (hfin : ∀ (X : World) (x g : Nat) (hB : Below W.heap.size W X) (hx : FrAt X x k1 k2 t (.slice (some ⟨g, 0, none⟩) c c) (.string s)) (hg : ZeroRow X g c) (h3 : W.heap.size ≤ x) (h4 : W.heap.size ≤ g) (h5 : x ≠ g), Q .normal { tmps := #[Value.slice (some ⟨b', off, none⟩) n cap, t1, t2, t3, t4, Value.int .i64 c, t6, t7, Value.int .i64 da, Value.int .i64 sa, t10, Value.pointer (some ⟨x, 0, none⟩), t12, t13, t14, t15, t16, t17, t18, t19, t20, t21, t22, t23, t24, t25, t26, t27, t28, t29, t30, t31, t32, t33, t34, t35, t36, Value.slice (some ⟨b', off, none⟩) n cap, Value.pointer (some ⟨b', off + 1, none⟩), Value.int .u8 k1, Value.int .i64 k1, Value.slice (some ⟨b', off, none⟩) n cap, Value.pointer (some ⟨b', off + 2, none⟩), Value.int .u8 k2, Value.int .i64 k2, Value.slice (some ⟨b', off, none⟩) n cap, Value.int .i64 t, Value.agg #[.int .i64 k1, .int .i64 k2, .int .i64 t], Value.int .i64 c, Value.slice (some ⟨g, 0, none⟩) c c, Value.slice (some ⟨b', off, none⟩) n cap, Value.int .i64 da, Value.int .i64 sa, Value.slice a2 dl dc, Value.string s, Value.agg #[.int .i64 k1, .int .i64 k2, .int .i64 t, .slice (some ⟨g, 0, none⟩) c c, .string s], t56, t57, t58, t59, t60, t61, t62, t63, t64, t65, t66, t67, t68, t69, t70, t71, t72, t73, t74], defers := [] } X) :
    Code.wp Try.prog (Code.region 9 buildOps true) Q { tmps := #[Value.slice (some ⟨b', off, none⟩) n cap, t1, t2, t3, t4, Value.int .i64 c, t6, t7, Value.int .i64 da, Value.int .i64 sa, t10, t11, t12, t13, t14, t15, t16, t17, t18, t19, t20, t21, t22, t23, t24, t25, t26, t27, t28, t29, t30, t31, t32, t33, t34, t35, t36, t37, t38, t39, t40, t41, t42, t43, t44, t45, t46, t47, t48, t49, t50, t51, t52, t53, t54, t55, t56, t57, t58, t59, t60, t61, t62, t63, t64, t65, t66, t67, t68, t69, t70, t71, t72, t73, t74], defers := [] } W := by
  obtain ⟨W0, hW0⟩ : ∃ Z, W.drew = Z := ⟨_, rfl⟩
  have hsz : W0.heap.size = W.heap.size := by rw [← hW0]; rfl
  have D0 : Below W.heap.size W W0 := by rw [← hW0]; exact (Below.refl _ _).drew
  have tr : ∀ X, Below W0.heap.size W0 X → Below W.heap.size W X := fun X h => D0.trans (by rw [← hsz]; exact h)
  have hC1 : ∀ X, Below W0.heap.size W0 X → X.cell? ⟨b', off + 1, none⟩ = some (.int .u8 k1) := fun X h => (Mod.of_below (S := []) (tr X h)).cell h1 (by simp)
  have hC2 : ∀ X, Below W0.heap.size W0 X → X.cell? ⟨b', off + 2, none⟩ = some (.int .u8 k2) := fun X h => (Mod.of_below (S := []) (tr X h)).cell h2 (by simp)
  have hCv : ∀ X, Below W0.heap.size W0 X → (convert 35 9 (.slice a2 dl dc)).run Try.prog X = .ok (.string s) X := fun X h => hcv X (tr X h)
  have hNum : Hid (∀ X, Below W0.heap.size W0 X → Calls Try.prog 24 #[.slice (some ⟨b', off, none⟩) n cap, .int .i64 3, .int .i64 6] X fun e X' => e = .returned (.int .i64 t) ∧ Below X.heap.size X X') := fun X h => hnum X (tr X h)
  have hfin : ∀ (X : World) (x g : Nat) (hB : Below W0.heap.size W0 X) (hy : FrAt X x 0 0 0 (.slice none 0 0) (.string ⟨#[]⟩)) (hg : ZeroRow X g c) (h3 : W0.heap.size ≤ x) (h4 : W0.heap.size ≤ g) (h5 : x ≠ g), Q .normal { tmps := #[Value.slice (some ⟨b', off, none⟩) n cap, t1, t2, t3, t4, Value.int .i64 c, t6, t7, Value.int .i64 da, Value.int .i64 sa, t10, Value.pointer (some ⟨x, 0, none⟩), t12, t13, t14, t15, t16, t17, t18, t19, t20, t21, t22, t23, t24, t25, t26, t27, t28, t29, t30, t31, t32, t33, t34, t35, t36, Value.slice (some ⟨b', off, none⟩) n cap, Value.pointer (some ⟨b', off + 1, none⟩), Value.int .u8 k1, Value.int .i64 k1, Value.slice (some ⟨b', off, none⟩) n cap, Value.pointer (some ⟨b', off + 2, none⟩), Value.int .u8 k2, Value.int .i64 k2, Value.slice (some ⟨b', off, none⟩) n cap, Value.int .i64 t, Value.agg #[.int .i64 k1, .int .i64 k2, .int .i64 t], Value.int .i64 c, Value.slice (some ⟨g, 0, none⟩) c c, Value.slice (some ⟨b', off, none⟩) n cap, Value.int .i64 da, Value.int .i64 sa, Value.slice a2 dl dc, Value.string s, Value.agg #[.int .i64 k1, .int .i64 k2, .int .i64 t, .slice (some ⟨g, 0, none⟩) c c, .string s], t56, t57, t58, t59, t60, t61, t62, t63, t64, t65, t66, t67, t68, t69, t70, t71, t72, t73, t74], defers := [] } (frSet X x k1 k2 t (.slice (some ⟨g, 0, none⟩) c c) (.string s)) := fun X x g h1 h2 h3 h4 h5 h6 =>
    hfin _ x g (tr _ (frSet_below h1 h4)) (h2.stored _ _ _ _ _) (h3.mod (frSet_mod _ _ _ _ _ _ _) (by simp; omega)) (by omega) (by omega) h6
  have B0 : Below W0.heap.size W0 W0 := Below.refl _ _
  have hn1 : (1 : Int) < (n : Int) := by omega
  have hw1 : IntKind.i64.wrap (k1 : Int) = k1 := by rw [IntKind.wrap_i64]; omega
  have hw2 : IntKind.i64.wrap (k2 : Int) = k2 := by rw [IntKind.wrap_i64]; omega
  have hn2 : (2 : Int) < (n : Int) := by omega
  refine wp_region_held_drew (S := fun X => Below W0.heap.size W0 X) (by kernel_rfl) (by rw [hW0]; exact B0) (fun hHeld => ?_)
  rw [hW0] at hHeld ⊢
  clear hW0 D0 hsz tr h1 h2 hcv hnum
  refine wpAnyH_take (i := 0) (oi := { dst := some 37, op := Op.move (Operand.tmp 0), type := 35, pos := "get.go:27", after := #[], guard := none }) (v := ?_) rfl (by kernel_rfl) (by kernel_rfl) (by kernel_rfl) (fun c a w h => hp c _ _ _ w h) (Or.inl ⟨by rfl, ?_⟩) hHeld ?_
  rotate_left
  · (intro w hSw; (try dsimp only at hSw); go_simp; all_goals (try with_reducible rfl))
  try simp only [Act.put, List.setIfInBounds_toArray, List.set_cons_zero, List.set_cons_succ]
  refine wpAnyH_take (i := 1) (oi := { dst := some 38, op := Op.indexAddr 35 (Operand.tmp 37) (Operand.const (Value.int IntKind.i64 1)), type := 0, pos := "get.go:27", after := #[{ on := 0, ground := Ground.data }], guard := none }) (v := ?_) rfl (by kernel_rfl) (by kernel_rfl) (by kernel_rfl) (fun c a w h => hp c _ _ _ w h) (Or.inl ⟨by rfl, ?_⟩) hHeld ?_
  rotate_left
  · (intro w hSw; (try dsimp only at hSw); go_simp; all_goals (try with_reducible rfl))
  try simp only [Act.put, List.setIfInBounds_toArray, List.set_cons_zero, List.set_cons_succ]
  refine wpAnyH_take (i := 2) (oi := { dst := some 39, op := Op.load 5 (Operand.tmp 38), type := 5, pos := "get.go:27", after := #[{ on := 1, ground := Ground.data }], guard := none }) (v := ?_) rfl (by kernel_rfl) (by kernel_rfl) (by kernel_rfl) (fun c a w h => hp c _ _ _ w h) (Or.inl ⟨by rfl, ?_⟩) hHeld ?_
  rotate_left
  · (intro w hSw; (try dsimp only at hSw); have h1 := hC1 _ hSw; go_simp; all_goals (try with_reducible rfl))
  try simp only [Act.put, List.setIfInBounds_toArray, List.set_cons_zero, List.set_cons_succ]
  refine wpAnyH_take (i := 3) (oi := { dst := some 40, op := Op.convert 5 3 (Operand.tmp 39), type := 3, pos := "get.go:27", after := #[{ on := 2, ground := Ground.data }], guard := none }) (v := ?_) rfl (by kernel_rfl) (by kernel_rfl) (by kernel_rfl) (fun c a w h => hp c _ _ _ w h) (Or.inl ⟨by rfl, ?_⟩) hHeld ?_
  rotate_left
  · (intro w hSw; (try dsimp only at hSw); go_simp; all_goals (try with_reducible rfl))
  try simp only [Act.put, List.setIfInBounds_toArray, List.set_cons_zero, List.set_cons_succ]
  refine wpAnyH_take (i := 4) (oi := { dst := some 41, op := Op.move (Operand.tmp 0), type := 35, pos := "get.go:27", after := #[], guard := none }) (v := ?_) rfl (by kernel_rfl) (by kernel_rfl) (by kernel_rfl) (fun c a w h => hp c _ _ _ w h) (Or.inl ⟨by rfl, ?_⟩) hHeld ?_
  rotate_left
  · (intro w hSw; (try dsimp only at hSw); go_simp; all_goals (try with_reducible rfl))
  try simp only [Act.put, List.setIfInBounds_toArray, List.set_cons_zero, List.set_cons_succ]
  refine wpAnyH_take (i := 5) (oi := { dst := some 42, op := Op.indexAddr 35 (Operand.tmp 41) (Operand.const (Value.int IntKind.i64 2)), type := 0, pos := "get.go:27", after := #[{ on := 4, ground := Ground.data }], guard := none }) (v := ?_) rfl (by kernel_rfl) (by kernel_rfl) (by kernel_rfl) (fun c a w h => hp c _ _ _ w h) (Or.inl ⟨by rfl, ?_⟩) hHeld ?_
  rotate_left
  · (intro w hSw; (try dsimp only at hSw); go_simp; all_goals (try with_reducible rfl))
  try simp only [Act.put, List.setIfInBounds_toArray, List.set_cons_zero, List.set_cons_succ]
  refine wpAnyH_take (i := 6) (oi := { dst := some 43, op := Op.load 5 (Operand.tmp 42), type := 5, pos := "get.go:27", after := #[{ on := 5, ground := Ground.data }], guard := none }) (v := ?_) rfl (by kernel_rfl) (by kernel_rfl) (by kernel_rfl) (fun c a w h => hp c _ _ _ w h) (Or.inl ⟨by rfl, ?_⟩) hHeld ?_
  rotate_left
  · (intro w hSw; (try dsimp only at hSw); have h2 := hC2 _ hSw; go_simp; all_goals (try with_reducible rfl))
  try simp only [Act.put, List.setIfInBounds_toArray, List.set_cons_zero, List.set_cons_succ]
  refine wpAnyH_take (i := 7) (oi := { dst := some 44, op := Op.convert 5 3 (Operand.tmp 43), type := 3, pos := "get.go:27", after := #[{ on := 6, ground := Ground.data }], guard := none }) (v := ?_) rfl (by kernel_rfl) (by kernel_rfl) (by kernel_rfl) (fun c a w h => hp c _ _ _ w h) (Or.inl ⟨by rfl, ?_⟩) hHeld ?_
  rotate_left
  · (intro w hSw; (try dsimp only at hSw); go_simp; all_goals (try with_reducible rfl))
  try simp only [Act.put, List.setIfInBounds_toArray, List.set_cons_zero, List.set_cons_succ]
  refine wpAnyH_take (i := 8) (oi := { dst := some 45, op := Op.move (Operand.tmp 0), type := 35, pos := "get.go:27", after := #[], guard := none }) (v := ?_) rfl (by kernel_rfl) (by kernel_rfl) (by kernel_rfl) (fun c a w h => hp c _ _ _ w h) (Or.inl ⟨by rfl, ?_⟩) hHeld ?_
  rotate_left
  · (intro w hSw; (try dsimp only at hSw); go_simp; all_goals (try with_reducible rfl))
  try simp only [Act.put, List.setIfInBounds_toArray, List.set_cons_zero, List.set_cons_succ]
  refine wpAnyH_take (i := 11) (oi := { dst := some 48, op := Op.move (Operand.tmp 5), type := 3, pos := "get.go:27", after := #[], guard := none }) (v := ?_) rfl (by kernel_rfl) (by kernel_rfl) (by kernel_rfl) (fun c a w h => hp c _ _ _ w h) (Or.inl ⟨by rfl, ?_⟩) hHeld ?_
  rotate_left
  · (intro w hSw; (try dsimp only at hSw); go_simp; all_goals (try with_reducible rfl))
  try simp only [Act.put, List.setIfInBounds_toArray, List.set_cons_zero, List.set_cons_succ]
  refine wpAnyH_take (i := 13) (oi := { dst := some 50, op := Op.move (Operand.tmp 0), type := 35, pos := "get.go:27", after := #[], guard := none }) (v := ?_) rfl (by kernel_rfl) (by kernel_rfl) (by kernel_rfl) (fun c a w h => hp c _ _ _ w h) (Or.inl ⟨by rfl, ?_⟩) hHeld ?_
  rotate_left
  · (intro w hSw; (try dsimp only at hSw); go_simp; all_goals (try with_reducible rfl))
  try simp only [Act.put, List.setIfInBounds_toArray, List.set_cons_zero, List.set_cons_succ]
  refine wpAnyH_take (i := 14) (oi := { dst := some 51, op := Op.move (Operand.tmp 8), type := 3, pos := "get.go:27", after := #[], guard := none }) (v := ?_) rfl (by kernel_rfl) (by kernel_rfl) (by kernel_rfl) (fun c a w h => hp c _ _ _ w h) (Or.inl ⟨by rfl, ?_⟩) hHeld ?_
  rotate_left
  · (intro w hSw; (try dsimp only at hSw); go_simp; all_goals (try with_reducible rfl))
  try simp only [Act.put, List.setIfInBounds_toArray, List.set_cons_zero, List.set_cons_succ]
  refine wpAnyH_take (i := 15) (oi := { dst := some 52, op := Op.move (Operand.tmp 9), type := 3, pos := "get.go:27", after := #[], guard := none }) (v := ?_) rfl (by kernel_rfl) (by kernel_rfl) (by kernel_rfl) (fun c a w h => hp c _ _ _ w h) (Or.inl ⟨by rfl, ?_⟩) hHeld ?_
  rotate_left
  · (intro w hSw; (try dsimp only at hSw); go_simp; all_goals (try with_reducible rfl))
  try simp only [Act.put, List.setIfInBounds_toArray, List.set_cons_zero, List.set_cons_succ]
  refine wpAnyH_take (i := 16) (oi := { dst := some 53, op := Op.slice 35 (Operand.tmp 50) (some (Operand.tmp 51)) (some (Operand.tmp 52)) none, type := 35, pos := "get.go:27", after := #[{ on := 13, ground := Ground.data }, { on := 14, ground := Ground.data }, { on := 15, ground := Ground.data }], guard := none }) (v := ?_) rfl (by kernel_rfl) (by kernel_rfl) (by kernel_rfl) (fun c a w h => hp c _ _ _ w h) (Or.inl ⟨by rfl, ?_⟩) hHeld ?_
  rotate_left
  · (intro w hSw; (try dsimp only at hSw); go_simp; all_goals (try with_reducible rfl))
  try simp only [Act.put, List.setIfInBounds_toArray, List.set_cons_zero, List.set_cons_succ]
  refine wpAnyH_take (i := 17) (oi := { dst := some 54, op := Op.convert 35 9 (Operand.tmp 53), type := 9, pos := "get.go:27", after := #[{ on := 16, ground := Ground.data }], guard := none }) (v := ?_) rfl (by kernel_rfl) (by kernel_rfl) (by kernel_rfl) (fun c a w h => hp c _ _ _ w h) (Or.inl ⟨by rfl, ?_⟩) hHeld ?_
  rotate_left
  · (intro w hSw; (try dsimp only at hSw); have h3 := hCv _ hSw; go_simp; all_goals (try with_reducible rfl))
  try simp only [Act.put, List.setIfInBounds_toArray, List.set_cons_zero, List.set_cons_succ]
  refine wpAnyH_ready (rs := [9, 12, 19]) (by kernel_rfl) (by simp) ?_
  refine AllReadyH.cons (o := { dst := some 46, op := Op.call { callee := Callee.value (Operand.func 24), args := #[Operand.tmp 45, Operand.const (Value.int IntKind.i64 3), Operand.const (Value.int IntKind.i64 6)], argTypes := #[35, 3, 3] }, type := 3, pos := "get.go:28", after := #[{ on := 8, ground := Ground.data }], guard := none }) rfl (fun K hK => ?_) ?_
  · go_simp
    refine Calls.mono (hNum.out _ B0) ?_
    rintro e X1 ⟨rfl, hb⟩
    have B1 : Below W0.heap.size W0 X1 := B0.trans (hb.mono B0.size)
    clear hb
    go_wp2_with fail
    refine hK.out _ _ B1 (fun hHeld => ?_)
    clear hK K
    try simp only [Act.put, List.setIfInBounds_toArray, List.set_cons_zero, List.set_cons_succ]
    refine wpAnyH_take (i := 10) (oi := { dst := some 47, op := Op.build 23 #[(0, Operand.tmp 40), (1, Operand.tmp 44), (2, Operand.tmp 46)], type := 23, pos := "get.go:27", after := #[{ on := 3, ground := Ground.data }, { on := 7, ground := Ground.data }, { on := 9, ground := Ground.data }], guard := none }) (v := ?_) rfl (by kernel_rfl) (by kernel_rfl) (by kernel_rfl) (fun c a w h => hp c _ _ _ w h) (Or.inl ⟨by rfl, ?_⟩) hHeld ?_
    rotate_left
    · (intro w hSw; (try dsimp only at hSw); go_simp; all_goals (try with_reducible rfl))
    try simp only [Act.put, List.setIfInBounds_toArray, List.set_cons_zero, List.set_cons_succ]
    refine wpAnyH_ready (rs := [12, 19]) (by kernel_rfl) (by simp) ?_
    refine AllReadyH.cons (o := { dst := some 49, op := Op.makeSlice 24 (Operand.tmp 48) (Operand.tmp 48), type := 24, pos := "get.go:27", after := #[{ on := 11, ground := Ground.data }, { on := 11, ground := Ground.data }], guard := none }) rfl (fun K hK => ?_) ?_
    · obtain ⟨X2, hmk, hb, hz2, hlt2⟩ := make_ints X1 c hcm
      have B2 : Below W0.heap.size W0 X2 := B1.trans (hb.mono B1.size)
      have z2 : ZeroRow X2 X1.heap.size c := hz2
      clear hz2 hb
      go_simp
      clear hmk
      refine hK.out _ _ B2 (fun hHeld => ?_)
      clear hK K
      try simp only [Act.put, List.setIfInBounds_toArray, List.set_cons_zero, List.set_cons_succ]
      refine wpAnyH_take (i := 18) (oi := { dst := some 55, op := Op.build 26 #[(0, Operand.tmp 47), (1, Operand.tmp 49), (2, Operand.tmp 54)], type := 26, pos := "get.go:27", after := #[{ on := 10, ground := Ground.data }, { on := 12, ground := Ground.data }, { on := 17, ground := Ground.data }], guard := none }) (v := ?_) rfl (by kernel_rfl) (by kernel_rfl) (by kernel_rfl) (fun c a w h => hp c _ _ _ w h) (Or.inl ⟨by rfl, ?_⟩) hHeld ?_
      rotate_left
      · (intro w hSw; (try dsimp only at hSw); go_simp; all_goals (try with_reducible rfl))
      try simp only [Act.put, List.setIfInBounds_toArray, List.set_cons_zero, List.set_cons_succ]
      refine wpAnyH_ready (rs := [19]) (by kernel_rfl) (by simp) ?_
      refine AllReadyH.cons (o := { dst := some 11, op := Op.alloc 26, type := 0, pos := "get.go:27", after := #[], guard := none }) rfl (fun K hK => ?_) AllReadyH.nil
      go_simp
      obtain ⟨X3, hX⟩ : ∃ Z, X2.alloc (.cells #[.int .i64 0, .int .i64 0, .int .i64 0, .slice none 0 0, .string ⟨#[]⟩] 26) = Z := ⟨_, rfl⟩
      rw [hX]
      have hb : Below X2.heap.size X2 X3 := by rw [← hX]; exact (Below.refl _ _).alloc (Nat.le_refl _) _
      have B3 : Below W0.heap.size W0 X3 := B2.trans (hb.mono B2.size)
      have z3 := z2.below hb
      have y3 : FrAt X3 X2.heap.size 0 0 0 (.slice none 0 0) (.string ⟨#[]⟩) := by rw [← hX]; exact frAt_new _ _ _ _ _ _
      have hne : X2.heap.size ≠ X1.heap.size := by have := z2.lt; omega
      clear hX hb
      refine hK.out _ _ B3 (fun hHeld => ?_)
      clear hK K
      try simp only [Act.put, List.setIfInBounds_toArray, List.set_cons_zero, List.set_cons_succ]
      refine wpAnyH_ready (rs := [20]) (by kernel_rfl) (by simp) ?_
      refine AllReadyH.cons (o := { dst := none, op := Op.store 26 (Operand.tmp 11) (Operand.tmp 55), type := 0, pos := "get.go:27", after := #[{ on := 19, ground := Ground.data }, { on := 18, ground := Ground.data }, { on := 9, ground := Ground.chain }, { on := 0, ground := Ground.phase }, { on := 1, ground := Ground.phase }, { on := 2, ground := Ground.phase }, { on := 3, ground := Ground.phase }, { on := 4, ground := Ground.phase }, { on := 5, ground := Ground.phase }, { on := 6, ground := Ground.phase }, { on := 7, ground := Ground.phase }, { on := 8, ground := Ground.phase }, { on := 9, ground := Ground.phase }, { on := 10, ground := Ground.phase }, { on := 11, ground := Ground.phase }, { on := 12, ground := Ground.phase }, { on := 13, ground := Ground.phase }, { on := 14, ground := Ground.phase }, { on := 15, ground := Ground.phase }, { on := 16, ground := Ground.phase }, { on := 17, ground := Ground.phase }, { on := 18, ground := Ground.phase }, { on := 19, ground := Ground.phase }], guard := none }) rfl (fun K hK => ?_) AllReadyH.nil
      have u0 := y3.c0
      have u1 := y3.c1
      have u2 := y3.c2
      have u3 := y3.c3
      have u4 := y3.c4
      have uf := y3.f
      have hxB := (by have := B2.size; omega : W0.heap.size ≤ X2.heap.size)
      go_simp
      refine hK.out _ _ (frSet_below B3 hxB) (fun hHeld => ?_)
      clear hK K
      try simp only [Act.put, List.setIfInBounds_toArray, List.set_cons_zero, List.set_cons_succ]
      refine wpAnyH_done (by kernel_rfl) ?_ _
      exact hfin _ _ _ B3 y3 z3 (by have := B2.size; omega : W0.heap.size ≤ X2.heap.size) (by have := B1.size; omega : W0.heap.size ≤ X1.heap.size) hne
    refine AllReadyH.cons (o := { dst := some 11, op := Op.alloc 26, type := 0, pos := "get.go:27", after := #[], guard := none }) rfl (fun K hK => ?_) AllReadyH.nil
    go_simp
    obtain ⟨X2, hX⟩ : ∃ Z, X1.alloc (.cells #[.int .i64 0, .int .i64 0, .int .i64 0, .slice none 0 0, .string ⟨#[]⟩] 26) = Z := ⟨_, rfl⟩
    rw [hX]
    have hb : Below X1.heap.size X1 X2 := by rw [← hX]; exact (Below.refl _ _).alloc (Nat.le_refl _) _
    have B2 : Below W0.heap.size W0 X2 := B1.trans (hb.mono B1.size)
    have y2 : FrAt X2 X1.heap.size 0 0 0 (.slice none 0 0) (.string ⟨#[]⟩) := by rw [← hX]; exact frAt_new _ _ _ _ _ _
    clear hX hb
    refine hK.out _ _ B2 (fun hHeld => ?_)
    clear hK K
    try simp only [Act.put, List.setIfInBounds_toArray, List.set_cons_zero, List.set_cons_succ]
    refine wpAnyH_ready (rs := [12]) (by kernel_rfl) (by simp) ?_
    refine AllReadyH.cons (o := { dst := some 49, op := Op.makeSlice 24 (Operand.tmp 48) (Operand.tmp 48), type := 24, pos := "get.go:27", after := #[{ on := 11, ground := Ground.data }, { on := 11, ground := Ground.data }], guard := none }) rfl (fun K hK => ?_) AllReadyH.nil
    obtain ⟨X3, hmk, hb, hz3, hlt3⟩ := make_ints X2 c hcm
    have B3 : Below W0.heap.size W0 X3 := B2.trans (hb.mono B2.size)
    have y3 := y2.below hb
    have z3 : ZeroRow X3 X2.heap.size c := hz3
    have hne : X1.heap.size ≠ X2.heap.size := by have := y2.lt; omega
    clear hz3 hb
    go_simp
    clear hmk
    refine hK.out _ _ B3 (fun hHeld => ?_)
    clear hK K
    try simp only [Act.put, List.setIfInBounds_toArray, List.set_cons_zero, List.set_cons_succ]
    refine wpAnyH_take (i := 18) (oi := { dst := some 55, op := Op.build 26 #[(0, Operand.tmp 47), (1, Operand.tmp 49), (2, Operand.tmp 54)], type := 26, pos := "get.go:27", after := #[{ on := 10, ground := Ground.data }, { on := 12, ground := Ground.data }, { on := 17, ground := Ground.data }], guard := none }) (v := ?_) rfl (by kernel_rfl) (by kernel_rfl) (by kernel_rfl) (fun c a w h => hp c _ _ _ w h) (Or.inl ⟨by rfl, ?_⟩) hHeld ?_
    rotate_left
    · (intro w hSw; (try dsimp only at hSw); go_simp; all_goals (try with_reducible rfl))
    try simp only [Act.put, List.setIfInBounds_toArray, List.set_cons_zero, List.set_cons_succ]
    refine wpAnyH_ready (rs := [20]) (by kernel_rfl) (by simp) ?_
    refine AllReadyH.cons (o := { dst := none, op := Op.store 26 (Operand.tmp 11) (Operand.tmp 55), type := 0, pos := "get.go:27", after := #[{ on := 19, ground := Ground.data }, { on := 18, ground := Ground.data }, { on := 9, ground := Ground.chain }, { on := 0, ground := Ground.phase }, { on := 1, ground := Ground.phase }, { on := 2, ground := Ground.phase }, { on := 3, ground := Ground.phase }, { on := 4, ground := Ground.phase }, { on := 5, ground := Ground.phase }, { on := 6, ground := Ground.phase }, { on := 7, ground := Ground.phase }, { on := 8, ground := Ground.phase }, { on := 9, ground := Ground.phase }, { on := 10, ground := Ground.phase }, { on := 11, ground := Ground.phase }, { on := 12, ground := Ground.phase }, { on := 13, ground := Ground.phase }, { on := 14, ground := Ground.phase }, { on := 15, ground := Ground.phase }, { on := 16, ground := Ground.phase }, { on := 17, ground := Ground.phase }, { on := 18, ground := Ground.phase }, { on := 19, ground := Ground.phase }], guard := none }) rfl (fun K hK => ?_) AllReadyH.nil
    have u0 := y3.c0
    have u1 := y3.c1
    have u2 := y3.c2
    have u3 := y3.c3
    have u4 := y3.c4
    have uf := y3.f
    have hxB := (by have := B1.size; omega : W0.heap.size ≤ X1.heap.size)
    go_simp
    refine hK.out _ _ (frSet_below B3 hxB) (fun hHeld => ?_)
    clear hK K
    try simp only [Act.put, List.setIfInBounds_toArray, List.set_cons_zero, List.set_cons_succ]
    refine wpAnyH_done (by kernel_rfl) ?_ _
    exact hfin _ _ _ B3 y3 z3 (by have := B1.size; omega : W0.heap.size ≤ X1.heap.size) (by have := B2.size; omega : W0.heap.size ≤ X2.heap.size) hne
  refine AllReadyH.cons (o := { dst := some 49, op := Op.makeSlice 24 (Operand.tmp 48) (Operand.tmp 48), type := 24, pos := "get.go:27", after := #[{ on := 11, ground := Ground.data }, { on := 11, ground := Ground.data }], guard := none }) rfl (fun K hK => ?_) ?_
  · obtain ⟨X1, hmk, hb, hz1, hlt1⟩ := make_ints W0 c hcm
    have B1 : Below W0.heap.size W0 X1 := B0.trans (hb.mono B0.size)
    have z1 : ZeroRow X1 W0.heap.size c := hz1
    clear hz1 hb
    go_simp
    clear hmk
    refine hK.out _ _ B1 (fun hHeld => ?_)
    clear hK K
    try simp only [Act.put, List.setIfInBounds_toArray, List.set_cons_zero, List.set_cons_succ]
    refine wpAnyH_ready (rs := [9, 19]) (by kernel_rfl) (by simp) ?_
    refine AllReadyH.cons (o := { dst := some 46, op := Op.call { callee := Callee.value (Operand.func 24), args := #[Operand.tmp 45, Operand.const (Value.int IntKind.i64 3), Operand.const (Value.int IntKind.i64 6)], argTypes := #[35, 3, 3] }, type := 3, pos := "get.go:28", after := #[{ on := 8, ground := Ground.data }], guard := none }) rfl (fun K hK => ?_) ?_
    · go_simp
      refine Calls.mono (hNum.out _ B1) ?_
      rintro e X2 ⟨rfl, hb⟩
      have B2 : Below W0.heap.size W0 X2 := B1.trans (hb.mono B1.size)
      have z2 := z1.below hb
      clear hb
      go_wp2_with fail
      refine hK.out _ _ B2 (fun hHeld => ?_)
      clear hK K
      try simp only [Act.put, List.setIfInBounds_toArray, List.set_cons_zero, List.set_cons_succ]
      refine wpAnyH_take (i := 10) (oi := { dst := some 47, op := Op.build 23 #[(0, Operand.tmp 40), (1, Operand.tmp 44), (2, Operand.tmp 46)], type := 23, pos := "get.go:27", after := #[{ on := 3, ground := Ground.data }, { on := 7, ground := Ground.data }, { on := 9, ground := Ground.data }], guard := none }) (v := ?_) rfl (by kernel_rfl) (by kernel_rfl) (by kernel_rfl) (fun c a w h => hp c _ _ _ w h) (Or.inl ⟨by rfl, ?_⟩) hHeld ?_
      rotate_left
      · (intro w hSw; (try dsimp only at hSw); go_simp; all_goals (try with_reducible rfl))
      try simp only [Act.put, List.setIfInBounds_toArray, List.set_cons_zero, List.set_cons_succ]
      refine wpAnyH_take (i := 18) (oi := { dst := some 55, op := Op.build 26 #[(0, Operand.tmp 47), (1, Operand.tmp 49), (2, Operand.tmp 54)], type := 26, pos := "get.go:27", after := #[{ on := 10, ground := Ground.data }, { on := 12, ground := Ground.data }, { on := 17, ground := Ground.data }], guard := none }) (v := ?_) rfl (by kernel_rfl) (by kernel_rfl) (by kernel_rfl) (fun c a w h => hp c _ _ _ w h) (Or.inl ⟨by rfl, ?_⟩) hHeld ?_
      rotate_left
      · (intro w hSw; (try dsimp only at hSw); go_simp; all_goals (try with_reducible rfl))
      try simp only [Act.put, List.setIfInBounds_toArray, List.set_cons_zero, List.set_cons_succ]
      refine wpAnyH_ready (rs := [19]) (by kernel_rfl) (by simp) ?_
      refine AllReadyH.cons (o := { dst := some 11, op := Op.alloc 26, type := 0, pos := "get.go:27", after := #[], guard := none }) rfl (fun K hK => ?_) AllReadyH.nil
      go_simp
      obtain ⟨X3, hX⟩ : ∃ Z, X2.alloc (.cells #[.int .i64 0, .int .i64 0, .int .i64 0, .slice none 0 0, .string ⟨#[]⟩] 26) = Z := ⟨_, rfl⟩
      rw [hX]
      have hb : Below X2.heap.size X2 X3 := by rw [← hX]; exact (Below.refl _ _).alloc (Nat.le_refl _) _
      have B3 : Below W0.heap.size W0 X3 := B2.trans (hb.mono B2.size)
      have z3 := z2.below hb
      have y3 : FrAt X3 X2.heap.size 0 0 0 (.slice none 0 0) (.string ⟨#[]⟩) := by rw [← hX]; exact frAt_new _ _ _ _ _ _
      have hne : X2.heap.size ≠ W0.heap.size := by have := z2.lt; omega
      clear hX hb
      refine hK.out _ _ B3 (fun hHeld => ?_)
      clear hK K
      try simp only [Act.put, List.setIfInBounds_toArray, List.set_cons_zero, List.set_cons_succ]
      refine wpAnyH_ready (rs := [20]) (by kernel_rfl) (by simp) ?_
      refine AllReadyH.cons (o := { dst := none, op := Op.store 26 (Operand.tmp 11) (Operand.tmp 55), type := 0, pos := "get.go:27", after := #[{ on := 19, ground := Ground.data }, { on := 18, ground := Ground.data }, { on := 9, ground := Ground.chain }, { on := 0, ground := Ground.phase }, { on := 1, ground := Ground.phase }, { on := 2, ground := Ground.phase }, { on := 3, ground := Ground.phase }, { on := 4, ground := Ground.phase }, { on := 5, ground := Ground.phase }, { on := 6, ground := Ground.phase }, { on := 7, ground := Ground.phase }, { on := 8, ground := Ground.phase }, { on := 9, ground := Ground.phase }, { on := 10, ground := Ground.phase }, { on := 11, ground := Ground.phase }, { on := 12, ground := Ground.phase }, { on := 13, ground := Ground.phase }, { on := 14, ground := Ground.phase }, { on := 15, ground := Ground.phase }, { on := 16, ground := Ground.phase }, { on := 17, ground := Ground.phase }, { on := 18, ground := Ground.phase }, { on := 19, ground := Ground.phase }], guard := none }) rfl (fun K hK => ?_) AllReadyH.nil
      have u0 := y3.c0
      have u1 := y3.c1
      have u2 := y3.c2
      have u3 := y3.c3
      have u4 := y3.c4
      have uf := y3.f
      have hxB := (by have := B2.size; omega : W0.heap.size ≤ X2.heap.size)
      go_simp
      refine hK.out _ _ (frSet_below B3 hxB) (fun hHeld => ?_)
      clear hK K
      try simp only [Act.put, List.setIfInBounds_toArray, List.set_cons_zero, List.set_cons_succ]
      refine wpAnyH_done (by kernel_rfl) ?_ _
      exact hfin _ _ _ B3 y3 z3 (by have := B2.size; omega : W0.heap.size ≤ X2.heap.size) (by have := B0.size; omega : W0.heap.size ≤ W0.heap.size) hne
    refine AllReadyH.cons (o := { dst := some 11, op := Op.alloc 26, type := 0, pos := "get.go:27", after := #[], guard := none }) rfl (fun K hK => ?_) AllReadyH.nil
    go_simp
    obtain ⟨X2, hX⟩ : ∃ Z, X1.alloc (.cells #[.int .i64 0, .int .i64 0, .int .i64 0, .slice none 0 0, .string ⟨#[]⟩] 26) = Z := ⟨_, rfl⟩
    rw [hX]
    have hb : Below X1.heap.size X1 X2 := by rw [← hX]; exact (Below.refl _ _).alloc (Nat.le_refl _) _
    have B2 : Below W0.heap.size W0 X2 := B1.trans (hb.mono B1.size)
    have z2 := z1.below hb
    have y2 : FrAt X2 X1.heap.size 0 0 0 (.slice none 0 0) (.string ⟨#[]⟩) := by rw [← hX]; exact frAt_new _ _ _ _ _ _
    have hne : X1.heap.size ≠ W0.heap.size := by have := z1.lt; omega
    clear hX hb
    refine hK.out _ _ B2 (fun hHeld => ?_)
    clear hK K
    try simp only [Act.put, List.setIfInBounds_toArray, List.set_cons_zero, List.set_cons_succ]
    refine wpAnyH_ready (rs := [9]) (by kernel_rfl) (by simp) ?_
    refine AllReadyH.cons (o := { dst := some 46, op := Op.call { callee := Callee.value (Operand.func 24), args := #[Operand.tmp 45, Operand.const (Value.int IntKind.i64 3), Operand.const (Value.int IntKind.i64 6)], argTypes := #[35, 3, 3] }, type := 3, pos := "get.go:28", after := #[{ on := 8, ground := Ground.data }], guard := none }) rfl (fun K hK => ?_) AllReadyH.nil
    go_simp
    refine Calls.mono (hNum.out _ B2) ?_
    rintro e X3 ⟨rfl, hb⟩
    have B3 : Below W0.heap.size W0 X3 := B2.trans (hb.mono B2.size)
    have z3 := z2.below hb
    have y3 := y2.below hb
    clear hb
    go_wp2_with fail
    refine hK.out _ _ B3 (fun hHeld => ?_)
    clear hK K
    try simp only [Act.put, List.setIfInBounds_toArray, List.set_cons_zero, List.set_cons_succ]
    refine wpAnyH_take (i := 10) (oi := { dst := some 47, op := Op.build 23 #[(0, Operand.tmp 40), (1, Operand.tmp 44), (2, Operand.tmp 46)], type := 23, pos := "get.go:27", after := #[{ on := 3, ground := Ground.data }, { on := 7, ground := Ground.data }, { on := 9, ground := Ground.data }], guard := none }) (v := ?_) rfl (by kernel_rfl) (by kernel_rfl) (by kernel_rfl) (fun c a w h => hp c _ _ _ w h) (Or.inl ⟨by rfl, ?_⟩) hHeld ?_
    rotate_left
    · (intro w hSw; (try dsimp only at hSw); go_simp; all_goals (try with_reducible rfl))
    try simp only [Act.put, List.setIfInBounds_toArray, List.set_cons_zero, List.set_cons_succ]
    refine wpAnyH_take (i := 18) (oi := { dst := some 55, op := Op.build 26 #[(0, Operand.tmp 47), (1, Operand.tmp 49), (2, Operand.tmp 54)], type := 26, pos := "get.go:27", after := #[{ on := 10, ground := Ground.data }, { on := 12, ground := Ground.data }, { on := 17, ground := Ground.data }], guard := none }) (v := ?_) rfl (by kernel_rfl) (by kernel_rfl) (by kernel_rfl) (fun c a w h => hp c _ _ _ w h) (Or.inl ⟨by rfl, ?_⟩) hHeld ?_
    rotate_left
    · (intro w hSw; (try dsimp only at hSw); go_simp; all_goals (try with_reducible rfl))
    try simp only [Act.put, List.setIfInBounds_toArray, List.set_cons_zero, List.set_cons_succ]
    refine wpAnyH_ready (rs := [20]) (by kernel_rfl) (by simp) ?_
    refine AllReadyH.cons (o := { dst := none, op := Op.store 26 (Operand.tmp 11) (Operand.tmp 55), type := 0, pos := "get.go:27", after := #[{ on := 19, ground := Ground.data }, { on := 18, ground := Ground.data }, { on := 9, ground := Ground.chain }, { on := 0, ground := Ground.phase }, { on := 1, ground := Ground.phase }, { on := 2, ground := Ground.phase }, { on := 3, ground := Ground.phase }, { on := 4, ground := Ground.phase }, { on := 5, ground := Ground.phase }, { on := 6, ground := Ground.phase }, { on := 7, ground := Ground.phase }, { on := 8, ground := Ground.phase }, { on := 9, ground := Ground.phase }, { on := 10, ground := Ground.phase }, { on := 11, ground := Ground.phase }, { on := 12, ground := Ground.phase }, { on := 13, ground := Ground.phase }, { on := 14, ground := Ground.phase }, { on := 15, ground := Ground.phase }, { on := 16, ground := Ground.phase }, { on := 17, ground := Ground.phase }, { on := 18, ground := Ground.phase }, { on := 19, ground := Ground.phase }], guard := none }) rfl (fun K hK => ?_) AllReadyH.nil
    have u0 := y3.c0
    have u1 := y3.c1
    have u2 := y3.c2
    have u3 := y3.c3
    have u4 := y3.c4
    have uf := y3.f
    have hxB := (by have := B1.size; omega : W0.heap.size ≤ X1.heap.size)
    go_simp
    refine hK.out _ _ (frSet_below B3 hxB) (fun hHeld => ?_)
    clear hK K
    try simp only [Act.put, List.setIfInBounds_toArray, List.set_cons_zero, List.set_cons_succ]
    refine wpAnyH_done (by kernel_rfl) ?_ _
    exact hfin _ _ _ B3 y3 z3 (by have := B1.size; omega : W0.heap.size ≤ X1.heap.size) (by have := B0.size; omega : W0.heap.size ≤ W0.heap.size) hne
  refine AllReadyH.cons (o := { dst := some 11, op := Op.alloc 26, type := 0, pos := "get.go:27", after := #[], guard := none }) rfl (fun K hK => ?_) AllReadyH.nil
  go_simp
  obtain ⟨X1, hX⟩ : ∃ Z, W0.alloc (.cells #[.int .i64 0, .int .i64 0, .int .i64 0, .slice none 0 0, .string ⟨#[]⟩] 26) = Z := ⟨_, rfl⟩
  rw [hX]
  have hb : Below W0.heap.size W0 X1 := by rw [← hX]; exact (Below.refl _ _).alloc (Nat.le_refl _) _
  have B1 : Below W0.heap.size W0 X1 := B0.trans (hb.mono B0.size)
  have y1 : FrAt X1 W0.heap.size 0 0 0 (.slice none 0 0) (.string ⟨#[]⟩) := by rw [← hX]; exact frAt_new _ _ _ _ _ _
  clear hX hb
  refine hK.out _ _ B1 (fun hHeld => ?_)
  clear hK K
  try simp only [Act.put, List.setIfInBounds_toArray, List.set_cons_zero, List.set_cons_succ]
  refine wpAnyH_ready (rs := [9, 12]) (by kernel_rfl) (by simp) ?_
  refine AllReadyH.cons (o := { dst := some 46, op := Op.call { callee := Callee.value (Operand.func 24), args := #[Operand.tmp 45, Operand.const (Value.int IntKind.i64 3), Operand.const (Value.int IntKind.i64 6)], argTypes := #[35, 3, 3] }, type := 3, pos := "get.go:28", after := #[{ on := 8, ground := Ground.data }], guard := none }) rfl (fun K hK => ?_) ?_
  · go_simp
    refine Calls.mono (hNum.out _ B1) ?_
    rintro e X2 ⟨rfl, hb⟩
    have B2 : Below W0.heap.size W0 X2 := B1.trans (hb.mono B1.size)
    have y2 := y1.below hb
    clear hb
    go_wp2_with fail
    refine hK.out _ _ B2 (fun hHeld => ?_)
    clear hK K
    try simp only [Act.put, List.setIfInBounds_toArray, List.set_cons_zero, List.set_cons_succ]
    refine wpAnyH_take (i := 10) (oi := { dst := some 47, op := Op.build 23 #[(0, Operand.tmp 40), (1, Operand.tmp 44), (2, Operand.tmp 46)], type := 23, pos := "get.go:27", after := #[{ on := 3, ground := Ground.data }, { on := 7, ground := Ground.data }, { on := 9, ground := Ground.data }], guard := none }) (v := ?_) rfl (by kernel_rfl) (by kernel_rfl) (by kernel_rfl) (fun c a w h => hp c _ _ _ w h) (Or.inl ⟨by rfl, ?_⟩) hHeld ?_
    rotate_left
    · (intro w hSw; (try dsimp only at hSw); go_simp; all_goals (try with_reducible rfl))
    try simp only [Act.put, List.setIfInBounds_toArray, List.set_cons_zero, List.set_cons_succ]
    refine wpAnyH_ready (rs := [12]) (by kernel_rfl) (by simp) ?_
    refine AllReadyH.cons (o := { dst := some 49, op := Op.makeSlice 24 (Operand.tmp 48) (Operand.tmp 48), type := 24, pos := "get.go:27", after := #[{ on := 11, ground := Ground.data }, { on := 11, ground := Ground.data }], guard := none }) rfl (fun K hK => ?_) AllReadyH.nil
    obtain ⟨X3, hmk, hb, hz3, hlt3⟩ := make_ints X2 c hcm
    have B3 : Below W0.heap.size W0 X3 := B2.trans (hb.mono B2.size)
    have y3 := y2.below hb
    have z3 : ZeroRow X3 X2.heap.size c := hz3
    have hne : W0.heap.size ≠ X2.heap.size := by have := y2.lt; omega
    clear hz3 hb
    go_simp
    clear hmk
    refine hK.out _ _ B3 (fun hHeld => ?_)
    clear hK K
    try simp only [Act.put, List.setIfInBounds_toArray, List.set_cons_zero, List.set_cons_succ]
    refine wpAnyH_take (i := 18) (oi := { dst := some 55, op := Op.build 26 #[(0, Operand.tmp 47), (1, Operand.tmp 49), (2, Operand.tmp 54)], type := 26, pos := "get.go:27", after := #[{ on := 10, ground := Ground.data }, { on := 12, ground := Ground.data }, { on := 17, ground := Ground.data }], guard := none }) (v := ?_) rfl (by kernel_rfl) (by kernel_rfl) (by kernel_rfl) (fun c a w h => hp c _ _ _ w h) (Or.inl ⟨by rfl, ?_⟩) hHeld ?_
    rotate_left
    · (intro w hSw; (try dsimp only at hSw); go_simp; all_goals (try with_reducible rfl))
    try simp only [Act.put, List.setIfInBounds_toArray, List.set_cons_zero, List.set_cons_succ]
    refine wpAnyH_ready (rs := [20]) (by kernel_rfl) (by simp) ?_
    refine AllReadyH.cons (o := { dst := none, op := Op.store 26 (Operand.tmp 11) (Operand.tmp 55), type := 0, pos := "get.go:27", after := #[{ on := 19, ground := Ground.data }, { on := 18, ground := Ground.data }, { on := 9, ground := Ground.chain }, { on := 0, ground := Ground.phase }, { on := 1, ground := Ground.phase }, { on := 2, ground := Ground.phase }, { on := 3, ground := Ground.phase }, { on := 4, ground := Ground.phase }, { on := 5, ground := Ground.phase }, { on := 6, ground := Ground.phase }, { on := 7, ground := Ground.phase }, { on := 8, ground := Ground.phase }, { on := 9, ground := Ground.phase }, { on := 10, ground := Ground.phase }, { on := 11, ground := Ground.phase }, { on := 12, ground := Ground.phase }, { on := 13, ground := Ground.phase }, { on := 14, ground := Ground.phase }, { on := 15, ground := Ground.phase }, { on := 16, ground := Ground.phase }, { on := 17, ground := Ground.phase }, { on := 18, ground := Ground.phase }, { on := 19, ground := Ground.phase }], guard := none }) rfl (fun K hK => ?_) AllReadyH.nil
    have u0 := y3.c0
    have u1 := y3.c1
    have u2 := y3.c2
    have u3 := y3.c3
    have u4 := y3.c4
    have uf := y3.f
    have hxB := (by have := B0.size; omega : W0.heap.size ≤ W0.heap.size)
    go_simp
    refine hK.out _ _ (frSet_below B3 hxB) (fun hHeld => ?_)
    clear hK K
    try simp only [Act.put, List.setIfInBounds_toArray, List.set_cons_zero, List.set_cons_succ]
    refine wpAnyH_done (by kernel_rfl) ?_ _
    exact hfin _ _ _ B3 y3 z3 (by have := B0.size; omega : W0.heap.size ≤ W0.heap.size) (by have := B2.size; omega : W0.heap.size ≤ X2.heap.size) hne
  refine AllReadyH.cons (o := { dst := some 49, op := Op.makeSlice 24 (Operand.tmp 48) (Operand.tmp 48), type := 24, pos := "get.go:27", after := #[{ on := 11, ground := Ground.data }, { on := 11, ground := Ground.data }], guard := none }) rfl (fun K hK => ?_) AllReadyH.nil
  obtain ⟨X2, hmk, hb, hz2, hlt2⟩ := make_ints X1 c hcm
  have B2 : Below W0.heap.size W0 X2 := B1.trans (hb.mono B1.size)
  have y2 := y1.below hb
  have z2 : ZeroRow X2 X1.heap.size c := hz2
  have hne : W0.heap.size ≠ X1.heap.size := by have := y1.lt; omega
  clear hz2 hb
  go_simp
  clear hmk
  refine hK.out _ _ B2 (fun hHeld => ?_)
  clear hK K
  try simp only [Act.put, List.setIfInBounds_toArray, List.set_cons_zero, List.set_cons_succ]
  refine wpAnyH_ready (rs := [9]) (by kernel_rfl) (by simp) ?_
  refine AllReadyH.cons (o := { dst := some 46, op := Op.call { callee := Callee.value (Operand.func 24), args := #[Operand.tmp 45, Operand.const (Value.int IntKind.i64 3), Operand.const (Value.int IntKind.i64 6)], argTypes := #[35, 3, 3] }, type := 3, pos := "get.go:28", after := #[{ on := 8, ground := Ground.data }], guard := none }) rfl (fun K hK => ?_) AllReadyH.nil
  go_simp
  refine Calls.mono (hNum.out _ B2) ?_
  rintro e X3 ⟨rfl, hb⟩
  have B3 : Below W0.heap.size W0 X3 := B2.trans (hb.mono B2.size)
  have z3 := z2.below hb
  have y3 := y2.below hb
  clear hb
  go_wp2_with fail
  refine hK.out _ _ B3 (fun hHeld => ?_)
  clear hK K
  try simp only [Act.put, List.setIfInBounds_toArray, List.set_cons_zero, List.set_cons_succ]
  refine wpAnyH_take (i := 10) (oi := { dst := some 47, op := Op.build 23 #[(0, Operand.tmp 40), (1, Operand.tmp 44), (2, Operand.tmp 46)], type := 23, pos := "get.go:27", after := #[{ on := 3, ground := Ground.data }, { on := 7, ground := Ground.data }, { on := 9, ground := Ground.data }], guard := none }) (v := ?_) rfl (by kernel_rfl) (by kernel_rfl) (by kernel_rfl) (fun c a w h => hp c _ _ _ w h) (Or.inl ⟨by rfl, ?_⟩) hHeld ?_
  rotate_left
  · (intro w hSw; (try dsimp only at hSw); go_simp; all_goals (try with_reducible rfl))
  try simp only [Act.put, List.setIfInBounds_toArray, List.set_cons_zero, List.set_cons_succ]
  refine wpAnyH_take (i := 18) (oi := { dst := some 55, op := Op.build 26 #[(0, Operand.tmp 47), (1, Operand.tmp 49), (2, Operand.tmp 54)], type := 26, pos := "get.go:27", after := #[{ on := 10, ground := Ground.data }, { on := 12, ground := Ground.data }, { on := 17, ground := Ground.data }], guard := none }) (v := ?_) rfl (by kernel_rfl) (by kernel_rfl) (by kernel_rfl) (fun c a w h => hp c _ _ _ w h) (Or.inl ⟨by rfl, ?_⟩) hHeld ?_
  rotate_left
  · (intro w hSw; (try dsimp only at hSw); go_simp; all_goals (try with_reducible rfl))
  try simp only [Act.put, List.setIfInBounds_toArray, List.set_cons_zero, List.set_cons_succ]
  refine wpAnyH_ready (rs := [20]) (by kernel_rfl) (by simp) ?_
  refine AllReadyH.cons (o := { dst := none, op := Op.store 26 (Operand.tmp 11) (Operand.tmp 55), type := 0, pos := "get.go:27", after := #[{ on := 19, ground := Ground.data }, { on := 18, ground := Ground.data }, { on := 9, ground := Ground.chain }, { on := 0, ground := Ground.phase }, { on := 1, ground := Ground.phase }, { on := 2, ground := Ground.phase }, { on := 3, ground := Ground.phase }, { on := 4, ground := Ground.phase }, { on := 5, ground := Ground.phase }, { on := 6, ground := Ground.phase }, { on := 7, ground := Ground.phase }, { on := 8, ground := Ground.phase }, { on := 9, ground := Ground.phase }, { on := 10, ground := Ground.phase }, { on := 11, ground := Ground.phase }, { on := 12, ground := Ground.phase }, { on := 13, ground := Ground.phase }, { on := 14, ground := Ground.phase }, { on := 15, ground := Ground.phase }, { on := 16, ground := Ground.phase }, { on := 17, ground := Ground.phase }, { on := 18, ground := Ground.phase }, { on := 19, ground := Ground.phase }], guard := none }) rfl (fun K hK => ?_) AllReadyH.nil
  have u0 := y3.c0
  have u1 := y3.c1
  have u2 := y3.c2
  have u3 := y3.c3
  have u4 := y3.c4
  have uf := y3.f
  have hxB := (by have := B0.size; omega : W0.heap.size ≤ W0.heap.size)
  go_simp
  refine hK.out _ _ (frSet_below B3 hxB) (fun hHeld => ?_)
  clear hK K
  try simp only [Act.put, List.setIfInBounds_toArray, List.set_cons_zero, List.set_cons_succ]
  refine wpAnyH_done (by kernel_rfl) ?_ _
  exact hfin _ _ _ B3 y3 z3 (by have := B0.size; omega : W0.heap.size ≤ W0.heap.size) (by have := B1.size; omega : W0.heap.size ≤ X1.heap.size) hne
end Go.Proofs.Ytglkoedmonenoaa
