/- Wire's read: the region of a round. Conditions: what the bytes are. -/
import Derived.Test.YtglkoedmonenoaaWrD
namespace Go.Proofs.Ytglkoedmonenoaa
open Go.RowKit
set_option linter.unusedVariables false
set_option maxRecDepth 100000

/-- 'f.Nums[i] = number(..)', in whatever order. -/
@[reducible] def roundOps : Array Oper := #[{ dst := some 62, op := Op.fieldAddr 26 (Operand.tmp 11) 1, type := 0, pos := "get.go:33", after := #[], guard := none }, { dst := some 63, op := Op.load 24 (Operand.tmp 62), type := 24, pos := "get.go:33", after := #[{ on := 0, ground := Ground.data }], guard := none }, { dst := some 64, op := Op.move (Operand.tmp 12), type := 3, pos := "get.go:33", after := #[], guard := none }, { dst := some 65, op := Op.move (Operand.tmp 0), type := 35, pos := "get.go:33", after := #[], guard := none }, { dst := some 66, op := Op.move (Operand.tmp 12), type := 3, pos := "get.go:33", after := #[], guard := none }, { dst := some 67, op := Op.binOp BinOp.mul 3 (Operand.tmp 66) (Operand.const (Value.int IntKind.i64 8)) 3, type := 3, pos := "get.go:33", after := #[{ on := 4, ground := Ground.data }], guard := none }, { dst := some 68, op := Op.binOp BinOp.add 3 (Operand.const (Value.int IntKind.i64 10)) (Operand.tmp 67) 3, type := 3, pos := "get.go:33", after := #[{ on := 5, ground := Ground.data }], guard := none }, { dst := some 69, op := Op.call { callee := Callee.value (Operand.func 24), args := #[Operand.tmp 65, Operand.tmp 68, Operand.const (Value.int IntKind.i64 8)], argTypes := #[35, 3, 3] }, type := 3, pos := "get.go:33", after := #[{ on := 3, ground := Ground.data }, { on := 6, ground := Ground.data }], guard := none }, { dst := some 70, op := Op.indexAddr 24 (Operand.tmp 63) (Operand.tmp 64), type := 0, pos := "get.go:33", after := #[{ on := 1, ground := Ground.data }, { on := 2, ground := Ground.data }, { on := 0, ground := Ground.phase }, { on := 1, ground := Ground.phase }, { on := 2, ground := Ground.phase }, { on := 3, ground := Ground.phase }, { on := 4, ground := Ground.phase }, { on := 5, ground := Ground.phase }, { on := 6, ground := Ground.phase }, { on := 7, ground := Ground.phase }], guard := none }, { dst := none, op := Op.store 3 (Operand.tmp 70) (Operand.tmp 69), type := 0, pos := "get.go:33", after := #[{ on := 8, ground := Ground.data }, { on := 7, ground := Ground.data }, { on := 7, ground := Ground.chain }, { on := 0, ground := Ground.phase }, { on := 1, ground := Ground.phase }, { on := 2, ground := Ground.phase }, { on := 3, ground := Ground.phase }, { on := 4, ground := Ground.phase }, { on := 5, ground := Ground.phase }, { on := 6, ground := Ground.phase }, { on := 7, ground := Ground.phase }], guard := none }]
set_option maxHeartbeats 1600000 in
theorem read_round (W : World) (b' off n cap c x g i : Nat) (z : Int) (t1 t2 t3 t4 t5 t6 t7 t8 t9 t10 t13 t14 t15 t16 t17 t18 t19 t20 t21 t22 t23 t24 t25 t26 t27 t28 t29 t30 t31 t32 t33 t34 t35 t36 t37 t38 t39 t40 t41 t42 t43 t44 t45 t46 t47 t48 t49 t50 t51 t52 t53 t54 t55 t56 t57 t58 t59 t60 t61 t62 t63 t64 t65 t66 t67 t68 t69 t70 t71 t72 t73 t74 : Value) (Q : Exit → Act → World → Prop)
    (h3 : W.cell? ⟨x, 3, none⟩ = some (.slice (some ⟨g, 0, none⟩) c c)) (hz : ZeroRow W g c) (hi : i < c) (hcm : c ≤ 1000) (hxg : x ≠ g)
    (hnum : ∀ X, Below W.heap.size W X → Calls Try.prog 24 #[.slice (some ⟨b', off, none⟩) n cap, .int .i64 (10 + (i : Int) * 8), .int .i64 8] X fun e X' => e = .returned (.int .i64 z) ∧ Below X.heap.size X X')
    (hp : ∀ c a (dd : Option Tmp) vv w, Q (.panic c) (a.put dd vv) w → Q (.panic c) a w)
    (hfin : ∀ (X : World) (hB : Below W.heap.size W X), Q .normal { tmps := #[Value.slice (some ⟨b', off, none⟩) n cap, t1, t2, t3, t4, t5, t6, t7, t8, t9, t10, Value.pointer (some ⟨x, 0, none⟩), Value.int .i64 i, t13, t14, t15, t16, t17, t18, t19, t20, t21, t22, t23, t24, t25, t26, t27, t28, t29, t30, t31, t32, t33, t34, t35, t36, t37, t38, t39, t40, t41, t42, t43, t44, t45, t46, t47, t48, t49, t50, t51, t52, t53, t54, t55, t56, t57, t58, t59, t60, t61, Value.pointer (some ⟨x, 3, none⟩), Value.slice (some ⟨g, 0, none⟩) c c, Value.int .i64 i, Value.slice (some ⟨b', off, none⟩) n cap, Value.int .i64 i, Value.int .i64 ((i : Int) * 8), Value.int .i64 (10 + (i : Int) * 8), Value.int .i64 z, Value.pointer (some ⟨g, i, none⟩), t71, t72, t73, t74], defers := [] } (X.setCell ⟨g, i, none⟩ (.int .i64 z))) :
    Code.wp Try.prog (Code.region 13 roundOps true) Q { tmps := #[Value.slice (some ⟨b', off, none⟩) n cap, t1, t2, t3, t4, t5, t6, t7, t8, t9, t10, Value.pointer (some ⟨x, 0, none⟩), Value.int .i64 i, t13, t14, t15, t16, t17, t18, t19, t20, t21, t22, t23, t24, t25, t26, t27, t28, t29, t30, t31, t32, t33, t34, t35, t36, t37, t38, t39, t40, t41, t42, t43, t44, t45, t46, t47, t48, t49, t50, t51, t52, t53, t54, t55, t56, t57, t58, t59, t60, t61, t62, t63, t64, t65, t66, t67, t68, t69, t70, t71, t72, t73, t74], defers := [] } W := by
  obtain ⟨W0, hW0⟩ : ∃ Z, W.drew = Z := ⟨_, rfl⟩
  have hsz : W0.heap.size = W.heap.size := by rw [← hW0]; rfl
  have D0 : Below W.heap.size W W0 := by rw [← hW0]; exact (Below.refl _ _).drew
  have tr : ∀ X, Below W0.heap.size W0 X → Below W.heap.size W X := fun X h => D0.trans (by rw [← hsz]; exact h)
  have hC3 : ∀ X, Below W0.heap.size W0 X → X.cell? ⟨x, 3, none⟩ = some (.slice (some ⟨g, 0, none⟩) c c) := fun X h => (Mod.of_below (S := []) (tr X h)).cell h3 (by simp)
  have hZ : ∀ X, Below W0.heap.size W0 X → ∃ z0, X.cell? ⟨g, i, none⟩ = some (.int .i64 z0) := fun X h => (hz.below (tr X h)).cell i hi
  have hF : ∀ X, Below W0.heap.size W0 X → X.frozen? ⟨g, i, none⟩ = false := fun X h => (hz.below (tr X h)).f i
  have hNum : Hid (∀ X, Below W0.heap.size W0 X → Calls Try.prog 24 #[.slice (some ⟨b', off, none⟩) n cap, .int .i64 (10 + (i : Int) * 8), .int .i64 8] X fun e X' => e = .returned (.int .i64 z) ∧ Below X.heap.size X X') := fun X h => hnum X (tr X h)
  have hfin : ∀ (X : World) (hB : Below W0.heap.size W0 X), Q .normal { tmps := #[Value.slice (some ⟨b', off, none⟩) n cap, t1, t2, t3, t4, t5, t6, t7, t8, t9, t10, Value.pointer (some ⟨x, 0, none⟩), Value.int .i64 i, t13, t14, t15, t16, t17, t18, t19, t20, t21, t22, t23, t24, t25, t26, t27, t28, t29, t30, t31, t32, t33, t34, t35, t36, t37, t38, t39, t40, t41, t42, t43, t44, t45, t46, t47, t48, t49, t50, t51, t52, t53, t54, t55, t56, t57, t58, t59, t60, t61, Value.pointer (some ⟨x, 3, none⟩), Value.slice (some ⟨g, 0, none⟩) c c, Value.int .i64 i, Value.slice (some ⟨b', off, none⟩) n cap, Value.int .i64 i, Value.int .i64 ((i : Int) * 8), Value.int .i64 (10 + (i : Int) * 8), Value.int .i64 z, Value.pointer (some ⟨g, i, none⟩), t71, t72, t73, t74], defers := [] } (X.setCell ⟨g, i, none⟩ (.int .i64 z)) := fun X h => hfin X (tr X h)
  have B0 : Below W0.heap.size W0 W0 := Below.refl _ _
  have hw8 : IntKind.i64.wrap ((i : Int) * 8) = (i : Int) * 8 := by rw [IntKind.wrap_i64]; omega
  have hw10 : IntKind.i64.wrap (10 + (i : Int) * 8) = 10 + (i : Int) * 8 := by rw [IntKind.wrap_i64]; omega
  have hic : (i : Int) < (c : Int) := by omega
  refine wp_region_held_drew (S := fun X => ∃ Y, Below W0.heap.size W0 Y ∧ Mod [g] Y X ∧ X.cell? ⟨x, 3, none⟩ = some (.slice (some ⟨g, 0, none⟩) c c)) (by kernel_rfl) (by rw [hW0]; exact ⟨_, B0, Mod.refl _ _, hC3 _ B0⟩) (fun hHeld => ?_)
  rw [hW0] at hHeld ⊢
  clear hW0 D0 hsz tr h3 hz hnum
  refine wpAnyH_take (i := 0) (oi := { dst := some 62, op := Op.fieldAddr 26 (Operand.tmp 11) 1, type := 0, pos := "get.go:33", after := #[], guard := none }) (v := ?_) rfl (by kernel_rfl) (by kernel_rfl) (by kernel_rfl) (fun c a w h => hp c _ _ _ w h) (Or.inl ⟨by rfl, ?_⟩) hHeld ?_
  rotate_left
  · (intro w hSw; (try dsimp only at hSw); go_simp; all_goals (try with_reducible rfl))
  try simp only [Act.put, List.setIfInBounds_toArray, List.set_cons_zero, List.set_cons_succ]
  refine wpAnyH_take (i := 1) (oi := { dst := some 63, op := Op.load 24 (Operand.tmp 62), type := 24, pos := "get.go:33", after := #[{ on := 0, ground := Ground.data }], guard := none }) (v := ?_) rfl (by kernel_rfl) (by kernel_rfl) (by kernel_rfl) (fun c a w h => hp c _ _ _ w h) (Or.inl ⟨by rfl, ?_⟩) hHeld ?_
  rotate_left
  · (intro w hSw; (try dsimp only at hSw); have h1 := hSw.choose_spec.2.2; go_simp; all_goals (try with_reducible rfl))
  try simp only [Act.put, List.setIfInBounds_toArray, List.set_cons_zero, List.set_cons_succ]
  refine wpAnyH_take (i := 2) (oi := { dst := some 64, op := Op.move (Operand.tmp 12), type := 3, pos := "get.go:33", after := #[], guard := none }) (v := ?_) rfl (by kernel_rfl) (by kernel_rfl) (by kernel_rfl) (fun c a w h => hp c _ _ _ w h) (Or.inl ⟨by rfl, ?_⟩) hHeld ?_
  rotate_left
  · (intro w hSw; (try dsimp only at hSw); go_simp; all_goals (try with_reducible rfl))
  try simp only [Act.put, List.setIfInBounds_toArray, List.set_cons_zero, List.set_cons_succ]
  refine wpAnyH_take (i := 3) (oi := { dst := some 65, op := Op.move (Operand.tmp 0), type := 35, pos := "get.go:33", after := #[], guard := none }) (v := ?_) rfl (by kernel_rfl) (by kernel_rfl) (by kernel_rfl) (fun c a w h => hp c _ _ _ w h) (Or.inl ⟨by rfl, ?_⟩) hHeld ?_
  rotate_left
  · (intro w hSw; (try dsimp only at hSw); go_simp; all_goals (try with_reducible rfl))
  try simp only [Act.put, List.setIfInBounds_toArray, List.set_cons_zero, List.set_cons_succ]
  refine wpAnyH_take (i := 4) (oi := { dst := some 66, op := Op.move (Operand.tmp 12), type := 3, pos := "get.go:33", after := #[], guard := none }) (v := ?_) rfl (by kernel_rfl) (by kernel_rfl) (by kernel_rfl) (fun c a w h => hp c _ _ _ w h) (Or.inl ⟨by rfl, ?_⟩) hHeld ?_
  rotate_left
  · (intro w hSw; (try dsimp only at hSw); go_simp; all_goals (try with_reducible rfl))
  try simp only [Act.put, List.setIfInBounds_toArray, List.set_cons_zero, List.set_cons_succ]
  refine wpAnyH_take (i := 5) (oi := { dst := some 67, op := Op.binOp BinOp.mul 3 (Operand.tmp 66) (Operand.const (Value.int IntKind.i64 8)) 3, type := 3, pos := "get.go:33", after := #[{ on := 4, ground := Ground.data }], guard := none }) (v := ?_) rfl (by kernel_rfl) (by kernel_rfl) (by kernel_rfl) (fun c a w h => hp c _ _ _ w h) (Or.inl ⟨by rfl, ?_⟩) hHeld ?_
  rotate_left
  · (intro w hSw; (try dsimp only at hSw); go_simp; all_goals (try with_reducible rfl))
  try simp only [Act.put, List.setIfInBounds_toArray, List.set_cons_zero, List.set_cons_succ]
  refine wpAnyH_take (i := 6) (oi := { dst := some 68, op := Op.binOp BinOp.add 3 (Operand.const (Value.int IntKind.i64 10)) (Operand.tmp 67) 3, type := 3, pos := "get.go:33", after := #[{ on := 5, ground := Ground.data }], guard := none }) (v := ?_) rfl (by kernel_rfl) (by kernel_rfl) (by kernel_rfl) (fun c a w h => hp c _ _ _ w h) (Or.inl ⟨by rfl, ?_⟩) hHeld ?_
  rotate_left
  · (intro w hSw; (try dsimp only at hSw); go_simp; all_goals (try with_reducible rfl))
  try simp only [Act.put, List.setIfInBounds_toArray, List.set_cons_zero, List.set_cons_succ]
  refine wpAnyH_ready (rs := [7]) (by kernel_rfl) (by simp) ?_
  refine AllReadyH.cons (o := { dst := some 69, op := Op.call { callee := Callee.value (Operand.func 24), args := #[Operand.tmp 65, Operand.tmp 68, Operand.const (Value.int IntKind.i64 8)], argTypes := #[35, 3, 3] }, type := 3, pos := "get.go:33", after := #[{ on := 3, ground := Ground.data }, { on := 6, ground := Ground.data }], guard := none }) rfl (fun K hK => ?_) AllReadyH.nil
  go_simp
  refine Calls.mono (hNum.out _ B0) ?_
  rintro e X1 ⟨rfl, hb⟩
  have B1 : Below W0.heap.size W0 X1 := hb
  clear hb
  go_wp2_with fail
  refine hK.out _ _ ⟨_, B1, Mod.refl _ _, hC3 _ B1⟩ (fun hHeld => ?_)
  clear hK K
  try simp only [Act.put, List.setIfInBounds_toArray, List.set_cons_zero, List.set_cons_succ]
  refine wpAnyH_take (i := 8) (oi := { dst := some 70, op := Op.indexAddr 24 (Operand.tmp 63) (Operand.tmp 64), type := 0, pos := "get.go:33", after := #[{ on := 1, ground := Ground.data }, { on := 2, ground := Ground.data }, { on := 0, ground := Ground.phase }, { on := 1, ground := Ground.phase }, { on := 2, ground := Ground.phase }, { on := 3, ground := Ground.phase }, { on := 4, ground := Ground.phase }, { on := 5, ground := Ground.phase }, { on := 6, ground := Ground.phase }, { on := 7, ground := Ground.phase }], guard := none }) (v := ?_) rfl (by kernel_rfl) (by kernel_rfl) (by kernel_rfl) (fun c a w h => hp c _ _ _ w h) (Or.inl ⟨by rfl, ?_⟩) hHeld ?_
  rotate_left
  · (intro w hSw; (try dsimp only at hSw); go_simp; all_goals (try with_reducible rfl))
  try simp only [Act.put, List.setIfInBounds_toArray, List.set_cons_zero, List.set_cons_succ]
  refine wpAnyH_ready (rs := [9]) (by kernel_rfl) (by simp) ?_
  refine AllReadyH.cons (o := { dst := none, op := Op.store 3 (Operand.tmp 70) (Operand.tmp 69), type := 0, pos := "get.go:33", after := #[{ on := 8, ground := Ground.data }, { on := 7, ground := Ground.data }, { on := 7, ground := Ground.chain }, { on := 0, ground := Ground.phase }, { on := 1, ground := Ground.phase }, { on := 2, ground := Ground.phase }, { on := 3, ground := Ground.phase }, { on := 4, ground := Ground.phase }, { on := 5, ground := Ground.phase }, { on := 6, ground := Ground.phase }, { on := 7, ground := Ground.phase }], guard := none }) rfl (fun K hK => ?_) AllReadyH.nil
  obtain ⟨z0, u0⟩ := hZ _ B1
  have uf := hF _ B1
  have u3 := hC3 _ B1
  go_simp
  refine hK.out _ _ ⟨_, B1, (Mod.refl _ _).setCell _ _ _ (by simp), ?_⟩ (fun hHeld => ?_)
  · rw [cell_ob _ _ _ _ _ _ hxg]; exact u3
  clear hK K
  try simp only [Act.put, List.setIfInBounds_toArray, List.set_cons_zero, List.set_cons_succ]
  refine wpAnyH_done (by kernel_rfl) ?_ _
  exact hfin _ B1
end Go.Proofs.Ytglkoedmonenoaa
