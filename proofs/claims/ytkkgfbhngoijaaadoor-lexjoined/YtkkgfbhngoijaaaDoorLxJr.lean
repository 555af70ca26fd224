/- LexJoined: a round's two words, copied into boxes. -/
import Derived.Test.YtkkgfbhngoijaaaDoorLxJ0
import Derived.Deep.RegionHeld
namespace Go.Proofs.YtkkgfbhngoijaaaDoor
open Go.RowKit
set_option linter.unusedVariables false
set_option maxRecDepth 100000

@[reducible] def joinedOps : Array Oper := #[{ dst := some 109, op := Op.move (Operand.tmp 13), type := 23, pos := "law.go:119", after := #[], guard := none }, { dst := some 110, op := Op.move (Operand.tmp 5), type := 23, pos := "law.go:119", after := #[], guard := none }, { dst := some 111, op := Op.call { callee := Callee.builtin Builtin.len, args := #[Operand.tmp 110], argTypes := #[23] }, type := 3, pos := "law.go:119", after := #[{ on := 1, ground := Ground.data }], guard := none }, { dst := some 112, op := Op.binOp BinOp.sub 3 (Operand.tmp 111) (Operand.const (Value.int IntKind.i64 1)) 3, type := 3, pos := "law.go:119", after := #[{ on := 2, ground := Ground.data }], guard := none }, { dst := some 113, op := Op.move (Operand.tmp 18), type := 3, pos := "law.go:119", after := #[], guard := none }, { dst := some 114, op := Op.binOp BinOp.add 3 (Operand.tmp 112) (Operand.tmp 113) 3, type := 3, pos := "law.go:119", after := #[{ on := 3, ground := Ground.data }, { on := 4, ground := Ground.data }], guard := none }, { dst := some 115, op := Op.indexAddr 23 (Operand.tmp 109) (Operand.tmp 114), type := 0, pos := "law.go:119", after := #[{ on := 0, ground := Ground.data }, { on := 5, ground := Ground.data }], guard := none }, { dst := some 116, op := Op.load 28 (Operand.tmp 115), type := 28, pos := "law.go:119", after := #[{ on := 6, ground := Ground.data }], guard := none }, { dst := some 117, op := Op.move (Operand.tmp 9), type := 23, pos := "law.go:119", after := #[{ on := 14, ground := Ground.gcOnly Departure.lateStores }], guard := none }, { dst := some 118, op := Op.move (Operand.tmp 18), type := 3, pos := "law.go:119", after := #[{ on := 14, ground := Ground.gcOnly Departure.lateStores }], guard := none }, { dst := some 119, op := Op.indexAddr 23 (Operand.tmp 117) (Operand.tmp 118), type := 0, pos := "law.go:119", after := #[{ on := 8, ground := Ground.data }, { on := 9, ground := Ground.data }, { on := 14, ground := Ground.gcOnly Departure.lateStores }], guard := none }, { dst := some 120, op := Op.load 28 (Operand.tmp 119), type := 28, pos := "law.go:119", after := #[{ on := 10, ground := Ground.data }, { on := 14, ground := Ground.gcOnly Departure.lateStores }], guard := none }, { dst := some 19, op := Op.alloc 28, type := 0, pos := "law.go:119", after := #[], guard := none }, { dst := some 20, op := Op.alloc 28, type := 0, pos := "law.go:119", after := #[], guard := none }, { dst := none, op := Op.store 28 (Operand.tmp 19) (Operand.tmp 116), type := 0, pos := "law.go:119", after := #[{ on := 12, ground := Ground.data }, { on := 7, ground := Ground.data }, { on := 0, ground := Ground.phase }, { on := 1, ground := Ground.phase }, { on := 2, ground := Ground.phase }, { on := 3, ground := Ground.phase }, { on := 4, ground := Ground.phase }, { on := 5, ground := Ground.phase }, { on := 6, ground := Ground.phase }, { on := 7, ground := Ground.phase }, { on := 8, ground := Ground.textOnly Departure.lateStores }, { on := 9, ground := Ground.textOnly Departure.lateStores }, { on := 10, ground := Ground.textOnly Departure.lateStores }, { on := 11, ground := Ground.textOnly Departure.lateStores }, { on := 12, ground := Ground.phase }, { on := 13, ground := Ground.phase }], guard := none }, { dst := none, op := Op.store 28 (Operand.tmp 20) (Operand.tmp 120), type := 0, pos := "law.go:119", after := #[{ on := 13, ground := Ground.data }, { on := 11, ground := Ground.data }, { on := 14, ground := Ground.chain }, { on := 0, ground := Ground.phase }, { on := 1, ground := Ground.phase }, { on := 2, ground := Ground.phase }, { on := 3, ground := Ground.phase }, { on := 4, ground := Ground.phase }, { on := 5, ground := Ground.phase }, { on := 6, ground := Ground.phase }, { on := 7, ground := Ground.phase }, { on := 8, ground := Ground.phase }, { on := 9, ground := Ground.phase }, { on := 10, ground := Ground.phase }, { on := 11, ground := Ground.phase }, { on := 12, ground := Ground.phase }, { on := 13, ground := Ground.phase }, { on := 14, ground := Ground.phase }], guard := none }]
set_option maxHeartbeats 4000000 in
theorem joined_tail (W : World) (g1 g2 g3 n1 n2 n3 c1 c2 c3 k q : Nat) (xk xn xl xc yk yn yl yc : Int) (xt yt : ByteArray) (t0 t1 t2 t3 t4 t6 t7 t8 t10 t11 t12 t14 t15 t16 t17 t19 t20 t21 t22 t23 t24 t25 t26 t27 t28 t29 t30 t31 t32 t33 t34 t35 t36 t37 t38 t39 t40 t41 t42 t43 t44 t45 t46 t47 t48 t49 t50 t51 t52 t53 t54 t55 t56 t57 t58 t59 t60 t61 t62 t63 t64 t65 t66 t67 t68 t69 t70 t71 t72 t73 t74 t75 t76 t77 t78 t79 t80 t81 t82 t83 t84 t85 t86 t87 t88 t89 t90 t91 t92 t93 t94 t95 t96 t97 t98 t99 t100 t101 t102 t103 t104 t105 t106 t107 t108 t109 t110 t111 t112 t113 t114 t115 t116 t117 t118 t119 t120 t121 t122 t123 t124 t125 t126 t127 t128 t129 t130 t131 t132 t133 t134 t135 t136 t137 t138 t139 t140 t141 t142 t143 t144 t145 t146 t147 t148 t149 : Value) (Q : Exit → Act → World → Prop) (hp : ∀ c a (dd : Option Tmp) vv w, Q (.panic c) (a.put dd vv) w → Q (.panic c) a w)
    (hk : k < n2) (hq : q + 1 = n1 + k) (hq3 : q < n3) (hn1 : 0 < n1) (hb1 : n1 ≤ 65537) (hb2 : n2 ≤ 65537) (hb3 : n3 ≤ 65537)
    (hx : ∀ w, Mod [] W w → w.cell? ⟨g3, q * 5, none⟩ = some (Value.int .i64 xk) ∧ w.cell? ⟨g3, q * 5 + 1, none⟩ = some (Value.string xt) ∧ w.cell? ⟨g3, q * 5 + 2, none⟩ = some (Value.int .i64 xn) ∧ w.cell? ⟨g3, q * 5 + 3, none⟩ = some (Value.int .i64 xl) ∧ w.cell? ⟨g3, q * 5 + 4, none⟩ = some (Value.int .i64 xc))
    (hy : ∀ w, Mod [] W w → w.cell? ⟨g2, k * 5, none⟩ = some (Value.int .i64 yk) ∧ w.cell? ⟨g2, k * 5 + 1, none⟩ = some (Value.string yt) ∧ w.cell? ⟨g2, k * 5 + 2, none⟩ = some (Value.int .i64 yn) ∧ w.cell? ⟨g2, k * 5 + 3, none⟩ = some (Value.int .i64 yl) ∧ w.cell? ⟨g2, k * 5 + 4, none⟩ = some (Value.int .i64 yc))
    (hfin : ∀ (V : World) (b1 b2 : Nat) (p109 p110 p111 p112 p113 p114 p115 p116 p117 p118 p119 p120 : Value), Box5 V b1 (Value.int .i64 xk) (Value.string xt) (Value.int .i64 xn) (Value.int .i64 xl) (Value.int .i64 xc) → Box5 V b2 (Value.int .i64 yk) (Value.string yt) (Value.int .i64 yn) (Value.int .i64 yl) (Value.int .i64 yc) → Mod [] W V → Q .normal { tmps := #[t0, t1, t2, t3, t4, Value.slice (some ⟨g1, 0, none⟩) n1 c1, t6, t7, t8, Value.slice (some ⟨g2, 0, none⟩) n2 c2, t10, t11, t12, Value.slice (some ⟨g3, 0, none⟩) n3 c3, t14, t15, t16, t17, Value.int .i64 k, Value.pointer (some ⟨b1, 0, none⟩), Value.pointer (some ⟨b2, 0, none⟩), t21, t22, t23, t24, t25, t26, t27, t28, t29, t30, t31, t32, t33, t34, t35, t36, t37, t38, t39, t40, t41, t42, t43, t44, t45, t46, t47, t48, t49, t50, t51, t52, t53, t54, t55, t56, t57, t58, t59, t60, t61, t62, t63, t64, t65, t66, t67, t68, t69, t70, t71, t72, t73, t74, t75, t76, t77, t78, t79, t80, t81, t82, t83, t84, t85, t86, t87, t88, t89, t90, t91, t92, t93, t94, t95, t96, t97, t98, t99, t100, t101, t102, t103, t104, t105, t106, t107, t108, p109, p110, p111, p112, p113, p114, p115, p116, p117, p118, p119, p120, t121, t122, t123, t124, t125, t126, t127, t128, t129, t130, t131, t132, t133, t134, t135, t136, t137, t138, t139, t140, t141, t142, t143, t144, t145, t146, t147, t148, t149], defers := [] } V) :
    Code.wp Tryd.prog (Code.region 18 joinedOps true) Q { tmps := #[t0, t1, t2, t3, t4, Value.slice (some ⟨g1, 0, none⟩) n1 c1, t6, t7, t8, Value.slice (some ⟨g2, 0, none⟩) n2 c2, t10, t11, t12, Value.slice (some ⟨g3, 0, none⟩) n3 c3, t14, t15, t16, t17, Value.int .i64 k, t19, t20, t21, t22, t23, t24, t25, t26, t27, t28, t29, t30, t31, t32, t33, t34, t35, t36, t37, t38, t39, t40, t41, t42, t43, t44, t45, t46, t47, t48, t49, t50, t51, t52, t53, t54, t55, t56, t57, t58, t59, t60, t61, t62, t63, t64, t65, t66, t67, t68, t69, t70, t71, t72, t73, t74, t75, t76, t77, t78, t79, t80, t81, t82, t83, t84, t85, t86, t87, t88, t89, t90, t91, t92, t93, t94, t95, t96, t97, t98, t99, t100, t101, t102, t103, t104, t105, t106, t107, t108, t109, t110, t111, t112, t113, t114, t115, t116, t117, t118, t119, t120, t121, t122, t123, t124, t125, t126, t127, t128, t129, t130, t131, t132, t133, t134, t135, t136, t137, t138, t139, t140, t141, t142, t143, t144, t145, t146, t147, t148, t149], defers := [] } W := by
  have hwr : IntKind.i64.wrap ((n1 : Int) - 1 + (k : Int)) = (q : Int) := by rw [IntKind.wrap_i64]; omega
  obtain ⟨W0, hW0⟩ : ∃ Z, W.drew = Z := ⟨_, rfl⟩
  have hM0 : Mod [] W W0 := by rw [← hW0]; exact (Mod.refl _ _).drew
  have HSZ : Hid (W0.heap.size = W.heap.size) := by show _ = _; rw [← hW0]; rfl
  have hwr0 : IntKind.i64.wrap ((n1 : Int) - 1) = (n1 : Int) - 1 := by rw [IntKind.wrap_i64]; omega
  refine wp_region_held_drew (S := fun X : World => Mod [] W X) (by kernel_rfl) (by rw [hW0]; exact hM0) (fun hHeld => ?_)
  rw [hW0] at hHeld ⊢
  clear hW0
  refine wpAnyH_take (i := 0) (oi := { dst := some 109, op := Op.move (Operand.tmp 13), type := 23, pos := "law.go:119", after := #[], guard := none }) (v := ?_) rfl (by kernel_rfl) (by kernel_rfl) (by kernel_rfl) (fun c a w h => hp c _ _ _ w h) (Or.inl ⟨by rfl, ?_⟩) hHeld ?_
  rotate_left
  · (intro w hSw; (try dsimp only at hSw); go_simp; all_goals (try with_reducible rfl))
  try simp only [Act.put, List.setIfInBounds_toArray, List.set_cons_zero, List.set_cons_succ]
  refine wpAnyH_take (i := 1) (oi := { dst := some 110, op := Op.move (Operand.tmp 5), type := 23, pos := "law.go:119", after := #[], guard := none }) (v := ?_) rfl (by kernel_rfl) (by kernel_rfl) (by kernel_rfl) (fun c a w h => hp c _ _ _ w h) (Or.inl ⟨by rfl, ?_⟩) hHeld ?_
  rotate_left
  · (intro w hSw; (try dsimp only at hSw); go_simp; all_goals (try with_reducible rfl))
  try simp only [Act.put, List.setIfInBounds_toArray, List.set_cons_zero, List.set_cons_succ]
  refine wpAnyH_take (i := 2) (oi := { dst := some 111, op := Op.call { callee := Callee.builtin Builtin.len, args := #[Operand.tmp 110], argTypes := #[23] }, type := 3, pos := "law.go:119", after := #[{ on := 1, ground := Ground.data }], guard := none }) (v := ?_) rfl (by kernel_rfl) (by kernel_rfl) (by kernel_rfl) (fun c a w h => hp c _ _ _ w h) (Or.inl ⟨by rfl, ?_⟩) hHeld ?_
  rotate_left
  · (intro w hSw; (try dsimp only at hSw); go_simp; all_goals (try with_reducible rfl))
  try simp only [Act.put, List.setIfInBounds_toArray, List.set_cons_zero, List.set_cons_succ]
  refine wpAnyH_take (i := 3) (oi := { dst := some 112, op := Op.binOp BinOp.sub 3 (Operand.tmp 111) (Operand.const (Value.int IntKind.i64 1)) 3, type := 3, pos := "law.go:119", after := #[{ on := 2, ground := Ground.data }], guard := none }) (v := Value.int .i64 ((n1 : Int) - 1)) rfl (by kernel_rfl) (by kernel_rfl) (by kernel_rfl) (fun c a w h => hp c _ _ _ w h) (Or.inl ⟨by rfl, (by intro w hSw; (try dsimp only at hSw); go_simp; all_goals (first | with_reducible rfl | (rw [hwr0]; done) | (rw [hwr0]; with_reducible rfl) | (rw [hwr]; done) | (rw [hwr]; with_reducible rfl) | (simp [hwr]; done) | (simp; omega) | omega))⟩) hHeld ?_
  try simp only [Act.put, List.setIfInBounds_toArray, List.set_cons_zero, List.set_cons_succ]
  refine wpAnyH_take (i := 4) (oi := { dst := some 113, op := Op.move (Operand.tmp 18), type := 3, pos := "law.go:119", after := #[], guard := none }) (v := ?_) rfl (by kernel_rfl) (by kernel_rfl) (by kernel_rfl) (fun c a w h => hp c _ _ _ w h) (Or.inl ⟨by rfl, ?_⟩) hHeld ?_
  rotate_left
  · (intro w hSw; (try dsimp only at hSw); go_simp; all_goals (try with_reducible rfl))
  try simp only [Act.put, List.setIfInBounds_toArray, List.set_cons_zero, List.set_cons_succ]
  refine wpAnyH_take (i := 5) (oi := { dst := some 114, op := Op.binOp BinOp.add 3 (Operand.tmp 112) (Operand.tmp 113) 3, type := 3, pos := "law.go:119", after := #[{ on := 3, ground := Ground.data }, { on := 4, ground := Ground.data }], guard := none }) (v := Value.int .i64 (q : Int)) rfl (by kernel_rfl) (by kernel_rfl) (by kernel_rfl) (fun c a w h => hp c _ _ _ w h) (Or.inl ⟨by rfl, (by intro w hSw; (try dsimp only at hSw); go_simp; all_goals (first | with_reducible rfl | (rw [hwr0]; done) | (rw [hwr0]; with_reducible rfl) | (rw [hwr]; done) | (rw [hwr]; with_reducible rfl) | (simp [hwr]; done) | (simp; omega) | omega))⟩) hHeld ?_
  try simp only [Act.put, List.setIfInBounds_toArray, List.set_cons_zero, List.set_cons_succ]
  refine wpAnyH_take (i := 6) (oi := { dst := some 115, op := Op.indexAddr 23 (Operand.tmp 109) (Operand.tmp 114), type := 0, pos := "law.go:119", after := #[{ on := 0, ground := Ground.data }, { on := 5, ground := Ground.data }], guard := none }) (v := ?_) rfl (by kernel_rfl) (by kernel_rfl) (by kernel_rfl) (fun c a w h => hp c _ _ _ w h) (Or.inl ⟨by rfl, ?_⟩) hHeld ?_
  rotate_left
  · (intro w hSw; (try dsimp only at hSw); go_simp; all_goals (try with_reducible rfl))
  try simp only [Act.put, List.setIfInBounds_toArray, List.set_cons_zero, List.set_cons_succ]
  refine wpAnyH_take (i := 7) (oi := { dst := some 116, op := Op.load 28 (Operand.tmp 115), type := 28, pos := "law.go:119", after := #[{ on := 6, ground := Ground.data }], guard := none }) (v := Value.agg #[(Value.int .i64 xk), (Value.string xt), (Value.int .i64 xn), (Value.int .i64 xl), (Value.int .i64 xc)]) rfl (by kernel_rfl) (by kernel_rfl) (by kernel_rfl) (fun c a w h => hp c _ _ _ w h) (Or.inl ⟨by rfl, (by intro w hSw; (try dsimp only at hSw); obtain ⟨z0, z1, z2, z3, z4⟩ := hx w hSw; go_simp; all_goals (first | with_reducible rfl | (rw [hwr0]; done) | (rw [hwr0]; with_reducible rfl) | (rw [hwr]; done) | (rw [hwr]; with_reducible rfl) | (simp [hwr]; done) | (simp; omega) | omega))⟩) hHeld ?_
  try simp only [Act.put, List.setIfInBounds_toArray, List.set_cons_zero, List.set_cons_succ]
  refine wpAnyH_take (i := 8) (oi := { dst := some 117, op := Op.move (Operand.tmp 9), type := 23, pos := "law.go:119", after := #[{ on := 14, ground := Ground.gcOnly Departure.lateStores }], guard := none }) (v := ?_) rfl (by kernel_rfl) (by kernel_rfl) (by kernel_rfl) (fun c a w h => hp c _ _ _ w h) (Or.inl ⟨by rfl, ?_⟩) hHeld ?_
  rotate_left
  · (intro w hSw; (try dsimp only at hSw); go_simp; all_goals (try with_reducible rfl))
  try simp only [Act.put, List.setIfInBounds_toArray, List.set_cons_zero, List.set_cons_succ]
  refine wpAnyH_take (i := 9) (oi := { dst := some 118, op := Op.move (Operand.tmp 18), type := 3, pos := "law.go:119", after := #[{ on := 14, ground := Ground.gcOnly Departure.lateStores }], guard := none }) (v := ?_) rfl (by kernel_rfl) (by kernel_rfl) (by kernel_rfl) (fun c a w h => hp c _ _ _ w h) (Or.inl ⟨by rfl, ?_⟩) hHeld ?_
  rotate_left
  · (intro w hSw; (try dsimp only at hSw); go_simp; all_goals (try with_reducible rfl))
  try simp only [Act.put, List.setIfInBounds_toArray, List.set_cons_zero, List.set_cons_succ]
  refine wpAnyH_take (i := 10) (oi := { dst := some 119, op := Op.indexAddr 23 (Operand.tmp 117) (Operand.tmp 118), type := 0, pos := "law.go:119", after := #[{ on := 8, ground := Ground.data }, { on := 9, ground := Ground.data }, { on := 14, ground := Ground.gcOnly Departure.lateStores }], guard := none }) (v := ?_) rfl (by kernel_rfl) (by kernel_rfl) (by kernel_rfl) (fun c a w h => hp c _ _ _ w h) (Or.inl ⟨by rfl, ?_⟩) hHeld ?_
  rotate_left
  · (intro w hSw; (try dsimp only at hSw); go_simp; all_goals (try with_reducible rfl))
  try simp only [Act.put, List.setIfInBounds_toArray, List.set_cons_zero, List.set_cons_succ]
  refine wpAnyH_take (i := 11) (oi := { dst := some 120, op := Op.load 28 (Operand.tmp 119), type := 28, pos := "law.go:119", after := #[{ on := 10, ground := Ground.data }, { on := 14, ground := Ground.gcOnly Departure.lateStores }], guard := none }) (v := Value.agg #[(Value.int .i64 yk), (Value.string yt), (Value.int .i64 yn), (Value.int .i64 yl), (Value.int .i64 yc)]) rfl (by kernel_rfl) (by kernel_rfl) (by kernel_rfl) (fun c a w h => hp c _ _ _ w h) (Or.inl ⟨by rfl, (by intro w hSw; (try dsimp only at hSw); obtain ⟨z0, z1, z2, z3, z4⟩ := hy w hSw; go_simp; all_goals (first | with_reducible rfl | (rw [hwr0]; done) | (rw [hwr0]; with_reducible rfl) | (rw [hwr]; done) | (rw [hwr]; with_reducible rfl) | (simp [hwr]; done) | (simp; omega) | omega))⟩) hHeld ?_
  try simp only [Act.put, List.setIfInBounds_toArray, List.set_cons_zero, List.set_cons_succ]
  refine wpAnyH_ready (rs := [12, 13]) (by kernel_rfl) (by simp) ?_
  refine AllReadyH.cons (o := { dst := some 19, op := Op.alloc 28, type := 0, pos := "law.go:119", after := #[], guard := none }) rfl (fun K hK => ?_) ?_
  · go_simp
    refine hK.out _ _ (by (repeat first | exact hM0 | refine Mod.alloc ?_ _ | refine Mod.setNew ?_ _ _ _ (by have := HSZ.out; simp; omega))) (fun hHeld => ?_)
    clear hK K
    try simp only [Act.put, List.setIfInBounds_toArray, List.set_cons_zero, List.set_cons_succ]
    refine wpAnyH_ready (rs := [13]) (by kernel_rfl) (by simp) ?_
    refine AllReadyH.cons (o := { dst := some 20, op := Op.alloc 28, type := 0, pos := "law.go:119", after := #[], guard := none }) rfl (fun K hK => ?_) AllReadyH.nil
    go_simp
    refine hK.out _ _ (by (repeat first | exact hM0 | refine Mod.alloc ?_ _ | refine Mod.setNew ?_ _ _ _ (by have := HSZ.out; simp; omega))) (fun hHeld => ?_)
    clear hK K
    try simp only [Act.put, List.setIfInBounds_toArray, List.set_cons_zero, List.set_cons_succ]
    refine wpAnyH_ready (rs := [14]) (by kernel_rfl) (by simp) ?_
    refine AllReadyH.cons (o := { dst := none, op := Op.store 28 (Operand.tmp 19) (Operand.tmp 116), type := 0, pos := "law.go:119", after := #[{ on := 12, ground := Ground.data }, { on := 7, ground := Ground.data }, { on := 0, ground := Ground.phase }, { on := 1, ground := Ground.phase }, { on := 2, ground := Ground.phase }, { on := 3, ground := Ground.phase }, { on := 4, ground := Ground.phase }, { on := 5, ground := Ground.phase }, { on := 6, ground := Ground.phase }, { on := 7, ground := Ground.phase }, { on := 8, ground := Ground.textOnly Departure.lateStores }, { on := 9, ground := Ground.textOnly Departure.lateStores }, { on := 10, ground := Ground.textOnly Departure.lateStores }, { on := 11, ground := Ground.textOnly Departure.lateStores }, { on := 12, ground := Ground.phase }, { on := 13, ground := Ground.phase }], guard := none }) rfl (fun K hK => ?_) AllReadyH.nil
    go_simp
    refine hK.out _ _ (by (repeat first | exact hM0 | refine Mod.alloc ?_ _ | refine Mod.setNew ?_ _ _ _ (by have := HSZ.out; simp; omega))) (fun hHeld => ?_)
    clear hK K
    try simp only [Act.put, List.setIfInBounds_toArray, List.set_cons_zero, List.set_cons_succ]
    refine wpAnyH_ready (rs := [15]) (by kernel_rfl) (by simp) ?_
    refine AllReadyH.cons (o := { dst := none, op := Op.store 28 (Operand.tmp 20) (Operand.tmp 120), type := 0, pos := "law.go:119", after := #[{ on := 13, ground := Ground.data }, { on := 11, ground := Ground.data }, { on := 14, ground := Ground.chain }, { on := 0, ground := Ground.phase }, { on := 1, ground := Ground.phase }, { on := 2, ground := Ground.phase }, { on := 3, ground := Ground.phase }, { on := 4, ground := Ground.phase }, { on := 5, ground := Ground.phase }, { on := 6, ground := Ground.phase }, { on := 7, ground := Ground.phase }, { on := 8, ground := Ground.phase }, { on := 9, ground := Ground.phase }, { on := 10, ground := Ground.phase }, { on := 11, ground := Ground.phase }, { on := 12, ground := Ground.phase }, { on := 13, ground := Ground.phase }, { on := 14, ground := Ground.phase }], guard := none }) rfl (fun K hK => ?_) AllReadyH.nil
    go_simp
    refine hK.out _ _ (by (repeat first | exact hM0 | refine Mod.alloc ?_ _ | refine Mod.setNew ?_ _ _ _ (by have := HSZ.out; simp; omega))) (fun hHeld => ?_)
    clear hK K
    try simp only [Act.put, List.setIfInBounds_toArray, List.set_cons_zero, List.set_cons_succ]
    refine wpAnyH_done (by kernel_rfl) ?_ _
    refine hfin _ _ _ _ _ _ _ _ _ _ _ _ _ _ _ ?_ ?_ ?_
    · exact ⟨by simp [go_sem], by simp [go_sem], by simp [go_sem], by simp [go_sem], by simp [go_sem], fun i => by simp [go_sem]⟩
    · exact ⟨by simp [go_sem], by simp [go_sem], by simp [go_sem], by simp [go_sem], by simp [go_sem], fun i => by simp [go_sem]⟩
    · exact (by (repeat first | exact hM0 | refine Mod.alloc ?_ _ | refine Mod.setNew ?_ _ _ _ (by have := HSZ.out; simp; omega)))
  refine AllReadyH.cons (o := { dst := some 20, op := Op.alloc 28, type := 0, pos := "law.go:119", after := #[], guard := none }) rfl (fun K hK => ?_) AllReadyH.nil
  go_simp
  refine hK.out _ _ (by (repeat first | exact hM0 | refine Mod.alloc ?_ _ | refine Mod.setNew ?_ _ _ _ (by have := HSZ.out; simp; omega))) (fun hHeld => ?_)
  clear hK K
  try simp only [Act.put, List.setIfInBounds_toArray, List.set_cons_zero, List.set_cons_succ]
  refine wpAnyH_ready (rs := [12]) (by kernel_rfl) (by simp) ?_
  refine AllReadyH.cons (o := { dst := some 19, op := Op.alloc 28, type := 0, pos := "law.go:119", after := #[], guard := none }) rfl (fun K hK => ?_) AllReadyH.nil
  go_simp
  refine hK.out _ _ (by (repeat first | exact hM0 | refine Mod.alloc ?_ _ | refine Mod.setNew ?_ _ _ _ (by have := HSZ.out; simp; omega))) (fun hHeld => ?_)
  clear hK K
  try simp only [Act.put, List.setIfInBounds_toArray, List.set_cons_zero, List.set_cons_succ]
  refine wpAnyH_ready (rs := [14]) (by kernel_rfl) (by simp) ?_
  refine AllReadyH.cons (o := { dst := none, op := Op.store 28 (Operand.tmp 19) (Operand.tmp 116), type := 0, pos := "law.go:119", after := #[{ on := 12, ground := Ground.data }, { on := 7, ground := Ground.data }, { on := 0, ground := Ground.phase }, { on := 1, ground := Ground.phase }, { on := 2, ground := Ground.phase }, { on := 3, ground := Ground.phase }, { on := 4, ground := Ground.phase }, { on := 5, ground := Ground.phase }, { on := 6, ground := Ground.phase }, { on := 7, ground := Ground.phase }, { on := 8, ground := Ground.textOnly Departure.lateStores }, { on := 9, ground := Ground.textOnly Departure.lateStores }, { on := 10, ground := Ground.textOnly Departure.lateStores }, { on := 11, ground := Ground.textOnly Departure.lateStores }, { on := 12, ground := Ground.phase }, { on := 13, ground := Ground.phase }], guard := none }) rfl (fun K hK => ?_) AllReadyH.nil
  go_simp
  refine hK.out _ _ (by (repeat first | exact hM0 | refine Mod.alloc ?_ _ | refine Mod.setNew ?_ _ _ _ (by have := HSZ.out; simp; omega))) (fun hHeld => ?_)
  clear hK K
  try simp only [Act.put, List.setIfInBounds_toArray, List.set_cons_zero, List.set_cons_succ]
  refine wpAnyH_ready (rs := [15]) (by kernel_rfl) (by simp) ?_
  refine AllReadyH.cons (o := { dst := none, op := Op.store 28 (Operand.tmp 20) (Operand.tmp 120), type := 0, pos := "law.go:119", after := #[{ on := 13, ground := Ground.data }, { on := 11, ground := Ground.data }, { on := 14, ground := Ground.chain }, { on := 0, ground := Ground.phase }, { on := 1, ground := Ground.phase }, { on := 2, ground := Ground.phase }, { on := 3, ground := Ground.phase }, { on := 4, ground := Ground.phase }, { on := 5, ground := Ground.phase }, { on := 6, ground := Ground.phase }, { on := 7, ground := Ground.phase }, { on := 8, ground := Ground.phase }, { on := 9, ground := Ground.phase }, { on := 10, ground := Ground.phase }, { on := 11, ground := Ground.phase }, { on := 12, ground := Ground.phase }, { on := 13, ground := Ground.phase }, { on := 14, ground := Ground.phase }], guard := none }) rfl (fun K hK => ?_) AllReadyH.nil
  go_simp
  refine hK.out _ _ (by (repeat first | exact hM0 | refine Mod.alloc ?_ _ | refine Mod.setNew ?_ _ _ _ (by have := HSZ.out; simp; omega))) (fun hHeld => ?_)
  clear hK K
  try simp only [Act.put, List.setIfInBounds_toArray, List.set_cons_zero, List.set_cons_succ]
  refine wpAnyH_done (by kernel_rfl) ?_ _
  refine hfin _ _ _ _ _ _ _ _ _ _ _ _ _ _ _ ?_ ?_ ?_
  · exact ⟨by simp [go_sem], by simp [go_sem], by simp [go_sem], by simp [go_sem], by simp [go_sem], fun i => by simp [go_sem]⟩
  · exact ⟨by simp [go_sem], by simp [go_sem], by simp [go_sem], by simp [go_sem], by simp [go_sem], fun i => by simp [go_sem]⟩
  · exact (by (repeat first | exact hM0 | refine Mod.alloc ?_ _ | refine Mod.setNew ?_ _ _ _ (by have := HSZ.out; simp; omega)))
end Go.Proofs.YtkkgfbhngoijaaaDoor
