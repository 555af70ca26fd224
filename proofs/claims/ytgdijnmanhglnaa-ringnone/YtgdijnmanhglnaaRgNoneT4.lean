/- RingNone: its last region, in whatever order: what may come up next. -/
import Derived.Test.YtgdijnmanhglnaaRgNoneT3
import Derived.Deep.RegionHeld3
namespace Go.Proofs.Ytgdijnmanhglnaa
open Go.RowKit
set_option linter.unusedVariables false
set_option maxRecDepth 100000
set_option maxHeartbeats 16000000 in
theorem seg29 (w : World) (b u d : Nat) (t0 t1 t2 t9 t11 t13 t15 t17 t19 t20 t21 t22 t23 t24 t25 t26 t27 t28 t29 t30 t31 t32 t33 t34 t35 t36 t37 t38 t39 t40 t41 t42 t43 t44 t45 t46 t47 t48 t49 t50 t51 t52 t53 t54 t55 t56 t57 t58 t59 t60 t61 t62 t63 t64 t65 t66 t67 t68 t69 t70 t71 t72 t73 t74 t75 t76 t77 t78 t79 t80 t81 t82 t83 t84 t85 t86 t87 t88 t89 t90 t91 t92 t93 t94 t95 t96 t97 t98 t99 t100 t101 t102 t103 t104 t105 t106 t107 t108 t109 t110 t111 t112 t113 t114 t115 t116 t117 t118 t119 t120 t121 t122 t123 t124 t125 t126 t127 t128 t129 t130 t131 t132 t133 t134 t135 t136 : Value) (Q : Exit → Act → World → Prop) (hp : ∀ c a (dd : Option Tmp) vv w, Q (.panic c) (a.put dd vv) w → Q (.panic c) a w) (hfin : NoneFin w b u d t0 t1 t2 t9 t11 t13 t15 t17 t19 t20 t21 t22 t23 t24 t25 t26 t27 t28 t29 t30 t31 t32 t33 t34 t35 t36 t37 t38 t39 t40 t41 t42 t43 t44 t45 t46 t47 t48 t49 t50 t51 t52 t53 t54 t55 t56 t57 t58 t59 t60 t61 t62 t63 t64 t65 t66 t67 t68 t69 t70 t71 t72 t73 t74 t75 t76 t77 t78 t79 t80 t81 t82 t83 t84 t85 t86 t87 t88 t89 t90 t91 t92 t93 t94 t95 t96 t97 t98 t99 t100 t101 t102 t103 t104 t105 t106 t107 t108 t109 t110 t111 t112 t113 t114 t115 t116 t117 t118 t119 t120 t121 t122 t123 t124 t125 t126 t127 t128 t129 t130 t131 t132 t133 t134 t135 t136 Q)
    (fuel : Nat) (l : Array Bool) (X : World) (g50 : Nat) (hfu : fuel = 22) (hll : l = #[true, true, true, true, true, true, true, true, true, true, true, true, true, true, true, true, true, true, true, true, true, true, true, true, true, false, false, true, true, true, true, false, false, true, false, false, true, false, false, true, true, true, true, false, false, true, false, false, false, true, true, false, false, true, false, false, true, false, false, false, false, false]) (Z : Zeros w X b u d) (R : IntRow X (some ⟨g50, 0, none⟩) [3] ∧ g50 ≠ d) :
    wpAnyH Try.prog .any noneOps Q (fun W' : World => W'.cell? ⟨u, 0, none⟩ = some (.pointer none)) fuel l { tmps := #[t0, t1, t2, Value.pointer none, Value.pointer none, Value.pointer none, Value.pointer (some ⟨b, 0, none⟩), Value.pointer (some ⟨u, 0, none⟩), Value.pointer (some ⟨d, 0, none⟩), t9, Value.int .i64 3, t11, Value.int .i64 3, t13, Value.int .i64 3, t15, Value.int .i64 3, t17, Value.int .i64 3, t19, t20, t21, t22, t23, t24, t25, t26, t27, t28, t29, t30, t31, t32, t33, t34, t35, t36, t37, t38, t39, t40, t41, t42, t43, t44, t45, t46, t47, t48, t49, t50, t51, t52, t53, t54, t55, t56, t57, t58, t59, t60, t61, t62, t63, t64, t65, t66, t67, t68, t69, t70, t71, t72, t73, t74, t75, Value.bool true, Value.bool true, Value.int .i64 3, Value.bool true, Value.bool true, Value.bool true, Value.int .i64 3, Value.bool true, Value.bool true, Value.bool true, Value.int .i64 3, Value.bool true, Value.bool true, Value.bool true, Value.int .i64 3, Value.bool true, Value.bool true, Value.bool true, Value.int .i64 3, Value.bool true, Value.bool true, Value.bool true, Value.pointer none, Value.int .i64 0, Value.pointer (some ⟨b, 0, none⟩), t101, t102, Value.pointer (some ⟨u, 0, none⟩), Value.pointer (some ⟨u, 0, none⟩), Value.pointer (some ⟨u, 0, none⟩), Value.pointer none, t107, t108, Value.pointer none, t110, t111, Value.pointer (some ⟨b, 0, none⟩), t113, t114, Value.pointer (some ⟨u, 0, none⟩), Value.pointer (some ⟨u, 0, none⟩), Value.pointer (some ⟨u, 0, none⟩), Value.pointer none, t119, t120, Value.pointer none, t122, t123, t124, Value.pointer (some ⟨d, 0, none⟩), Value.slice (some ⟨g50, 0, none⟩) 1 1, t127, t128, Value.pointer none, t130, t131, Value.pointer (some ⟨d, 0, none⟩), t133, t134, t135, t136], defers := [] } X := by
  subst hfu hll
  have hHeld := Z.u0
  refine wpAnyH_ready (rs := [25, 46]) (by kernel_rfl) (by simp) ?_
  refine AllReadyH.cons (o := { dst := some 101, op := Op.call { callee := Callee.value (Operand.func 23), args := #[Operand.tmp 100], argTypes := #[24] }, type := 3, pos := "law.go:148", after := #[{ on := 24, ground := Ground.data }, { on := 23, ground := Ground.chain }, { on := 21, ground := Ground.guard }], guard := some (21, true) }) rfl (fun K hK => ?_) ?_
  · go_simp
    refine Calls.mono (len_zero Z.b2) ?_
    rintro e Y ⟨rfl, hw⟩
    have hw' := hw.symm; subst hw'; clear hw
    have Z' := Z
    have R' := R
    go_wp2_with fail
    refine hK.out _ _ Z'.u0 (fun hHeld => ?_)
    clear hK K
    try simp only [List.setIfInBounds_toArray, List.set_cons_zero, List.set_cons_succ]
    refine wpAnyH_take (i := 26) (oi := { dst := some 102, op := Op.binOp BinOp.add 3 (Operand.tmp 99) (Operand.tmp 101) 3, type := 3, pos := "law.go:148", after := #[{ on := 23, ground := Ground.data }, { on := 25, ground := Ground.data }, { on := 21, ground := Ground.guard }], guard := some (21, true) }) (v := ?_) rfl (by kernel_rfl) (by kernel_rfl) (by kernel_rfl) (fun c a w h => hp c _ _ _ w h) (Or.inl ⟨by rfl, ?_⟩) hHeld ?_
    rotate_left
    · (intro w hSw; (try dsimp only at hSw); go_simp; all_goals (try with_reducible rfl))
    try simp only [Act.put, List.setIfInBounds_toArray, List.set_cons_zero, List.set_cons_succ]
    exact seg26 w b u d t0 t1 t2 t9 t11 t13 t15 t17 t19 t20 t21 t22 t23 t24 t25 t26 t27 t28 t29 t30 t31 t32 t33 t34 t35 t36 t37 t38 t39 t40 t41 t42 t43 t44 t45 t46 t47 t48 t49 t50 t51 t52 t53 t54 t55 t56 t57 t58 t59 t60 t61 t62 t63 t64 t65 t66 t67 t68 t69 t70 t71 t72 t73 t74 t75 t76 t77 t78 t79 t80 t81 t82 t83 t84 t85 t86 t87 t88 t89 t90 t91 t92 t93 t94 t95 t96 t97 t98 t99 t100 t101 t102 t103 t104 t105 t106 t107 t108 t109 t110 t111 t112 t113 t114 t115 t116 t117 t118 t119 t120 t121 t122 t123 t124 t125 t126 t127 t128 t129 t130 t131 t132 t133 t134 t135 t136 Q hp hfin _ _ _ g50 rfl (by decide) Z' R'
  refine AllReadyH.cons (o := { dst := some 122, op := Op.buildSlice 32 1 #[(0, Operand.const (Value.int IntKind.i64 3))], type := 32, pos := "law.go:148", after := #[{ on := 21, ground := Ground.guard }], guard := some (21, true) }) rfl (fun K hK => ?_) AllReadyH.nil
  go_simp
  have hb : Below X.heap.size X (X.alloc (.cells #[.int .i64 3] 3)) := (Below.refl _ X).alloc (Nat.le_refl _) _
  have Z' := Z.stays hb
  have l' := Z.lt
  have R' : IntRow (X.alloc (.cells #[.int .i64 3] 3)) (some ⟨g50, 0, none⟩) [3] ∧ g50 ≠ d := ⟨R.1.below hb, R.2⟩
  refine hK.out _ _ Z'.u0 (fun hHeld => ?_)
  clear hK K
  try simp only [List.setIfInBounds_toArray, List.set_cons_zero, List.set_cons_succ]
  exact seg28 w b u d t0 t1 t2 t9 t11 t13 t15 t17 t19 t20 t21 t22 t23 t24 t25 t26 t27 t28 t29 t30 t31 t32 t33 t34 t35 t36 t37 t38 t39 t40 t41 t42 t43 t44 t45 t46 t47 t48 t49 t50 t51 t52 t53 t54 t55 t56 t57 t58 t59 t60 t61 t62 t63 t64 t65 t66 t67 t68 t69 t70 t71 t72 t73 t74 t75 t76 t77 t78 t79 t80 t81 t82 t83 t84 t85 t86 t87 t88 t89 t90 t91 t92 t93 t94 t95 t96 t97 t98 t99 t100 t101 t102 t103 t104 t105 t106 t107 t108 t109 t110 t111 t112 t113 t114 t115 t116 t117 t118 t119 t120 t121 t122 t123 t124 t125 t126 t127 t128 t129 t130 t131 t132 t133 t134 t135 t136 Q hp hfin _ _ _ _ g50 rfl (by decide) Z' R'
set_option maxHeartbeats 16000000 in
theorem seg1 (w : World) (b u d : Nat) (t0 t1 t2 t9 t11 t13 t15 t17 t19 t20 t21 t22 t23 t24 t25 t26 t27 t28 t29 t30 t31 t32 t33 t34 t35 t36 t37 t38 t39 t40 t41 t42 t43 t44 t45 t46 t47 t48 t49 t50 t51 t52 t53 t54 t55 t56 t57 t58 t59 t60 t61 t62 t63 t64 t65 t66 t67 t68 t69 t70 t71 t72 t73 t74 t75 t76 t77 t78 t79 t80 t81 t82 t83 t84 t85 t86 t87 t88 t89 t90 t91 t92 t93 t94 t95 t96 t97 t98 t99 t100 t101 t102 t103 t104 t105 t106 t107 t108 t109 t110 t111 t112 t113 t114 t115 t116 t117 t118 t119 t120 t121 t122 t123 t124 t125 t126 t127 t128 t129 t130 t131 t132 t133 t134 t135 t136 : Value) (Q : Exit → Act → World → Prop) (hp : ∀ c a (dd : Option Tmp) vv w, Q (.panic c) (a.put dd vv) w → Q (.panic c) a w) (hfin : NoneFin w b u d t0 t1 t2 t9 t11 t13 t15 t17 t19 t20 t21 t22 t23 t24 t25 t26 t27 t28 t29 t30 t31 t32 t33 t34 t35 t36 t37 t38 t39 t40 t41 t42 t43 t44 t45 t46 t47 t48 t49 t50 t51 t52 t53 t54 t55 t56 t57 t58 t59 t60 t61 t62 t63 t64 t65 t66 t67 t68 t69 t70 t71 t72 t73 t74 t75 t76 t77 t78 t79 t80 t81 t82 t83 t84 t85 t86 t87 t88 t89 t90 t91 t92 t93 t94 t95 t96 t97 t98 t99 t100 t101 t102 t103 t104 t105 t106 t107 t108 t109 t110 t111 t112 t113 t114 t115 t116 t117 t118 t119 t120 t121 t122 t123 t124 t125 t126 t127 t128 t129 t130 t131 t132 t133 t134 t135 t136 Q)
    (fuel : Nat) (l : Array Bool) (X : World) (hfu : fuel = 23) (hll : l = #[true, true, true, true, true, true, true, true, true, true, true, true, true, true, true, true, true, true, true, true, true, true, true, true, true, false, false, true, true, true, true, false, false, true, false, false, true, false, false, true, true, true, true, false, false, true, false, false, false, true, false, false, false, true, false, false, true, false, false, false, false, false]) (Z : Zeros w X b u d) :
    wpAnyH Try.prog .any noneOps Q (fun W' : World => W'.cell? ⟨u, 0, none⟩ = some (.pointer none)) fuel l { tmps := #[t0, t1, t2, Value.pointer none, Value.pointer none, Value.pointer none, Value.pointer (some ⟨b, 0, none⟩), Value.pointer (some ⟨u, 0, none⟩), Value.pointer (some ⟨d, 0, none⟩), t9, Value.int .i64 3, t11, Value.int .i64 3, t13, Value.int .i64 3, t15, Value.int .i64 3, t17, Value.int .i64 3, t19, t20, t21, t22, t23, t24, t25, t26, t27, t28, t29, t30, t31, t32, t33, t34, t35, t36, t37, t38, t39, t40, t41, t42, t43, t44, t45, t46, t47, t48, t49, t50, t51, t52, t53, t54, t55, t56, t57, t58, t59, t60, t61, t62, t63, t64, t65, t66, t67, t68, t69, t70, t71, t72, t73, t74, t75, Value.bool true, Value.bool true, Value.int .i64 3, Value.bool true, Value.bool true, Value.bool true, Value.int .i64 3, Value.bool true, Value.bool true, Value.bool true, Value.int .i64 3, Value.bool true, Value.bool true, Value.bool true, Value.int .i64 3, Value.bool true, Value.bool true, Value.bool true, Value.int .i64 3, Value.bool true, Value.bool true, Value.bool true, Value.pointer none, Value.int .i64 0, Value.pointer (some ⟨b, 0, none⟩), t101, t102, Value.pointer (some ⟨u, 0, none⟩), Value.pointer (some ⟨u, 0, none⟩), Value.pointer (some ⟨u, 0, none⟩), Value.pointer none, t107, t108, Value.pointer none, t110, t111, Value.pointer (some ⟨b, 0, none⟩), t113, t114, Value.pointer (some ⟨u, 0, none⟩), Value.pointer (some ⟨u, 0, none⟩), Value.pointer (some ⟨u, 0, none⟩), Value.pointer none, t119, t120, Value.pointer none, t122, t123, t124, Value.pointer (some ⟨d, 0, none⟩), t126, t127, t128, Value.pointer none, t130, t131, Value.pointer (some ⟨d, 0, none⟩), t133, t134, t135, t136], defers := [] } X := by
  subst hfu hll
  have hHeld := Z.u0
  refine wpAnyH_ready (rs := [25, 46, 50]) (by kernel_rfl) (by simp) ?_
  refine AllReadyH.cons (o := { dst := some 101, op := Op.call { callee := Callee.value (Operand.func 23), args := #[Operand.tmp 100], argTypes := #[24] }, type := 3, pos := "law.go:148", after := #[{ on := 24, ground := Ground.data }, { on := 23, ground := Ground.chain }, { on := 21, ground := Ground.guard }], guard := some (21, true) }) rfl (fun K hK => ?_) ?_
  · go_simp
    refine Calls.mono (len_zero Z.b2) ?_
    rintro e Y ⟨rfl, hw⟩
    have hw' := hw.symm; subst hw'; clear hw
    have Z' := Z
    go_wp2_with fail
    refine hK.out _ _ Z'.u0 (fun hHeld => ?_)
    clear hK K
    try simp only [List.setIfInBounds_toArray, List.set_cons_zero, List.set_cons_succ]
    refine wpAnyH_take (i := 26) (oi := { dst := some 102, op := Op.binOp BinOp.add 3 (Operand.tmp 99) (Operand.tmp 101) 3, type := 3, pos := "law.go:148", after := #[{ on := 23, ground := Ground.data }, { on := 25, ground := Ground.data }, { on := 21, ground := Ground.guard }], guard := some (21, true) }) (v := ?_) rfl (by kernel_rfl) (by kernel_rfl) (by kernel_rfl) (fun c a w h => hp c _ _ _ w h) (Or.inl ⟨by rfl, ?_⟩) hHeld ?_
    rotate_left
    · (intro w hSw; (try dsimp only at hSw); go_simp; all_goals (try with_reducible rfl))
    try simp only [Act.put, List.setIfInBounds_toArray, List.set_cons_zero, List.set_cons_succ]
    exact seg2 w b u d t0 t1 t2 t9 t11 t13 t15 t17 t19 t20 t21 t22 t23 t24 t25 t26 t27 t28 t29 t30 t31 t32 t33 t34 t35 t36 t37 t38 t39 t40 t41 t42 t43 t44 t45 t46 t47 t48 t49 t50 t51 t52 t53 t54 t55 t56 t57 t58 t59 t60 t61 t62 t63 t64 t65 t66 t67 t68 t69 t70 t71 t72 t73 t74 t75 t76 t77 t78 t79 t80 t81 t82 t83 t84 t85 t86 t87 t88 t89 t90 t91 t92 t93 t94 t95 t96 t97 t98 t99 t100 t101 t102 t103 t104 t105 t106 t107 t108 t109 t110 t111 t112 t113 t114 t115 t116 t117 t118 t119 t120 t121 t122 t123 t124 t125 t126 t127 t128 t129 t130 t131 t132 t133 t134 t135 t136 Q hp hfin _ _ _  rfl (by decide) Z'
  refine AllReadyH.cons (o := { dst := some 122, op := Op.buildSlice 32 1 #[(0, Operand.const (Value.int IntKind.i64 3))], type := 32, pos := "law.go:148", after := #[{ on := 21, ground := Ground.guard }], guard := some (21, true) }) rfl (fun K hK => ?_) ?_
  · go_simp
    have hb : Below X.heap.size X (X.alloc (.cells #[.int .i64 3] 3)) := (Below.refl _ X).alloc (Nat.le_refl _) _
    have Z' := Z.stays hb
    have l' := Z.lt
    refine hK.out _ _ Z'.u0 (fun hHeld => ?_)
    clear hK K
    try simp only [List.setIfInBounds_toArray, List.set_cons_zero, List.set_cons_succ]
    exact seg27 w b u d t0 t1 t2 t9 t11 t13 t15 t17 t19 t20 t21 t22 t23 t24 t25 t26 t27 t28 t29 t30 t31 t32 t33 t34 t35 t36 t37 t38 t39 t40 t41 t42 t43 t44 t45 t46 t47 t48 t49 t50 t51 t52 t53 t54 t55 t56 t57 t58 t59 t60 t61 t62 t63 t64 t65 t66 t67 t68 t69 t70 t71 t72 t73 t74 t75 t76 t77 t78 t79 t80 t81 t82 t83 t84 t85 t86 t87 t88 t89 t90 t91 t92 t93 t94 t95 t96 t97 t98 t99 t100 t101 t102 t103 t104 t105 t106 t107 t108 t109 t110 t111 t112 t113 t114 t115 t116 t117 t118 t119 t120 t121 t122 t123 t124 t125 t126 t127 t128 t129 t130 t131 t132 t133 t134 t135 t136 Q hp hfin _ _ _ _ rfl (by decide) Z'
  refine AllReadyH.cons (o := { dst := some 126, op := Op.buildSlice 32 1 #[(0, Operand.const (Value.int IntKind.i64 3))], type := 32, pos := "law.go:148", after := #[{ on := 21, ground := Ground.guard }], guard := some (21, true) }) rfl (fun K hK => ?_) AllReadyH.nil
  go_simp
  have hb : Below X.heap.size X (X.alloc (.cells #[.int .i64 3] 3)) := (Below.refl _ X).alloc (Nat.le_refl _) _
  have Z' := Z.stays hb
  have l' := Z.lt
  have R' : IntRow (X.alloc (.cells #[.int .i64 3] 3)) (some ⟨X.heap.size, 0, none⟩) [3] ∧ X.heap.size ≠ d := ⟨row_lit X [3] _ _ rfl, by omega⟩
  refine hK.out _ _ Z'.u0 (fun hHeld => ?_)
  clear hK K
  try simp only [List.setIfInBounds_toArray, List.set_cons_zero, List.set_cons_succ]
  exact seg29 w b u d t0 t1 t2 t9 t11 t13 t15 t17 t19 t20 t21 t22 t23 t24 t25 t26 t27 t28 t29 t30 t31 t32 t33 t34 t35 t36 t37 t38 t39 t40 t41 t42 t43 t44 t45 t46 t47 t48 t49 t50 t51 t52 t53 t54 t55 t56 t57 t58 t59 t60 t61 t62 t63 t64 t65 t66 t67 t68 t69 t70 t71 t72 t73 t74 t75 t76 t77 t78 t79 t80 t81 t82 t83 t84 t85 t86 t87 t88 t89 t90 t91 t92 t93 t94 t95 t96 t97 t98 t99 t100 t101 t102 t103 t104 t105 t106 t107 t108 t109 t110 t111 t112 t113 t114 t115 t116 t117 t118 t119 t120 t121 t122 t123 t124 t125 t126 t127 t128 t129 t130 t131 t132 t133 t134 t135 t136 Q hp hfin _ _ _ _ rfl (by decide) Z' R'
set_option maxHeartbeats 16000000 in
theorem seg31 (w : World) (b u d : Nat) (t0 t1 t2 t9 t11 t13 t15 t17 t19 t20 t21 t22 t23 t24 t25 t26 t27 t28 t29 t30 t31 t32 t33 t34 t35 t36 t37 t38 t39 t40 t41 t42 t43 t44 t45 t46 t47 t48 t49 t50 t51 t52 t53 t54 t55 t56 t57 t58 t59 t60 t61 t62 t63 t64 t65 t66 t67 t68 t69 t70 t71 t72 t73 t74 t75 t76 t77 t78 t79 t80 t81 t82 t83 t84 t85 t86 t87 t88 t89 t90 t91 t92 t93 t94 t95 t96 t97 t98 t99 t100 t101 t102 t103 t104 t105 t106 t107 t108 t109 t110 t111 t112 t113 t114 t115 t116 t117 t118 t119 t120 t121 t122 t123 t124 t125 t126 t127 t128 t129 t130 t131 t132 t133 t134 t135 t136 : Value) (Q : Exit → Act → World → Prop) (hp : ∀ c a (dd : Option Tmp) vv w, Q (.panic c) (a.put dd vv) w → Q (.panic c) a w) (hfin : NoneFin w b u d t0 t1 t2 t9 t11 t13 t15 t17 t19 t20 t21 t22 t23 t24 t25 t26 t27 t28 t29 t30 t31 t32 t33 t34 t35 t36 t37 t38 t39 t40 t41 t42 t43 t44 t45 t46 t47 t48 t49 t50 t51 t52 t53 t54 t55 t56 t57 t58 t59 t60 t61 t62 t63 t64 t65 t66 t67 t68 t69 t70 t71 t72 t73 t74 t75 t76 t77 t78 t79 t80 t81 t82 t83 t84 t85 t86 t87 t88 t89 t90 t91 t92 t93 t94 t95 t96 t97 t98 t99 t100 t101 t102 t103 t104 t105 t106 t107 t108 t109 t110 t111 t112 t113 t114 t115 t116 t117 t118 t119 t120 t121 t122 t123 t124 t125 t126 t127 t128 t129 t130 t131 t132 t133 t134 t135 t136 Q)
    (fuel : Nat) (l : Array Bool) (X : World) (g46 : Nat) (g50 : Nat) (hfu : fuel = 22) (hll : l = #[true, true, true, true, true, true, true, true, true, true, true, true, true, true, true, true, true, true, true, true, true, true, true, false, true, false, false, true, true, true, true, false, false, true, false, false, true, false, false, true, true, true, true, false, false, true, true, false, false, true, true, false, false, true, false, false, true, false, false, false, false, false]) (Z : Zeros w X b u d) (R : IntRow X (some ⟨g50, 0, none⟩) [3] ∧ g50 ≠ d) :
    wpAnyH Try.prog .any noneOps Q (fun W' : World => W'.cell? ⟨u, 0, none⟩ = some (.pointer none)) fuel l { tmps := #[t0, t1, t2, Value.pointer none, Value.pointer none, Value.pointer none, Value.pointer (some ⟨b, 0, none⟩), Value.pointer (some ⟨u, 0, none⟩), Value.pointer (some ⟨d, 0, none⟩), t9, Value.int .i64 3, t11, Value.int .i64 3, t13, Value.int .i64 3, t15, Value.int .i64 3, t17, Value.int .i64 3, t19, t20, t21, t22, t23, t24, t25, t26, t27, t28, t29, t30, t31, t32, t33, t34, t35, t36, t37, t38, t39, t40, t41, t42, t43, t44, t45, t46, t47, t48, t49, t50, t51, t52, t53, t54, t55, t56, t57, t58, t59, t60, t61, t62, t63, t64, t65, t66, t67, t68, t69, t70, t71, t72, t73, t74, t75, Value.bool true, Value.bool true, Value.int .i64 3, Value.bool true, Value.bool true, Value.bool true, Value.int .i64 3, Value.bool true, Value.bool true, Value.bool true, Value.int .i64 3, Value.bool true, Value.bool true, Value.bool true, Value.int .i64 3, Value.bool true, Value.bool true, Value.bool true, Value.int .i64 3, Value.bool true, Value.bool true, Value.bool true, Value.pointer none, t99, Value.pointer (some ⟨b, 0, none⟩), t101, t102, Value.pointer (some ⟨u, 0, none⟩), Value.pointer (some ⟨u, 0, none⟩), Value.pointer (some ⟨u, 0, none⟩), Value.pointer none, t107, t108, Value.pointer none, t110, t111, Value.pointer (some ⟨b, 0, none⟩), t113, t114, Value.pointer (some ⟨u, 0, none⟩), Value.pointer (some ⟨u, 0, none⟩), Value.pointer (some ⟨u, 0, none⟩), Value.pointer none, t119, t120, Value.pointer none, Value.slice (some ⟨g46, 0, none⟩) 1 1, t123, t124, Value.pointer (some ⟨d, 0, none⟩), Value.slice (some ⟨g50, 0, none⟩) 1 1, t127, t128, Value.pointer none, t130, t131, Value.pointer (some ⟨d, 0, none⟩), t133, t134, t135, t136], defers := [] } X := by
  subst hfu hll
  have hHeld := Z.u0
  refine wpAnyH_ready (rs := [23]) (by kernel_rfl) (by simp) ?_
  refine AllReadyH.cons (o := { dst := some 99, op := Op.call { callee := Callee.value (Operand.func 23), args := #[Operand.tmp 98], argTypes := #[24] }, type := 3, pos := "law.go:148", after := #[{ on := 22, ground := Ground.data }, { on := 21, ground := Ground.chain }, { on := 21, ground := Ground.guard }], guard := some (21, true) }) rfl (fun K hK => ?_) AllReadyH.nil
  go_simp
  refine Calls.mono (len_nil _) ?_
  rintro e Y ⟨rfl, hw⟩
  have hw' := hw.symm; subst hw'; clear hw
  have Z' := Z
  have R' := R
  go_wp2_with fail
  refine hK.out _ _ Z'.u0 (fun hHeld => ?_)
  clear hK K
  try simp only [List.setIfInBounds_toArray, List.set_cons_zero, List.set_cons_succ]
  exact seg28 w b u d t0 t1 t2 t9 t11 t13 t15 t17 t19 t20 t21 t22 t23 t24 t25 t26 t27 t28 t29 t30 t31 t32 t33 t34 t35 t36 t37 t38 t39 t40 t41 t42 t43 t44 t45 t46 t47 t48 t49 t50 t51 t52 t53 t54 t55 t56 t57 t58 t59 t60 t61 t62 t63 t64 t65 t66 t67 t68 t69 t70 t71 t72 t73 t74 t75 t76 t77 t78 t79 t80 t81 t82 t83 t84 t85 t86 t87 t88 t89 t90 t91 t92 t93 t94 t95 t96 t97 t98 t99 t100 t101 t102 t103 t104 t105 t106 t107 t108 t109 t110 t111 t112 t113 t114 t115 t116 t117 t118 t119 t120 t121 t122 t123 t124 t125 t126 t127 t128 t129 t130 t131 t132 t133 t134 t135 t136 Q hp hfin _ _ _ g46 g50 rfl (by decide) Z' R'
set_option maxHeartbeats 16000000 in
theorem seg30 (w : World) (b u d : Nat) (t0 t1 t2 t9 t11 t13 t15 t17 t19 t20 t21 t22 t23 t24 t25 t26 t27 t28 t29 t30 t31 t32 t33 t34 t35 t36 t37 t38 t39 t40 t41 t42 t43 t44 t45 t46 t47 t48 t49 t50 t51 t52 t53 t54 t55 t56 t57 t58 t59 t60 t61 t62 t63 t64 t65 t66 t67 t68 t69 t70 t71 t72 t73 t74 t75 t76 t77 t78 t79 t80 t81 t82 t83 t84 t85 t86 t87 t88 t89 t90 t91 t92 t93 t94 t95 t96 t97 t98 t99 t100 t101 t102 t103 t104 t105 t106 t107 t108 t109 t110 t111 t112 t113 t114 t115 t116 t117 t118 t119 t120 t121 t122 t123 t124 t125 t126 t127 t128 t129 t130 t131 t132 t133 t134 t135 t136 : Value) (Q : Exit → Act → World → Prop) (hp : ∀ c a (dd : Option Tmp) vv w, Q (.panic c) (a.put dd vv) w → Q (.panic c) a w) (hfin : NoneFin w b u d t0 t1 t2 t9 t11 t13 t15 t17 t19 t20 t21 t22 t23 t24 t25 t26 t27 t28 t29 t30 t31 t32 t33 t34 t35 t36 t37 t38 t39 t40 t41 t42 t43 t44 t45 t46 t47 t48 t49 t50 t51 t52 t53 t54 t55 t56 t57 t58 t59 t60 t61 t62 t63 t64 t65 t66 t67 t68 t69 t70 t71 t72 t73 t74 t75 t76 t77 t78 t79 t80 t81 t82 t83 t84 t85 t86 t87 t88 t89 t90 t91 t92 t93 t94 t95 t96 t97 t98 t99 t100 t101 t102 t103 t104 t105 t106 t107 t108 t109 t110 t111 t112 t113 t114 t115 t116 t117 t118 t119 t120 t121 t122 t123 t124 t125 t126 t127 t128 t129 t130 t131 t132 t133 t134 t135 t136 Q)
    (fuel : Nat) (l : Array Bool) (X : World) (g46 : Nat) (hfu : fuel = 23) (hll : l = #[true, true, true, true, true, true, true, true, true, true, true, true, true, true, true, true, true, true, true, true, true, true, true, false, true, false, false, true, true, true, true, false, false, true, false, false, true, false, false, true, true, true, true, false, false, true, true, false, false, true, false, false, false, true, false, false, true, false, false, false, false, false]) (Z : Zeros w X b u d) :
    wpAnyH Try.prog .any noneOps Q (fun W' : World => W'.cell? ⟨u, 0, none⟩ = some (.pointer none)) fuel l { tmps := #[t0, t1, t2, Value.pointer none, Value.pointer none, Value.pointer none, Value.pointer (some ⟨b, 0, none⟩), Value.pointer (some ⟨u, 0, none⟩), Value.pointer (some ⟨d, 0, none⟩), t9, Value.int .i64 3, t11, Value.int .i64 3, t13, Value.int .i64 3, t15, Value.int .i64 3, t17, Value.int .i64 3, t19, t20, t21, t22, t23, t24, t25, t26, t27, t28, t29, t30, t31, t32, t33, t34, t35, t36, t37, t38, t39, t40, t41, t42, t43, t44, t45, t46, t47, t48, t49, t50, t51, t52, t53, t54, t55, t56, t57, t58, t59, t60, t61, t62, t63, t64, t65, t66, t67, t68, t69, t70, t71, t72, t73, t74, t75, Value.bool true, Value.bool true, Value.int .i64 3, Value.bool true, Value.bool true, Value.bool true, Value.int .i64 3, Value.bool true, Value.bool true, Value.bool true, Value.int .i64 3, Value.bool true, Value.bool true, Value.bool true, Value.int .i64 3, Value.bool true, Value.bool true, Value.bool true, Value.int .i64 3, Value.bool true, Value.bool true, Value.bool true, Value.pointer none, t99, Value.pointer (some ⟨b, 0, none⟩), t101, t102, Value.pointer (some ⟨u, 0, none⟩), Value.pointer (some ⟨u, 0, none⟩), Value.pointer (some ⟨u, 0, none⟩), Value.pointer none, t107, t108, Value.pointer none, t110, t111, Value.pointer (some ⟨b, 0, none⟩), t113, t114, Value.pointer (some ⟨u, 0, none⟩), Value.pointer (some ⟨u, 0, none⟩), Value.pointer (some ⟨u, 0, none⟩), Value.pointer none, t119, t120, Value.pointer none, Value.slice (some ⟨g46, 0, none⟩) 1 1, t123, t124, Value.pointer (some ⟨d, 0, none⟩), t126, t127, t128, Value.pointer none, t130, t131, Value.pointer (some ⟨d, 0, none⟩), t133, t134, t135, t136], defers := [] } X := by
  subst hfu hll
  have hHeld := Z.u0
  refine wpAnyH_ready (rs := [23, 50]) (by kernel_rfl) (by simp) ?_
  refine AllReadyH.cons (o := { dst := some 99, op := Op.call { callee := Callee.value (Operand.func 23), args := #[Operand.tmp 98], argTypes := #[24] }, type := 3, pos := "law.go:148", after := #[{ on := 22, ground := Ground.data }, { on := 21, ground := Ground.chain }, { on := 21, ground := Ground.guard }], guard := some (21, true) }) rfl (fun K hK => ?_) ?_
  · go_simp
    refine Calls.mono (len_nil _) ?_
    rintro e Y ⟨rfl, hw⟩
    have hw' := hw.symm; subst hw'; clear hw
    have Z' := Z
    go_wp2_with fail
    refine hK.out _ _ Z'.u0 (fun hHeld => ?_)
    clear hK K
    try simp only [List.setIfInBounds_toArray, List.set_cons_zero, List.set_cons_succ]
    exact seg27 w b u d t0 t1 t2 t9 t11 t13 t15 t17 t19 t20 t21 t22 t23 t24 t25 t26 t27 t28 t29 t30 t31 t32 t33 t34 t35 t36 t37 t38 t39 t40 t41 t42 t43 t44 t45 t46 t47 t48 t49 t50 t51 t52 t53 t54 t55 t56 t57 t58 t59 t60 t61 t62 t63 t64 t65 t66 t67 t68 t69 t70 t71 t72 t73 t74 t75 t76 t77 t78 t79 t80 t81 t82 t83 t84 t85 t86 t87 t88 t89 t90 t91 t92 t93 t94 t95 t96 t97 t98 t99 t100 t101 t102 t103 t104 t105 t106 t107 t108 t109 t110 t111 t112 t113 t114 t115 t116 t117 t118 t119 t120 t121 t122 t123 t124 t125 t126 t127 t128 t129 t130 t131 t132 t133 t134 t135 t136 Q hp hfin _ _ _ g46 rfl (by decide) Z'
  refine AllReadyH.cons (o := { dst := some 126, op := Op.buildSlice 32 1 #[(0, Operand.const (Value.int IntKind.i64 3))], type := 32, pos := "law.go:148", after := #[{ on := 21, ground := Ground.guard }], guard := some (21, true) }) rfl (fun K hK => ?_) AllReadyH.nil
  go_simp
  have hb : Below X.heap.size X (X.alloc (.cells #[.int .i64 3] 3)) := (Below.refl _ X).alloc (Nat.le_refl _) _
  have Z' := Z.stays hb
  have l' := Z.lt
  have R' : IntRow (X.alloc (.cells #[.int .i64 3] 3)) (some ⟨X.heap.size, 0, none⟩) [3] ∧ X.heap.size ≠ d := ⟨row_lit X [3] _ _ rfl, by omega⟩
  refine hK.out _ _ Z'.u0 (fun hHeld => ?_)
  clear hK K
  try simp only [List.setIfInBounds_toArray, List.set_cons_zero, List.set_cons_succ]
  exact seg31 w b u d t0 t1 t2 t9 t11 t13 t15 t17 t19 t20 t21 t22 t23 t24 t25 t26 t27 t28 t29 t30 t31 t32 t33 t34 t35 t36 t37 t38 t39 t40 t41 t42 t43 t44 t45 t46 t47 t48 t49 t50 t51 t52 t53 t54 t55 t56 t57 t58 t59 t60 t61 t62 t63 t64 t65 t66 t67 t68 t69 t70 t71 t72 t73 t74 t75 t76 t77 t78 t79 t80 t81 t82 t83 t84 t85 t86 t87 t88 t89 t90 t91 t92 t93 t94 t95 t96 t97 t98 t99 t100 t101 t102 t103 t104 t105 t106 t107 t108 t109 t110 t111 t112 t113 t114 t115 t116 t117 t118 t119 t120 t121 t122 t123 t124 t125 t126 t127 t128 t129 t130 t131 t132 t133 t134 t135 t136 Q hp hfin _ _ _ g46 _ rfl (by decide) Z' R'
set_option maxHeartbeats 16000000 in
theorem seg32 (w : World) (b u d : Nat) (t0 t1 t2 t9 t11 t13 t15 t17 t19 t20 t21 t22 t23 t24 t25 t26 t27 t28 t29 t30 t31 t32 t33 t34 t35 t36 t37 t38 t39 t40 t41 t42 t43 t44 t45 t46 t47 t48 t49 t50 t51 t52 t53 t54 t55 t56 t57 t58 t59 t60 t61 t62 t63 t64 t65 t66 t67 t68 t69 t70 t71 t72 t73 t74 t75 t76 t77 t78 t79 t80 t81 t82 t83 t84 t85 t86 t87 t88 t89 t90 t91 t92 t93 t94 t95 t96 t97 t98 t99 t100 t101 t102 t103 t104 t105 t106 t107 t108 t109 t110 t111 t112 t113 t114 t115 t116 t117 t118 t119 t120 t121 t122 t123 t124 t125 t126 t127 t128 t129 t130 t131 t132 t133 t134 t135 t136 : Value) (Q : Exit → Act → World → Prop) (hp : ∀ c a (dd : Option Tmp) vv w, Q (.panic c) (a.put dd vv) w → Q (.panic c) a w) (hfin : NoneFin w b u d t0 t1 t2 t9 t11 t13 t15 t17 t19 t20 t21 t22 t23 t24 t25 t26 t27 t28 t29 t30 t31 t32 t33 t34 t35 t36 t37 t38 t39 t40 t41 t42 t43 t44 t45 t46 t47 t48 t49 t50 t51 t52 t53 t54 t55 t56 t57 t58 t59 t60 t61 t62 t63 t64 t65 t66 t67 t68 t69 t70 t71 t72 t73 t74 t75 t76 t77 t78 t79 t80 t81 t82 t83 t84 t85 t86 t87 t88 t89 t90 t91 t92 t93 t94 t95 t96 t97 t98 t99 t100 t101 t102 t103 t104 t105 t106 t107 t108 t109 t110 t111 t112 t113 t114 t115 t116 t117 t118 t119 t120 t121 t122 t123 t124 t125 t126 t127 t128 t129 t130 t131 t132 t133 t134 t135 t136 Q)
    (fuel : Nat) (l : Array Bool) (X : World) (g50 : Nat) (hfu : fuel = 23) (hll : l = #[true, true, true, true, true, true, true, true, true, true, true, true, true, true, true, true, true, true, true, true, true, true, true, false, true, false, false, true, true, true, true, false, false, true, false, false, true, false, false, true, true, true, true, false, false, true, false, false, false, true, true, false, false, true, false, false, true, false, false, false, false, false]) (Z : Zeros w X b u d) (R : IntRow X (some ⟨g50, 0, none⟩) [3] ∧ g50 ≠ d) :
    wpAnyH Try.prog .any noneOps Q (fun W' : World => W'.cell? ⟨u, 0, none⟩ = some (.pointer none)) fuel l { tmps := #[t0, t1, t2, Value.pointer none, Value.pointer none, Value.pointer none, Value.pointer (some ⟨b, 0, none⟩), Value.pointer (some ⟨u, 0, none⟩), Value.pointer (some ⟨d, 0, none⟩), t9, Value.int .i64 3, t11, Value.int .i64 3, t13, Value.int .i64 3, t15, Value.int .i64 3, t17, Value.int .i64 3, t19, t20, t21, t22, t23, t24, t25, t26, t27, t28, t29, t30, t31, t32, t33, t34, t35, t36, t37, t38, t39, t40, t41, t42, t43, t44, t45, t46, t47, t48, t49, t50, t51, t52, t53, t54, t55, t56, t57, t58, t59, t60, t61, t62, t63, t64, t65, t66, t67, t68, t69, t70, t71, t72, t73, t74, t75, Value.bool true, Value.bool true, Value.int .i64 3, Value.bool true, Value.bool true, Value.bool true, Value.int .i64 3, Value.bool true, Value.bool true, Value.bool true, Value.int .i64 3, Value.bool true, Value.bool true, Value.bool true, Value.int .i64 3, Value.bool true, Value.bool true, Value.bool true, Value.int .i64 3, Value.bool true, Value.bool true, Value.bool true, Value.pointer none, t99, Value.pointer (some ⟨b, 0, none⟩), t101, t102, Value.pointer (some ⟨u, 0, none⟩), Value.pointer (some ⟨u, 0, none⟩), Value.pointer (some ⟨u, 0, none⟩), Value.pointer none, t107, t108, Value.pointer none, t110, t111, Value.pointer (some ⟨b, 0, none⟩), t113, t114, Value.pointer (some ⟨u, 0, none⟩), Value.pointer (some ⟨u, 0, none⟩), Value.pointer (some ⟨u, 0, none⟩), Value.pointer none, t119, t120, Value.pointer none, t122, t123, t124, Value.pointer (some ⟨d, 0, none⟩), Value.slice (some ⟨g50, 0, none⟩) 1 1, t127, t128, Value.pointer none, t130, t131, Value.pointer (some ⟨d, 0, none⟩), t133, t134, t135, t136], defers := [] } X := by
  subst hfu hll
  have hHeld := Z.u0
  refine wpAnyH_ready (rs := [23, 46]) (by kernel_rfl) (by simp) ?_
  refine AllReadyH.cons (o := { dst := some 99, op := Op.call { callee := Callee.value (Operand.func 23), args := #[Operand.tmp 98], argTypes := #[24] }, type := 3, pos := "law.go:148", after := #[{ on := 22, ground := Ground.data }, { on := 21, ground := Ground.chain }, { on := 21, ground := Ground.guard }], guard := some (21, true) }) rfl (fun K hK => ?_) ?_
  · go_simp
    refine Calls.mono (len_nil _) ?_
    rintro e Y ⟨rfl, hw⟩
    have hw' := hw.symm; subst hw'; clear hw
    have Z' := Z
    have R' := R
    go_wp2_with fail
    refine hK.out _ _ Z'.u0 (fun hHeld => ?_)
    clear hK K
    try simp only [List.setIfInBounds_toArray, List.set_cons_zero, List.set_cons_succ]
    exact seg29 w b u d t0 t1 t2 t9 t11 t13 t15 t17 t19 t20 t21 t22 t23 t24 t25 t26 t27 t28 t29 t30 t31 t32 t33 t34 t35 t36 t37 t38 t39 t40 t41 t42 t43 t44 t45 t46 t47 t48 t49 t50 t51 t52 t53 t54 t55 t56 t57 t58 t59 t60 t61 t62 t63 t64 t65 t66 t67 t68 t69 t70 t71 t72 t73 t74 t75 t76 t77 t78 t79 t80 t81 t82 t83 t84 t85 t86 t87 t88 t89 t90 t91 t92 t93 t94 t95 t96 t97 t98 t99 t100 t101 t102 t103 t104 t105 t106 t107 t108 t109 t110 t111 t112 t113 t114 t115 t116 t117 t118 t119 t120 t121 t122 t123 t124 t125 t126 t127 t128 t129 t130 t131 t132 t133 t134 t135 t136 Q hp hfin _ _ _ g50 rfl (by decide) Z' R'
  refine AllReadyH.cons (o := { dst := some 122, op := Op.buildSlice 32 1 #[(0, Operand.const (Value.int IntKind.i64 3))], type := 32, pos := "law.go:148", after := #[{ on := 21, ground := Ground.guard }], guard := some (21, true) }) rfl (fun K hK => ?_) AllReadyH.nil
  go_simp
  have hb : Below X.heap.size X (X.alloc (.cells #[.int .i64 3] 3)) := (Below.refl _ X).alloc (Nat.le_refl _) _
  have Z' := Z.stays hb
  have l' := Z.lt
  have R' : IntRow (X.alloc (.cells #[.int .i64 3] 3)) (some ⟨g50, 0, none⟩) [3] ∧ g50 ≠ d := ⟨R.1.below hb, R.2⟩
  refine hK.out _ _ Z'.u0 (fun hHeld => ?_)
  clear hK K
  try simp only [List.setIfInBounds_toArray, List.set_cons_zero, List.set_cons_succ]
  exact seg31 w b u d t0 t1 t2 t9 t11 t13 t15 t17 t19 t20 t21 t22 t23 t24 t25 t26 t27 t28 t29 t30 t31 t32 t33 t34 t35 t36 t37 t38 t39 t40 t41 t42 t43 t44 t45 t46 t47 t48 t49 t50 t51 t52 t53 t54 t55 t56 t57 t58 t59 t60 t61 t62 t63 t64 t65 t66 t67 t68 t69 t70 t71 t72 t73 t74 t75 t76 t77 t78 t79 t80 t81 t82 t83 t84 t85 t86 t87 t88 t89 t90 t91 t92 t93 t94 t95 t96 t97 t98 t99 t100 t101 t102 t103 t104 t105 t106 t107 t108 t109 t110 t111 t112 t113 t114 t115 t116 t117 t118 t119 t120 t121 t122 t123 t124 t125 t126 t127 t128 t129 t130 t131 t132 t133 t134 t135 t136 Q hp hfin _ _ _ _ g50 rfl (by decide) Z' R'
set_option maxHeartbeats 16000000 in
theorem seg0 (w : World) (b u d : Nat) (t0 t1 t2 t9 t11 t13 t15 t17 t19 t20 t21 t22 t23 t24 t25 t26 t27 t28 t29 t30 t31 t32 t33 t34 t35 t36 t37 t38 t39 t40 t41 t42 t43 t44 t45 t46 t47 t48 t49 t50 t51 t52 t53 t54 t55 t56 t57 t58 t59 t60 t61 t62 t63 t64 t65 t66 t67 t68 t69 t70 t71 t72 t73 t74 t75 t76 t77 t78 t79 t80 t81 t82 t83 t84 t85 t86 t87 t88 t89 t90 t91 t92 t93 t94 t95 t96 t97 t98 t99 t100 t101 t102 t103 t104 t105 t106 t107 t108 t109 t110 t111 t112 t113 t114 t115 t116 t117 t118 t119 t120 t121 t122 t123 t124 t125 t126 t127 t128 t129 t130 t131 t132 t133 t134 t135 t136 : Value) (Q : Exit → Act → World → Prop) (hp : ∀ c a (dd : Option Tmp) vv w, Q (.panic c) (a.put dd vv) w → Q (.panic c) a w) (hfin : NoneFin w b u d t0 t1 t2 t9 t11 t13 t15 t17 t19 t20 t21 t22 t23 t24 t25 t26 t27 t28 t29 t30 t31 t32 t33 t34 t35 t36 t37 t38 t39 t40 t41 t42 t43 t44 t45 t46 t47 t48 t49 t50 t51 t52 t53 t54 t55 t56 t57 t58 t59 t60 t61 t62 t63 t64 t65 t66 t67 t68 t69 t70 t71 t72 t73 t74 t75 t76 t77 t78 t79 t80 t81 t82 t83 t84 t85 t86 t87 t88 t89 t90 t91 t92 t93 t94 t95 t96 t97 t98 t99 t100 t101 t102 t103 t104 t105 t106 t107 t108 t109 t110 t111 t112 t113 t114 t115 t116 t117 t118 t119 t120 t121 t122 t123 t124 t125 t126 t127 t128 t129 t130 t131 t132 t133 t134 t135 t136 Q)
    (fuel : Nat) (l : Array Bool) (X : World) (hfu : fuel = 24) (hll : l = #[true, true, true, true, true, true, true, true, true, true, true, true, true, true, true, true, true, true, true, true, true, true, true, false, true, false, false, true, true, true, true, false, false, true, false, false, true, false, false, true, true, true, true, false, false, true, false, false, false, true, false, false, false, true, false, false, true, false, false, false, false, false]) (Z : Zeros w X b u d) :
    wpAnyH Try.prog .any noneOps Q (fun W' : World => W'.cell? ⟨u, 0, none⟩ = some (.pointer none)) fuel l { tmps := #[t0, t1, t2, Value.pointer none, Value.pointer none, Value.pointer none, Value.pointer (some ⟨b, 0, none⟩), Value.pointer (some ⟨u, 0, none⟩), Value.pointer (some ⟨d, 0, none⟩), t9, Value.int .i64 3, t11, Value.int .i64 3, t13, Value.int .i64 3, t15, Value.int .i64 3, t17, Value.int .i64 3, t19, t20, t21, t22, t23, t24, t25, t26, t27, t28, t29, t30, t31, t32, t33, t34, t35, t36, t37, t38, t39, t40, t41, t42, t43, t44, t45, t46, t47, t48, t49, t50, t51, t52, t53, t54, t55, t56, t57, t58, t59, t60, t61, t62, t63, t64, t65, t66, t67, t68, t69, t70, t71, t72, t73, t74, t75, Value.bool true, Value.bool true, Value.int .i64 3, Value.bool true, Value.bool true, Value.bool true, Value.int .i64 3, Value.bool true, Value.bool true, Value.bool true, Value.int .i64 3, Value.bool true, Value.bool true, Value.bool true, Value.int .i64 3, Value.bool true, Value.bool true, Value.bool true, Value.int .i64 3, Value.bool true, Value.bool true, Value.bool true, Value.pointer none, t99, Value.pointer (some ⟨b, 0, none⟩), t101, t102, Value.pointer (some ⟨u, 0, none⟩), Value.pointer (some ⟨u, 0, none⟩), Value.pointer (some ⟨u, 0, none⟩), Value.pointer none, t107, t108, Value.pointer none, t110, t111, Value.pointer (some ⟨b, 0, none⟩), t113, t114, Value.pointer (some ⟨u, 0, none⟩), Value.pointer (some ⟨u, 0, none⟩), Value.pointer (some ⟨u, 0, none⟩), Value.pointer none, t119, t120, Value.pointer none, t122, t123, t124, Value.pointer (some ⟨d, 0, none⟩), t126, t127, t128, Value.pointer none, t130, t131, Value.pointer (some ⟨d, 0, none⟩), t133, t134, t135, t136], defers := [] } X := by
  subst hfu hll
  have hHeld := Z.u0
  refine wpAnyH_ready (rs := [23, 46, 50]) (by kernel_rfl) (by simp) ?_
  refine AllReadyH.cons (o := { dst := some 99, op := Op.call { callee := Callee.value (Operand.func 23), args := #[Operand.tmp 98], argTypes := #[24] }, type := 3, pos := "law.go:148", after := #[{ on := 22, ground := Ground.data }, { on := 21, ground := Ground.chain }, { on := 21, ground := Ground.guard }], guard := some (21, true) }) rfl (fun K hK => ?_) ?_
  · go_simp
    refine Calls.mono (len_nil _) ?_
    rintro e Y ⟨rfl, hw⟩
    have hw' := hw.symm; subst hw'; clear hw
    have Z' := Z
    go_wp2_with fail
    refine hK.out _ _ Z'.u0 (fun hHeld => ?_)
    clear hK K
    try simp only [List.setIfInBounds_toArray, List.set_cons_zero, List.set_cons_succ]
    exact seg1 w b u d t0 t1 t2 t9 t11 t13 t15 t17 t19 t20 t21 t22 t23 t24 t25 t26 t27 t28 t29 t30 t31 t32 t33 t34 t35 t36 t37 t38 t39 t40 t41 t42 t43 t44 t45 t46 t47 t48 t49 t50 t51 t52 t53 t54 t55 t56 t57 t58 t59 t60 t61 t62 t63 t64 t65 t66 t67 t68 t69 t70 t71 t72 t73 t74 t75 t76 t77 t78 t79 t80 t81 t82 t83 t84 t85 t86 t87 t88 t89 t90 t91 t92 t93 t94 t95 t96 t97 t98 t99 t100 t101 t102 t103 t104 t105 t106 t107 t108 t109 t110 t111 t112 t113 t114 t115 t116 t117 t118 t119 t120 t121 t122 t123 t124 t125 t126 t127 t128 t129 t130 t131 t132 t133 t134 t135 t136 Q hp hfin _ _ _  rfl (by decide) Z'
  refine AllReadyH.cons (o := { dst := some 122, op := Op.buildSlice 32 1 #[(0, Operand.const (Value.int IntKind.i64 3))], type := 32, pos := "law.go:148", after := #[{ on := 21, ground := Ground.guard }], guard := some (21, true) }) rfl (fun K hK => ?_) ?_
  · go_simp
    have hb : Below X.heap.size X (X.alloc (.cells #[.int .i64 3] 3)) := (Below.refl _ X).alloc (Nat.le_refl _) _
    have Z' := Z.stays hb
    have l' := Z.lt
    refine hK.out _ _ Z'.u0 (fun hHeld => ?_)
    clear hK K
    try simp only [List.setIfInBounds_toArray, List.set_cons_zero, List.set_cons_succ]
    exact seg30 w b u d t0 t1 t2 t9 t11 t13 t15 t17 t19 t20 t21 t22 t23 t24 t25 t26 t27 t28 t29 t30 t31 t32 t33 t34 t35 t36 t37 t38 t39 t40 t41 t42 t43 t44 t45 t46 t47 t48 t49 t50 t51 t52 t53 t54 t55 t56 t57 t58 t59 t60 t61 t62 t63 t64 t65 t66 t67 t68 t69 t70 t71 t72 t73 t74 t75 t76 t77 t78 t79 t80 t81 t82 t83 t84 t85 t86 t87 t88 t89 t90 t91 t92 t93 t94 t95 t96 t97 t98 t99 t100 t101 t102 t103 t104 t105 t106 t107 t108 t109 t110 t111 t112 t113 t114 t115 t116 t117 t118 t119 t120 t121 t122 t123 t124 t125 t126 t127 t128 t129 t130 t131 t132 t133 t134 t135 t136 Q hp hfin _ _ _ _ rfl (by decide) Z'
  refine AllReadyH.cons (o := { dst := some 126, op := Op.buildSlice 32 1 #[(0, Operand.const (Value.int IntKind.i64 3))], type := 32, pos := "law.go:148", after := #[{ on := 21, ground := Ground.guard }], guard := some (21, true) }) rfl (fun K hK => ?_) AllReadyH.nil
  go_simp
  have hb : Below X.heap.size X (X.alloc (.cells #[.int .i64 3] 3)) := (Below.refl _ X).alloc (Nat.le_refl _) _
  have Z' := Z.stays hb
  have l' := Z.lt
  have R' : IntRow (X.alloc (.cells #[.int .i64 3] 3)) (some ⟨X.heap.size, 0, none⟩) [3] ∧ X.heap.size ≠ d := ⟨row_lit X [3] _ _ rfl, by omega⟩
  refine hK.out _ _ Z'.u0 (fun hHeld => ?_)
  clear hK K
  try simp only [List.setIfInBounds_toArray, List.set_cons_zero, List.set_cons_succ]
  exact seg32 w b u d t0 t1 t2 t9 t11 t13 t15 t17 t19 t20 t21 t22 t23 t24 t25 t26 t27 t28 t29 t30 t31 t32 t33 t34 t35 t36 t37 t38 t39 t40 t41 t42 t43 t44 t45 t46 t47 t48 t49 t50 t51 t52 t53 t54 t55 t56 t57 t58 t59 t60 t61 t62 t63 t64 t65 t66 t67 t68 t69 t70 t71 t72 t73 t74 t75 t76 t77 t78 t79 t80 t81 t82 t83 t84 t85 t86 t87 t88 t89 t90 t91 t92 t93 t94 t95 t96 t97 t98 t99 t100 t101 t102 t103 t104 t105 t106 t107 t108 t109 t110 t111 t112 t113 t114 t115 t116 t117 t118 t119 t120 t121 t122 t123 t124 t125 t126 t127 t128 t129 t130 t131 t132 t133 t134 t135 t136 Q hp hfin _ _ _ _ rfl (by decide) Z' R'
set_option maxHeartbeats 16000000 in
theorem none_tail (w W0 : World) (b u d : Nat) (t0 t1 t2 t9 t11 t13 t15 t17 t19 t20 t21 t22 t23 t24 t25 t26 t27 t28 t29 t30 t31 t32 t33 t34 t35 t36 t37 t38 t39 t40 t41 t42 t43 t44 t45 t46 t47 t48 t49 t50 t51 t52 t53 t54 t55 t56 t57 t58 t59 t60 t61 t62 t63 t64 t65 t66 t67 t68 t69 t70 t71 t72 t73 t74 t75 t76 t77 t78 t79 t80 t81 t82 t83 t84 t85 t86 t87 t88 t89 t90 t91 t92 t93 t94 t95 t96 t97 t98 t99 t100 t101 t102 t103 t104 t105 t106 t107 t108 t109 t110 t111 t112 t113 t114 t115 t116 t117 t118 t119 t120 t121 t122 t123 t124 t125 t126 t127 t128 t129 t130 t131 t132 t133 t134 t135 t136 : Value) (Q : Exit → Act → World → Prop) (hp : ∀ c a (dd : Option Tmp) vv w, Q (.panic c) (a.put dd vv) w → Q (.panic c) a w)
    (Z0 : Zeros w W0 b u d) (hfin : NoneFin w b u d t0 t1 t2 t9 t11 t13 t15 t17 t19 t20 t21 t22 t23 t24 t25 t26 t27 t28 t29 t30 t31 t32 t33 t34 t35 t36 t37 t38 t39 t40 t41 t42 t43 t44 t45 t46 t47 t48 t49 t50 t51 t52 t53 t54 t55 t56 t57 t58 t59 t60 t61 t62 t63 t64 t65 t66 t67 t68 t69 t70 t71 t72 t73 t74 t75 t76 t77 t78 t79 t80 t81 t82 t83 t84 t85 t86 t87 t88 t89 t90 t91 t92 t93 t94 t95 t96 t97 t98 t99 t100 t101 t102 t103 t104 t105 t106 t107 t108 t109 t110 t111 t112 t113 t114 t115 t116 t117 t118 t119 t120 t121 t122 t123 t124 t125 t126 t127 t128 t129 t130 t131 t132 t133 t134 t135 t136 Q) :
    Code.wp Try.prog (Code.region 18 noneOps true) Q { tmps := #[t0, t1, t2, Value.pointer none, Value.pointer none, Value.pointer none, Value.pointer (some ⟨b, 0, none⟩), Value.pointer (some ⟨u, 0, none⟩), Value.pointer (some ⟨d, 0, none⟩), t9, Value.int .i64 3, t11, Value.int .i64 3, t13, Value.int .i64 3, t15, Value.int .i64 3, t17, Value.int .i64 3, t19, t20, t21, t22, t23, t24, t25, t26, t27, t28, t29, t30, t31, t32, t33, t34, t35, t36, t37, t38, t39, t40, t41, t42, t43, t44, t45, t46, t47, t48, t49, t50, t51, t52, t53, t54, t55, t56, t57, t58, t59, t60, t61, t62, t63, t64, t65, t66, t67, t68, t69, t70, t71, t72, t73, t74, t75, t76, t77, t78, t79, t80, t81, t82, t83, t84, t85, t86, t87, t88, t89, t90, t91, t92, t93, t94, t95, t96, t97, t98, t99, t100, t101, t102, t103, t104, t105, t106, t107, t108, t109, t110, t111, t112, t113, t114, t115, t116, t117, t118, t119, t120, t121, t122, t123, t124, t125, t126, t127, t128, t129, t130, t131, t132, t133, t134, t135, t136], defers := [] } W0 := by
  refine wp_region_held_drew (S := fun W' : World => W'.cell? ⟨u, 0, none⟩ = some (.pointer none)) (by kernel_rfl) (Z0.stays (Below.refl _ _).drew).u0 (fun hHeld => ?_)
  have Z := Z0.stays (Below.refl _ _).drew
  refine wpAnyH_ready (rs := [0]) (by kernel_rfl) (by simp) ?_
  refine AllReadyH.cons (o := { dst := some 76, op := Op.call { callee := Callee.value (Operand.func 9), args := #[], argTypes := #[] }, type := 4, pos := "law.go:148", after := #[], guard := none }) rfl (fun K hK => ?_) AllReadyH.nil
  go_simp
  refine Calls.mono (alive_any _) ?_
  rintro e Y ⟨rfl, hb⟩
  have Z' := Z.stays hb
  go_wp2_with fail
  refine hK.out _ _ Z'.u0 (fun hHeld => ?_)
  clear hK K
  try simp only [Act.put, List.setIfInBounds_toArray, List.set_cons_zero, List.set_cons_succ]
  refine wpAnyH_take (i := 1) (oi := { dst := some 77, op := Op.move (Operand.tmp 76), type := 4, pos := "law.go:148", after := #[{ on := 0, ground := Ground.data }, { on := 0, ground := Ground.chain }], guard := none }) (v := ?_) rfl (by kernel_rfl) (by kernel_rfl) (by kernel_rfl) (fun c a w h => hp c _ _ _ w h) (Or.inl ⟨by rfl, ?_⟩) hHeld ?_
  rotate_left
  · (intro w hSw; (try dsimp only at hSw); go_simp; all_goals (try with_reducible rfl))
  try simp only [Act.put, List.setIfInBounds_toArray, List.set_cons_zero, List.set_cons_succ]
  refine wpAnyH_take (i := 2) (oi := { dst := some 78, op := Op.move (Operand.tmp 10), type := 25, pos := "law.go:148", after := #[{ on := 1, ground := Ground.guard }], guard := some (1, true) }) (v := ?_) rfl (by kernel_rfl) (by kernel_rfl) (by kernel_rfl) (fun c a w h => hp c _ _ _ w h) (Or.inl ⟨by rfl, ?_⟩) hHeld ?_
  rotate_left
  · (intro w hSw; (try dsimp only at hSw); go_simp; all_goals (try with_reducible rfl))
  try simp only [Act.put, List.setIfInBounds_toArray, List.set_cons_zero, List.set_cons_succ]
  refine wpAnyH_take (i := 3) (oi := { dst := some 79, op := Op.binOp BinOp.eql 25 (Operand.tmp 78) (Operand.const (Value.int IntKind.i64 3)) 25, type := 4, pos := "law.go:148", after := #[{ on := 2, ground := Ground.data }, { on := 1, ground := Ground.guard }], guard := some (1, true) }) (v := ?_) rfl (by kernel_rfl) (by kernel_rfl) (by kernel_rfl) (fun c a w h => hp c _ _ _ w h) (Or.inl ⟨by rfl, ?_⟩) hHeld ?_
  rotate_left
  · (intro w hSw; (try dsimp only at hSw); go_simp; all_goals (try with_reducible rfl))
  try simp only [Act.put, List.setIfInBounds_toArray, List.set_cons_zero, List.set_cons_succ]
  refine wpAnyH_take (i := 4) (oi := { dst := some 80, op := Op.pick (Operand.tmp 77) (Operand.tmp 79) (Operand.const (Value.bool false)), type := 4, pos := "law.go:148", after := #[{ on := 1, ground := Ground.data }, { on := 3, ground := Ground.data }], guard := none }) (v := ?_) rfl (by kernel_rfl) (by kernel_rfl) (by kernel_rfl) (fun c a w h => hp c _ _ _ w h) (Or.inl ⟨by rfl, ?_⟩) hHeld ?_
  rotate_left
  · (intro w hSw; (try dsimp only at hSw); go_simp; all_goals (try with_reducible rfl))
  try simp only [Act.put, List.setIfInBounds_toArray, List.set_cons_zero, List.set_cons_succ]
  refine wpAnyH_take (i := 5) (oi := { dst := some 81, op := Op.move (Operand.tmp 80), type := 4, pos := "law.go:148", after := #[{ on := 4, ground := Ground.data }, { on := 1, ground := Ground.chain }], guard := none }) (v := ?_) rfl (by kernel_rfl) (by kernel_rfl) (by kernel_rfl) (fun c a w h => hp c _ _ _ w h) (Or.inl ⟨by rfl, ?_⟩) hHeld ?_
  rotate_left
  · (intro w hSw; (try dsimp only at hSw); go_simp; all_goals (try with_reducible rfl))
  try simp only [Act.put, List.setIfInBounds_toArray, List.set_cons_zero, List.set_cons_succ]
  refine wpAnyH_take (i := 6) (oi := { dst := some 82, op := Op.move (Operand.tmp 12), type := 25, pos := "law.go:148", after := #[{ on := 5, ground := Ground.guard }], guard := some (5, true) }) (v := ?_) rfl (by kernel_rfl) (by kernel_rfl) (by kernel_rfl) (fun c a w h => hp c _ _ _ w h) (Or.inl ⟨by rfl, ?_⟩) hHeld ?_
  rotate_left
  · (intro w hSw; (try dsimp only at hSw); go_simp; all_goals (try with_reducible rfl))
  try simp only [Act.put, List.setIfInBounds_toArray, List.set_cons_zero, List.set_cons_succ]
  refine wpAnyH_take (i := 7) (oi := { dst := some 83, op := Op.binOp BinOp.eql 25 (Operand.tmp 82) (Operand.const (Value.int IntKind.i64 3)) 25, type := 4, pos := "law.go:148", after := #[{ on := 6, ground := Ground.data }, { on := 5, ground := Ground.guard }], guard := some (5, true) }) (v := ?_) rfl (by kernel_rfl) (by kernel_rfl) (by kernel_rfl) (fun c a w h => hp c _ _ _ w h) (Or.inl ⟨by rfl, ?_⟩) hHeld ?_
  rotate_left
  · (intro w hSw; (try dsimp only at hSw); go_simp; all_goals (try with_reducible rfl))
  try simp only [Act.put, List.setIfInBounds_toArray, List.set_cons_zero, List.set_cons_succ]
  refine wpAnyH_take (i := 8) (oi := { dst := some 84, op := Op.pick (Operand.tmp 81) (Operand.tmp 83) (Operand.const (Value.bool false)), type := 4, pos := "law.go:148", after := #[{ on := 5, ground := Ground.data }, { on := 7, ground := Ground.data }], guard := none }) (v := ?_) rfl (by kernel_rfl) (by kernel_rfl) (by kernel_rfl) (fun c a w h => hp c _ _ _ w h) (Or.inl ⟨by rfl, ?_⟩) hHeld ?_
  rotate_left
  · (intro w hSw; (try dsimp only at hSw); go_simp; all_goals (try with_reducible rfl))
  try simp only [Act.put, List.setIfInBounds_toArray, List.set_cons_zero, List.set_cons_succ]
  refine wpAnyH_take (i := 9) (oi := { dst := some 85, op := Op.move (Operand.tmp 84), type := 4, pos := "law.go:148", after := #[{ on := 8, ground := Ground.data }, { on := 5, ground := Ground.chain }], guard := none }) (v := ?_) rfl (by kernel_rfl) (by kernel_rfl) (by kernel_rfl) (fun c a w h => hp c _ _ _ w h) (Or.inl ⟨by rfl, ?_⟩) hHeld ?_
  rotate_left
  · (intro w hSw; (try dsimp only at hSw); go_simp; all_goals (try with_reducible rfl))
  try simp only [Act.put, List.setIfInBounds_toArray, List.set_cons_zero, List.set_cons_succ]
  refine wpAnyH_take (i := 10) (oi := { dst := some 86, op := Op.move (Operand.tmp 14), type := 25, pos := "law.go:148", after := #[{ on := 9, ground := Ground.guard }], guard := some (9, true) }) (v := ?_) rfl (by kernel_rfl) (by kernel_rfl) (by kernel_rfl) (fun c a w h => hp c _ _ _ w h) (Or.inl ⟨by rfl, ?_⟩) hHeld ?_
  rotate_left
  · (intro w hSw; (try dsimp only at hSw); go_simp; all_goals (try with_reducible rfl))
  try simp only [Act.put, List.setIfInBounds_toArray, List.set_cons_zero, List.set_cons_succ]
  refine wpAnyH_take (i := 11) (oi := { dst := some 87, op := Op.binOp BinOp.eql 25 (Operand.tmp 86) (Operand.const (Value.int IntKind.i64 3)) 25, type := 4, pos := "law.go:148", after := #[{ on := 10, ground := Ground.data }, { on := 9, ground := Ground.guard }], guard := some (9, true) }) (v := ?_) rfl (by kernel_rfl) (by kernel_rfl) (by kernel_rfl) (fun c a w h => hp c _ _ _ w h) (Or.inl ⟨by rfl, ?_⟩) hHeld ?_
  rotate_left
  · (intro w hSw; (try dsimp only at hSw); go_simp; all_goals (try with_reducible rfl))
  try simp only [Act.put, List.setIfInBounds_toArray, List.set_cons_zero, List.set_cons_succ]
  refine wpAnyH_take (i := 12) (oi := { dst := some 88, op := Op.pick (Operand.tmp 85) (Operand.tmp 87) (Operand.const (Value.bool false)), type := 4, pos := "law.go:148", after := #[{ on := 9, ground := Ground.data }, { on := 11, ground := Ground.data }], guard := none }) (v := ?_) rfl (by kernel_rfl) (by kernel_rfl) (by kernel_rfl) (fun c a w h => hp c _ _ _ w h) (Or.inl ⟨by rfl, ?_⟩) hHeld ?_
  rotate_left
  · (intro w hSw; (try dsimp only at hSw); go_simp; all_goals (try with_reducible rfl))
  try simp only [Act.put, List.setIfInBounds_toArray, List.set_cons_zero, List.set_cons_succ]
  refine wpAnyH_take (i := 13) (oi := { dst := some 89, op := Op.move (Operand.tmp 88), type := 4, pos := "law.go:148", after := #[{ on := 12, ground := Ground.data }, { on := 9, ground := Ground.chain }], guard := none }) (v := ?_) rfl (by kernel_rfl) (by kernel_rfl) (by kernel_rfl) (fun c a w h => hp c _ _ _ w h) (Or.inl ⟨by rfl, ?_⟩) hHeld ?_
  rotate_left
  · (intro w hSw; (try dsimp only at hSw); go_simp; all_goals (try with_reducible rfl))
  try simp only [Act.put, List.setIfInBounds_toArray, List.set_cons_zero, List.set_cons_succ]
  refine wpAnyH_take (i := 14) (oi := { dst := some 90, op := Op.move (Operand.tmp 16), type := 25, pos := "law.go:148", after := #[{ on := 13, ground := Ground.guard }], guard := some (13, true) }) (v := ?_) rfl (by kernel_rfl) (by kernel_rfl) (by kernel_rfl) (fun c a w h => hp c _ _ _ w h) (Or.inl ⟨by rfl, ?_⟩) hHeld ?_
  rotate_left
  · (intro w hSw; (try dsimp only at hSw); go_simp; all_goals (try with_reducible rfl))
  try simp only [Act.put, List.setIfInBounds_toArray, List.set_cons_zero, List.set_cons_succ]
  refine wpAnyH_take (i := 15) (oi := { dst := some 91, op := Op.binOp BinOp.eql 25 (Operand.tmp 90) (Operand.const (Value.int IntKind.i64 3)) 25, type := 4, pos := "law.go:148", after := #[{ on := 14, ground := Ground.data }, { on := 13, ground := Ground.guard }], guard := some (13, true) }) (v := ?_) rfl (by kernel_rfl) (by kernel_rfl) (by kernel_rfl) (fun c a w h => hp c _ _ _ w h) (Or.inl ⟨by rfl, ?_⟩) hHeld ?_
  rotate_left
  · (intro w hSw; (try dsimp only at hSw); go_simp; all_goals (try with_reducible rfl))
  try simp only [Act.put, List.setIfInBounds_toArray, List.set_cons_zero, List.set_cons_succ]
  refine wpAnyH_take (i := 16) (oi := { dst := some 92, op := Op.pick (Operand.tmp 89) (Operand.tmp 91) (Operand.const (Value.bool false)), type := 4, pos := "law.go:148", after := #[{ on := 13, ground := Ground.data }, { on := 15, ground := Ground.data }], guard := none }) (v := ?_) rfl (by kernel_rfl) (by kernel_rfl) (by kernel_rfl) (fun c a w h => hp c _ _ _ w h) (Or.inl ⟨by rfl, ?_⟩) hHeld ?_
  rotate_left
  · (intro w hSw; (try dsimp only at hSw); go_simp; all_goals (try with_reducible rfl))
  try simp only [Act.put, List.setIfInBounds_toArray, List.set_cons_zero, List.set_cons_succ]
  refine wpAnyH_take (i := 17) (oi := { dst := some 93, op := Op.move (Operand.tmp 92), type := 4, pos := "law.go:148", after := #[{ on := 16, ground := Ground.data }, { on := 13, ground := Ground.chain }], guard := none }) (v := ?_) rfl (by kernel_rfl) (by kernel_rfl) (by kernel_rfl) (fun c a w h => hp c _ _ _ w h) (Or.inl ⟨by rfl, ?_⟩) hHeld ?_
  rotate_left
  · (intro w hSw; (try dsimp only at hSw); go_simp; all_goals (try with_reducible rfl))
  try simp only [Act.put, List.setIfInBounds_toArray, List.set_cons_zero, List.set_cons_succ]
  refine wpAnyH_take (i := 18) (oi := { dst := some 94, op := Op.move (Operand.tmp 18), type := 25, pos := "law.go:148", after := #[{ on := 17, ground := Ground.guard }], guard := some (17, true) }) (v := ?_) rfl (by kernel_rfl) (by kernel_rfl) (by kernel_rfl) (fun c a w h => hp c _ _ _ w h) (Or.inl ⟨by rfl, ?_⟩) hHeld ?_
  rotate_left
  · (intro w hSw; (try dsimp only at hSw); go_simp; all_goals (try with_reducible rfl))
  try simp only [Act.put, List.setIfInBounds_toArray, List.set_cons_zero, List.set_cons_succ]
  refine wpAnyH_take (i := 19) (oi := { dst := some 95, op := Op.binOp BinOp.eql 25 (Operand.tmp 94) (Operand.const (Value.int IntKind.i64 3)) 25, type := 4, pos := "law.go:148", after := #[{ on := 18, ground := Ground.data }, { on := 17, ground := Ground.guard }], guard := some (17, true) }) (v := ?_) rfl (by kernel_rfl) (by kernel_rfl) (by kernel_rfl) (fun c a w h => hp c _ _ _ w h) (Or.inl ⟨by rfl, ?_⟩) hHeld ?_
  rotate_left
  · (intro w hSw; (try dsimp only at hSw); go_simp; all_goals (try with_reducible rfl))
  try simp only [Act.put, List.setIfInBounds_toArray, List.set_cons_zero, List.set_cons_succ]
  refine wpAnyH_take (i := 20) (oi := { dst := some 96, op := Op.pick (Operand.tmp 93) (Operand.tmp 95) (Operand.const (Value.bool false)), type := 4, pos := "law.go:148", after := #[{ on := 17, ground := Ground.data }, { on := 19, ground := Ground.data }], guard := none }) (v := ?_) rfl (by kernel_rfl) (by kernel_rfl) (by kernel_rfl) (fun c a w h => hp c _ _ _ w h) (Or.inl ⟨by rfl, ?_⟩) hHeld ?_
  rotate_left
  · (intro w hSw; (try dsimp only at hSw); go_simp; all_goals (try with_reducible rfl))
  try simp only [Act.put, List.setIfInBounds_toArray, List.set_cons_zero, List.set_cons_succ]
  refine wpAnyH_take (i := 21) (oi := { dst := some 97, op := Op.move (Operand.tmp 96), type := 4, pos := "law.go:148", after := #[{ on := 20, ground := Ground.data }, { on := 17, ground := Ground.chain }], guard := none }) (v := ?_) rfl (by kernel_rfl) (by kernel_rfl) (by kernel_rfl) (fun c a w h => hp c _ _ _ w h) (Or.inl ⟨by rfl, ?_⟩) hHeld ?_
  rotate_left
  · (intro w hSw; (try dsimp only at hSw); go_simp; all_goals (try with_reducible rfl))
  try simp only [Act.put, List.setIfInBounds_toArray, List.set_cons_zero, List.set_cons_succ]
  refine wpAnyH_take (i := 22) (oi := { dst := some 98, op := Op.move (Operand.tmp 3), type := 24, pos := "law.go:148", after := #[{ on := 21, ground := Ground.guard }], guard := some (21, true) }) (v := ?_) rfl (by kernel_rfl) (by kernel_rfl) (by kernel_rfl) (fun c a w h => hp c _ _ _ w h) (Or.inl ⟨by rfl, ?_⟩) hHeld ?_
  rotate_left
  · (intro w hSw; (try dsimp only at hSw); go_simp; all_goals (try with_reducible rfl))
  try simp only [Act.put, List.setIfInBounds_toArray, List.set_cons_zero, List.set_cons_succ]
  refine wpAnyH_take (i := 24) (oi := { dst := some 100, op := Op.move (Operand.tmp 6), type := 24, pos := "law.go:148", after := #[{ on := 21, ground := Ground.guard }], guard := some (21, true) }) (v := ?_) rfl (by kernel_rfl) (by kernel_rfl) (by kernel_rfl) (fun c a w h => hp c _ _ _ w h) (Or.inl ⟨by rfl, ?_⟩) hHeld ?_
  rotate_left
  · (intro w hSw; (try dsimp only at hSw); go_simp; all_goals (try with_reducible rfl))
  try simp only [Act.put, List.setIfInBounds_toArray, List.set_cons_zero, List.set_cons_succ]
  refine wpAnyH_take (i := 27) (oi := { dst := some 103, op := Op.move (Operand.tmp 7), type := 28, pos := "law.go:148", after := #[{ on := 21, ground := Ground.guard }], guard := some (21, true) }) (v := ?_) rfl (by kernel_rfl) (by kernel_rfl) (by kernel_rfl) (fun c a w h => hp c _ _ _ w h) (Or.inl ⟨by rfl, ?_⟩) hHeld ?_
  rotate_left
  · (intro w hSw; (try dsimp only at hSw); go_simp; all_goals (try with_reducible rfl))
  try simp only [Act.put, List.setIfInBounds_toArray, List.set_cons_zero, List.set_cons_succ]
  refine wpAnyH_take (i := 28) (oi := { dst := some 104, op := Op.nilCheck (Operand.tmp 103), type := 0, pos := "law.go:148", after := #[{ on := 27, ground := Ground.data }, { on := 21, ground := Ground.guard }], guard := some (21, true) }) (v := ?_) rfl (by kernel_rfl) (by kernel_rfl) (by kernel_rfl) (fun c a w h => hp c _ _ _ w h) (Or.inl ⟨by rfl, ?_⟩) hHeld ?_
  rotate_left
  · (intro w hSw; (try dsimp only at hSw); go_simp; all_goals (try with_reducible rfl))
  try simp only [Act.put, List.setIfInBounds_toArray, List.set_cons_zero, List.set_cons_succ]
  refine wpAnyH_take (i := 29) (oi := { dst := some 105, op := Op.fieldAddr 41 (Operand.tmp 104) 0, type := 0, pos := "law.go:148", after := #[{ on := 28, ground := Ground.data }, { on := 21, ground := Ground.guard }], guard := some (21, true) }) (v := ?_) rfl (by kernel_rfl) (by kernel_rfl) (by kernel_rfl) (fun c a w h => hp c _ _ _ w h) (Or.inl ⟨by rfl, ?_⟩) hHeld ?_
  rotate_left
  · (intro w hSw; (try dsimp only at hSw); go_simp; all_goals (try with_reducible rfl))
  try simp only [Act.put, List.setIfInBounds_toArray, List.set_cons_zero, List.set_cons_succ]
  refine wpAnyH_take (i := 30) (oi := { dst := some 106, op := Op.load 24 (Operand.tmp 105), type := 24, pos := "law.go:148", after := #[{ on := 29, ground := Ground.data }, { on := 21, ground := Ground.guard }], guard := some (21, true) }) (v := ?_) rfl (by kernel_rfl) (by kernel_rfl) (by kernel_rfl) (fun c a w h => hp c _ _ _ w h) (Or.inl ⟨by rfl, ?_⟩) hHeld ?_
  rotate_left
  · (intro w hSw; (try dsimp only at hSw); go_simp; all_goals (try with_reducible rfl))
  try simp only [Act.put, List.setIfInBounds_toArray, List.set_cons_zero, List.set_cons_succ]
  refine wpAnyH_take (i := 33) (oi := { dst := some 109, op := Op.move (Operand.tmp 3), type := 24, pos := "law.go:148", after := #[{ on := 21, ground := Ground.guard }], guard := some (21, true) }) (v := ?_) rfl (by kernel_rfl) (by kernel_rfl) (by kernel_rfl) (fun c a w h => hp c _ _ _ w h) (Or.inl ⟨by rfl, ?_⟩) hHeld ?_
  rotate_left
  · (intro w hSw; (try dsimp only at hSw); go_simp; all_goals (try with_reducible rfl))
  try simp only [Act.put, List.setIfInBounds_toArray, List.set_cons_zero, List.set_cons_succ]
  refine wpAnyH_take (i := 36) (oi := { dst := some 112, op := Op.move (Operand.tmp 6), type := 24, pos := "law.go:148", after := #[{ on := 21, ground := Ground.guard }], guard := some (21, true) }) (v := ?_) rfl (by kernel_rfl) (by kernel_rfl) (by kernel_rfl) (fun c a w h => hp c _ _ _ w h) (Or.inl ⟨by rfl, ?_⟩) hHeld ?_
  rotate_left
  · (intro w hSw; (try dsimp only at hSw); go_simp; all_goals (try with_reducible rfl))
  try simp only [Act.put, List.setIfInBounds_toArray, List.set_cons_zero, List.set_cons_succ]
  refine wpAnyH_take (i := 39) (oi := { dst := some 115, op := Op.move (Operand.tmp 7), type := 28, pos := "law.go:148", after := #[{ on := 21, ground := Ground.guard }], guard := some (21, true) }) (v := ?_) rfl (by kernel_rfl) (by kernel_rfl) (by kernel_rfl) (fun c a w h => hp c _ _ _ w h) (Or.inl ⟨by rfl, ?_⟩) hHeld ?_
  rotate_left
  · (intro w hSw; (try dsimp only at hSw); go_simp; all_goals (try with_reducible rfl))
  try simp only [Act.put, List.setIfInBounds_toArray, List.set_cons_zero, List.set_cons_succ]
  refine wpAnyH_take (i := 40) (oi := { dst := some 116, op := Op.nilCheck (Operand.tmp 115), type := 0, pos := "law.go:148", after := #[{ on := 39, ground := Ground.data }, { on := 21, ground := Ground.guard }], guard := some (21, true) }) (v := ?_) rfl (by kernel_rfl) (by kernel_rfl) (by kernel_rfl) (fun c a w h => hp c _ _ _ w h) (Or.inl ⟨by rfl, ?_⟩) hHeld ?_
  rotate_left
  · (intro w hSw; (try dsimp only at hSw); go_simp; all_goals (try with_reducible rfl))
  try simp only [Act.put, List.setIfInBounds_toArray, List.set_cons_zero, List.set_cons_succ]
  refine wpAnyH_take (i := 41) (oi := { dst := some 117, op := Op.fieldAddr 41 (Operand.tmp 116) 0, type := 0, pos := "law.go:148", after := #[{ on := 40, ground := Ground.data }, { on := 21, ground := Ground.guard }], guard := some (21, true) }) (v := ?_) rfl (by kernel_rfl) (by kernel_rfl) (by kernel_rfl) (fun c a w h => hp c _ _ _ w h) (Or.inl ⟨by rfl, ?_⟩) hHeld ?_
  rotate_left
  · (intro w hSw; (try dsimp only at hSw); go_simp; all_goals (try with_reducible rfl))
  try simp only [Act.put, List.setIfInBounds_toArray, List.set_cons_zero, List.set_cons_succ]
  refine wpAnyH_take (i := 42) (oi := { dst := some 118, op := Op.load 24 (Operand.tmp 117), type := 24, pos := "law.go:148", after := #[{ on := 41, ground := Ground.data }, { on := 21, ground := Ground.guard }], guard := some (21, true) }) (v := ?_) rfl (by kernel_rfl) (by kernel_rfl) (by kernel_rfl) (fun c a w h => hp c _ _ _ w h) (Or.inl ⟨by rfl, ?_⟩) hHeld ?_
  rotate_left
  · (intro w hSw; (try dsimp only at hSw); go_simp; all_goals (try with_reducible rfl))
  try simp only [Act.put, List.setIfInBounds_toArray, List.set_cons_zero, List.set_cons_succ]
  refine wpAnyH_take (i := 45) (oi := { dst := some 121, op := Op.move (Operand.tmp 5), type := 45, pos := "law.go:148", after := #[{ on := 21, ground := Ground.guard }], guard := some (21, true) }) (v := ?_) rfl (by kernel_rfl) (by kernel_rfl) (by kernel_rfl) (fun c a w h => hp c _ _ _ w h) (Or.inl ⟨by rfl, ?_⟩) hHeld ?_
  rotate_left
  · (intro w hSw; (try dsimp only at hSw); go_simp; all_goals (try with_reducible rfl))
  try simp only [Act.put, List.setIfInBounds_toArray, List.set_cons_zero, List.set_cons_succ]
  refine wpAnyH_take (i := 49) (oi := { dst := some 125, op := Op.move (Operand.tmp 8), type := 45, pos := "law.go:148", after := #[{ on := 21, ground := Ground.guard }], guard := some (21, true) }) (v := ?_) rfl (by kernel_rfl) (by kernel_rfl) (by kernel_rfl) (fun c a w h => hp c _ _ _ w h) (Or.inl ⟨by rfl, ?_⟩) hHeld ?_
  rotate_left
  · (intro w hSw; (try dsimp only at hSw); go_simp; all_goals (try with_reducible rfl))
  try simp only [Act.put, List.setIfInBounds_toArray, List.set_cons_zero, List.set_cons_succ]
  refine wpAnyH_take (i := 53) (oi := { dst := some 129, op := Op.move (Operand.tmp 5), type := 45, pos := "law.go:148", after := #[{ on := 21, ground := Ground.guard }], guard := some (21, true) }) (v := ?_) rfl (by kernel_rfl) (by kernel_rfl) (by kernel_rfl) (fun c a w h => hp c _ _ _ w h) (Or.inl ⟨by rfl, ?_⟩) hHeld ?_
  rotate_left
  · (intro w hSw; (try dsimp only at hSw); go_simp; all_goals (try with_reducible rfl))
  try simp only [Act.put, List.setIfInBounds_toArray, List.set_cons_zero, List.set_cons_succ]
  refine wpAnyH_take (i := 56) (oi := { dst := some 132, op := Op.move (Operand.tmp 8), type := 45, pos := "law.go:148", after := #[{ on := 21, ground := Ground.guard }], guard := some (21, true) }) (v := ?_) rfl (by kernel_rfl) (by kernel_rfl) (by kernel_rfl) (fun c a w h => hp c _ _ _ w h) (Or.inl ⟨by rfl, ?_⟩) hHeld ?_
  rotate_left
  · (intro w hSw; (try dsimp only at hSw); go_simp; all_goals (try with_reducible rfl))
  try simp only [Act.put, List.setIfInBounds_toArray, List.set_cons_zero, List.set_cons_succ]
  exact seg0 w b u d t0 t1 t2 t9 t11 t13 t15 t17 t19 t20 t21 t22 t23 t24 t25 t26 t27 t28 t29 t30 t31 t32 t33 t34 t35 t36 t37 t38 t39 t40 t41 t42 t43 t44 t45 t46 t47 t48 t49 t50 t51 t52 t53 t54 t55 t56 t57 t58 t59 t60 t61 t62 t63 t64 t65 t66 t67 t68 t69 t70 t71 t72 t73 t74 t75 t76 t77 t78 t79 t80 t81 t82 t83 t84 t85 t86 t87 t88 t89 t90 t91 t92 t93 t94 t95 t96 t97 t98 t99 t100 t101 t102 t103 t104 t105 t106 t107 t108 t109 t110 t111 t112 t113 t114 t115 t116 t117 t118 t119 t120 t121 t122 t123 t124 t125 t126 t127 t128 t129 t130 t131 t132 t133 t134 t135 t136 Q hp hfin _ _ _  rfl (by decide) Z'
end Go.Proofs.Ytgdijnmanhglnaa
