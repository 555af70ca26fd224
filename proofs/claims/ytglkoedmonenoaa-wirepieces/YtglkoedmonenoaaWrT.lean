/- Frames in a slice; WirePieces' region that compares. Conditions: what the frames are. -/
import Derived.Test.YtglkoedmonenoaaWrS
import Derived.Test.YtglkoedmonenoaaWrIn
import Derived.Deep.RegionHeld3
namespace Go.Proofs.Ytglkoedmonenoaa
open Go.RowKit
set_option linter.unusedVariables false
set_option maxRecDepth 100000

/-- A frame's cells, within a row. -/
structure FrC (W : World) (b o : Nat) (k fr t : Int) (v s : Value) : Prop where
  c0 : W.cell? ⟨b, o, none⟩ = some (.int .i64 k)
  c1 : W.cell? ⟨b, o + 1, none⟩ = some (.int .i64 fr)
  c2 : W.cell? ⟨b, o + 2, none⟩ = some (.int .i64 t)
  c3 : W.cell? ⟨b, o + 3, none⟩ = some v
  c4 : W.cell? ⟨b, o + 4, none⟩ = some s
theorem FrC.below {W W' : World} {b o : Nat} {k fr t : Int} {v s : Value} (h : FrC W b o k fr t v s) (m : Below W.heap.size W W') : FrC W' b o k fr t v s := by
  have m := Mod.of_below (S := []) m
  exact ⟨m.cell h.c0 (by simp), m.cell h.c1 (by simp), m.cell h.c2 (by simp), m.cell h.c3 (by simp), m.cell h.c4 (by simp)⟩
/-- A frame that came in: the frame, where its numbers lie. -/
structure FIn where
  f : FrV
  a : Option Addr
  cap : Nat
instance : Inhabited FIn := ⟨⟨⟨0, 0, 0, [], []⟩, none, 0⟩⟩
/-- A slice of frames that came in. -/
structure FrRow (W : World) (a : Option Addr) (xs : List FIn) : Prop where
  at' : ∀ i, i < xs.length → ∃ b off, a = some ⟨b, off, none⟩ ∧ FrC W b (off + i * 5) (xs.getD i default).f.k (xs.getD i default).f.fr (xs.getD i default).f.t (.slice (xs.getD i default).a (xs.getD i default).f.zs.length (xs.getD i default).cap) (.string ⟨(xs.getD i default).f.d.toArray⟩)
  nums : ∀ i, i < xs.length → IntRow W (xs.getD i default).a (xs.getD i default).f.zs ∧ All64 (xs.getD i default).f.zs ∧ (xs.getD i default).f.zs.length ≤ 9223372036854775807
/-- The region of 'k >= len(l) || !wire.Same(f, l[k])', in whatever order. -/
@[reducible] def pieOps : Array Oper := #[{ dst := some 114, op := Op.move (Operand.tmp 13), type := 3, pos := "outright.go:79", after := #[], guard := none }, { dst := some 115, op := Op.move (Operand.tmp 0), type := 37, pos := "outright.go:79", after := #[], guard := none }, { dst := some 116, op := Op.call { callee := Callee.builtin Builtin.len, args := #[Operand.tmp 115], argTypes := #[37] }, type := 3, pos := "outright.go:79", after := #[{ on := 1, ground := Ground.data }], guard := none }, { dst := some 117, op := Op.binOp BinOp.geq 3 (Operand.tmp 114) (Operand.tmp 116) 3, type := 4, pos := "outright.go:79", after := #[{ on := 0, ground := Ground.data }, { on := 2, ground := Ground.data }], guard := none }, { dst := some 118, op := Op.move (Operand.tmp 117), type := 4, pos := "outright.go:79", after := #[{ on := 3, ground := Ground.data }], guard := none }, { dst := some 119, op := Op.load 26 (Operand.tmp 17), type := 26, pos := "outright.go:79", after := #[{ on := 4, ground := Ground.guard }], guard := some (4, false) }, { dst := some 120, op := Op.move (Operand.tmp 0), type := 37, pos := "outright.go:79", after := #[{ on := 4, ground := Ground.guard }], guard := some (4, false) }, { dst := some 121, op := Op.move (Operand.tmp 13), type := 3, pos := "outright.go:79", after := #[{ on := 4, ground := Ground.guard }], guard := some (4, false) }, { dst := some 122, op := Op.indexAddr 37 (Operand.tmp 120) (Operand.tmp 121), type := 0, pos := "outright.go:79", after := #[{ on := 6, ground := Ground.data }, { on := 7, ground := Ground.data }, { on := 4, ground := Ground.guard }], guard := some (4, false) }, { dst := some 123, op := Op.load 26 (Operand.tmp 122), type := 26, pos := "outright.go:79", after := #[{ on := 8, ground := Ground.data }, { on := 4, ground := Ground.guard }], guard := some (4, false) }, { dst := some 124, op := Op.call { callee := Callee.value (Operand.func 9), args := #[Operand.tmp 119, Operand.tmp 123], argTypes := #[26, 26] }, type := 4, pos := "outright.go:79", after := #[{ on := 5, ground := Ground.data }, { on := 9, ground := Ground.data }, { on := 4, ground := Ground.chain }, { on := 4, ground := Ground.guard }], guard := some (4, false) }, { dst := some 125, op := Op.unOp UnOp.not 4 (Operand.tmp 124), type := 4, pos := "outright.go:79", after := #[{ on := 10, ground := Ground.data }, { on := 4, ground := Ground.guard }], guard := some (4, false) }, { dst := some 126, op := Op.pick (Operand.tmp 118) (Operand.const (Value.bool true)) (Operand.tmp 125), type := 4, pos := "outright.go:79", after := #[{ on := 4, ground := Ground.data }, { on := 11, ground := Ground.data }], guard := none }]
set_option maxHeartbeats 4000000 in
theorem pie_tail (W : World) (b' off n cap k x : Nat) (p1 p2 p3 q1 q2 q3 : Int) (ga ga2 : Option Addr) (gn gn2 gc2 : Nat) (s s2 : ByteArray) (t1 t2 t3 t4 t5 t6 t7 t8 t9 t10 t11 t12 t14 t15 t16 t18 t19 t20 t21 t22 t23 t24 t25 t26 t27 t28 t29 t30 t31 t32 t33 t34 t35 t36 t37 t38 t39 t40 t41 t42 t43 t44 t45 t46 t47 t48 t49 t50 t51 t52 t53 t54 t55 t56 t57 t58 t59 t60 t61 t62 t63 t64 t65 t66 t67 t68 t69 t70 t71 t72 t73 t74 t75 t76 t77 t78 t79 t80 t81 t82 t83 t84 t85 t86 t87 t88 t89 t90 t91 t92 t93 t94 t95 t96 t97 t98 t99 t100 t101 t102 t103 t104 t105 t106 t107 t108 t109 t110 t111 t112 t113 t114 t115 t116 t117 t118 t119 t120 t121 t122 t123 t124 t125 t126 t127 t128 t129 t130 t131 t132 t133 t134 t135 t136 t137 t138 t139 t140 t141 t142 t143 t144 t145 : Value) (Q : Exit → Act → World → Prop)
    (hx : FrAt W x p1 p2 p3 (.slice ga gn gn) (.string s)) (hc : FrC W b' (off + k * 5) q1 q2 q3 (.slice ga2 gn2 gc2) (.string s2)) (hk : k < n) (hn : n ≤ 1000)
    (hsame : ∀ X, Below W.heap.size W X → Calls Try.prog 9 #[.agg #[.int .i64 p1, .int .i64 p2, .int .i64 p3, .slice ga gn gn, .string s], .agg #[.int .i64 q1, .int .i64 q2, .int .i64 q3, .slice ga2 gn2 gc2, .string s2]] X fun e X' => e = .returned (.bool true) ∧ Below X.heap.size X X')
    (hp : ∀ c a (dd : Option Tmp) vv w, Q (.panic c) (a.put dd vv) w → Q (.panic c) a w)
    (hfin : ∀ (X : World) (hB : Below W.heap.size W X), Q .normal { tmps := #[Value.slice (some ⟨b', off, none⟩) n cap, t1, t2, t3, t4, t5, t6, t7, t8, t9, t10, t11, t12, Value.int .i64 k, t14, t15, t16, Value.pointer (some ⟨x, 0, none⟩), t18, t19, t20, t21, t22, t23, t24, t25, t26, t27, t28, t29, t30, t31, t32, t33, t34, t35, t36, t37, t38, t39, t40, t41, t42, t43, t44, t45, t46, t47, t48, t49, t50, t51, t52, t53, t54, t55, t56, t57, t58, t59, t60, t61, t62, t63, t64, t65, t66, t67, t68, t69, t70, t71, t72, t73, t74, t75, t76, t77, t78, t79, t80, t81, t82, t83, t84, t85, t86, t87, t88, t89, t90, t91, t92, t93, t94, t95, t96, t97, t98, t99, t100, t101, t102, t103, t104, t105, t106, t107, t108, t109, t110, t111, t112, t113, Value.int .i64 k, Value.slice (some ⟨b', off, none⟩) n cap, Value.int .i64 n, Value.bool false, Value.bool false, Value.agg #[.int .i64 p1, .int .i64 p2, .int .i64 p3, .slice ga gn gn, .string s], Value.slice (some ⟨b', off, none⟩) n cap, Value.int .i64 k, Value.pointer (some ⟨b', off + k * 5, none⟩), Value.agg #[.int .i64 q1, .int .i64 q2, .int .i64 q3, .slice ga2 gn2 gc2, .string s2], Value.bool true, Value.bool false, Value.bool false, t127, t128, t129, t130, t131, t132, t133, t134, t135, t136, t137, t138, t139, t140, t141, t142, t143, t144, t145], defers := [] } X) :
    Code.wp Try.prog (Code.region 28 pieOps true) Q { tmps := #[Value.slice (some ⟨b', off, none⟩) n cap, t1, t2, t3, t4, t5, t6, t7, t8, t9, t10, t11, t12, Value.int .i64 k, t14, t15, t16, Value.pointer (some ⟨x, 0, none⟩), t18, t19, t20, t21, t22, t23, t24, t25, t26, t27, t28, t29, t30, t31, t32, t33, t34, t35, t36, t37, t38, t39, t40, t41, t42, t43, t44, t45, t46, t47, t48, t49, t50, t51, t52, t53, t54, t55, t56, t57, t58, t59, t60, t61, t62, t63, t64, t65, t66, t67, t68, t69, t70, t71, t72, t73, t74, t75, t76, t77, t78, t79, t80, t81, t82, t83, t84, t85, t86, t87, t88, t89, t90, t91, t92, t93, t94, t95, t96, t97, t98, t99, t100, t101, t102, t103, t104, t105, t106, t107, t108, t109, t110, t111, t112, t113, t114, t115, t116, t117, t118, t119, t120, t121, t122, t123, t124, t125, t126, t127, t128, t129, t130, t131, t132, t133, t134, t135, t136, t137, t138, t139, t140, t141, t142, t143, t144, t145], defers := [] } W := by
  obtain ⟨W0, hW0⟩ : ∃ Z, W.drew = Z := ⟨_, rfl⟩
  have hsz : W0.heap.size = W.heap.size := by rw [← hW0]; rfl
  have D0 : Below W.heap.size W W0 := by rw [← hW0]; exact (Below.refl _ _).drew
  have tr : ∀ X, Below W0.heap.size W0 X → Below W.heap.size W X := fun X h => D0.trans (by rw [← hsz]; exact h)
  have hX : ∀ X, Below W0.heap.size W0 X → FrAt X x p1 p2 p3 (.slice ga gn gn) (.string s) := fun X h => hx.below (tr X h)
  have hC : ∀ X, Below W0.heap.size W0 X → FrC X b' (off + k * 5) q1 q2 q3 (.slice ga2 gn2 gc2) (.string s2) := fun X h => hc.below (tr X h)
  have hSame : Hid (∀ X, Below W0.heap.size W0 X → Calls Try.prog 9 #[.agg #[.int .i64 p1, .int .i64 p2, .int .i64 p3, .slice ga gn gn, .string s], .agg #[.int .i64 q1, .int .i64 q2, .int .i64 q3, .slice ga2 gn2 gc2, .string s2]] X fun e X' => e = .returned (.bool true) ∧ Below X.heap.size X X') := fun X h => hsame X (tr X h)
  have hfin : Hid (∀ (X : World) (hB : Below W0.heap.size W0 X), Q .normal { tmps := #[Value.slice (some ⟨b', off, none⟩) n cap, t1, t2, t3, t4, t5, t6, t7, t8, t9, t10, t11, t12, Value.int .i64 k, t14, t15, t16, Value.pointer (some ⟨x, 0, none⟩), t18, t19, t20, t21, t22, t23, t24, t25, t26, t27, t28, t29, t30, t31, t32, t33, t34, t35, t36, t37, t38, t39, t40, t41, t42, t43, t44, t45, t46, t47, t48, t49, t50, t51, t52, t53, t54, t55, t56, t57, t58, t59, t60, t61, t62, t63, t64, t65, t66, t67, t68, t69, t70, t71, t72, t73, t74, t75, t76, t77, t78, t79, t80, t81, t82, t83, t84, t85, t86, t87, t88, t89, t90, t91, t92, t93, t94, t95, t96, t97, t98, t99, t100, t101, t102, t103, t104, t105, t106, t107, t108, t109, t110, t111, t112, t113, Value.int .i64 k, Value.slice (some ⟨b', off, none⟩) n cap, Value.int .i64 n, Value.bool false, Value.bool false, Value.agg #[.int .i64 p1, .int .i64 p2, .int .i64 p3, .slice ga gn gn, .string s], Value.slice (some ⟨b', off, none⟩) n cap, Value.int .i64 k, Value.pointer (some ⟨b', off + k * 5, none⟩), Value.agg #[.int .i64 q1, .int .i64 q2, .int .i64 q3, .slice ga2 gn2 gc2, .string s2], Value.bool true, Value.bool false, Value.bool false, t127, t128, t129, t130, t131, t132, t133, t134, t135, t136, t137, t138, t139, t140, t141, t142, t143, t144, t145], defers := [] } X) := fun X h => hfin X (tr X h)
  have B0 : Below W0.heap.size W0 W0 := Below.refl _ _
  have hkn : decide ((n : Int) ≤ (k : Int)) = false := by simp; omega
  have hki : (k : Int) < (n : Int) := by omega
  refine wp_region_held_drew (S := fun X => Below W0.heap.size W0 X) (by kernel_rfl) (by rw [hW0]; exact B0) (fun hHeld => ?_)
  rw [hW0] at hHeld ⊢
  clear hW0 D0 hsz tr hx hc hsame
  refine wpAnyH_take (i := 0) (oi := { dst := some 114, op := Op.move (Operand.tmp 13), type := 3, pos := "outright.go:79", after := #[], guard := none }) (v := ?_) rfl (by kernel_rfl) (by kernel_rfl) (by kernel_rfl) (fun c a w h => hp c _ _ _ w h) (Or.inl ⟨by rfl, ?_⟩) hHeld ?_
  rotate_left
  · (intro w hSw; (try dsimp only at hSw); go_simp; all_goals (try with_reducible rfl))
  try simp only [Act.put, List.setIfInBounds_toArray, List.set_cons_zero, List.set_cons_succ]
  refine wpAnyH_take (i := 1) (oi := { dst := some 115, op := Op.move (Operand.tmp 0), type := 37, pos := "outright.go:79", after := #[], guard := none }) (v := ?_) rfl (by kernel_rfl) (by kernel_rfl) (by kernel_rfl) (fun c a w h => hp c _ _ _ w h) (Or.inl ⟨by rfl, ?_⟩) hHeld ?_
  rotate_left
  · (intro w hSw; (try dsimp only at hSw); go_simp; all_goals (try with_reducible rfl))
  try simp only [Act.put, List.setIfInBounds_toArray, List.set_cons_zero, List.set_cons_succ]
  refine wpAnyH_take (i := 2) (oi := { dst := some 116, op := Op.call { callee := Callee.builtin Builtin.len, args := #[Operand.tmp 115], argTypes := #[37] }, type := 3, pos := "outright.go:79", after := #[{ on := 1, ground := Ground.data }], guard := none }) (v := ?_) rfl (by kernel_rfl) (by kernel_rfl) (by kernel_rfl) (fun c a w h => hp c _ _ _ w h) (Or.inl ⟨by rfl, ?_⟩) hHeld ?_
  rotate_left
  · (intro w hSw; (try dsimp only at hSw); go_simp; all_goals (try with_reducible rfl))
  try simp only [Act.put, List.setIfInBounds_toArray, List.set_cons_zero, List.set_cons_succ]
  refine wpAnyH_take (i := 3) (oi := { dst := some 117, op := Op.binOp BinOp.geq 3 (Operand.tmp 114) (Operand.tmp 116) 3, type := 4, pos := "outright.go:79", after := #[{ on := 0, ground := Ground.data }, { on := 2, ground := Ground.data }], guard := none }) (v := Value.bool false) rfl (by kernel_rfl) (by kernel_rfl) (by kernel_rfl) (fun c a w h => hp c _ _ _ w h) (Or.inl ⟨by rfl, (by intro w hSw; (try dsimp only at hSw); go_simp; all_goals (try with_reducible rfl))⟩) hHeld ?_
  try simp only [Act.put, List.setIfInBounds_toArray, List.set_cons_zero, List.set_cons_succ]
  refine wpAnyH_take (i := 4) (oi := { dst := some 118, op := Op.move (Operand.tmp 117), type := 4, pos := "outright.go:79", after := #[{ on := 3, ground := Ground.data }], guard := none }) (v := ?_) rfl (by kernel_rfl) (by kernel_rfl) (by kernel_rfl) (fun c a w h => hp c _ _ _ w h) (Or.inl ⟨by rfl, ?_⟩) hHeld ?_
  rotate_left
  · (intro w hSw; (try dsimp only at hSw); go_simp; all_goals (try with_reducible rfl))
  try simp only [Act.put, List.setIfInBounds_toArray, List.set_cons_zero, List.set_cons_succ]
  refine wpAnyH_take (i := 5) (oi := { dst := some 119, op := Op.load 26 (Operand.tmp 17), type := 26, pos := "outright.go:79", after := #[{ on := 4, ground := Ground.guard }], guard := some (4, false) }) (v := ?_) rfl (by kernel_rfl) (by kernel_rfl) (by kernel_rfl) (fun c a w h => hp c _ _ _ w h) (Or.inl ⟨by rfl, ?_⟩) hHeld ?_
  rotate_left
  · (intro w hSw; (try dsimp only at hSw); have q := hX _ hSw; have u0 := q.c0; have u1 := q.c1; have u2 := q.c2; have u3 := q.c3; have u4 := q.c4; clear q; go_simp; all_goals (try with_reducible rfl))
  try simp only [Act.put, List.setIfInBounds_toArray, List.set_cons_zero, List.set_cons_succ]
  refine wpAnyH_take (i := 6) (oi := { dst := some 120, op := Op.move (Operand.tmp 0), type := 37, pos := "outright.go:79", after := #[{ on := 4, ground := Ground.guard }], guard := some (4, false) }) (v := ?_) rfl (by kernel_rfl) (by kernel_rfl) (by kernel_rfl) (fun c a w h => hp c _ _ _ w h) (Or.inl ⟨by rfl, ?_⟩) hHeld ?_
  rotate_left
  · (intro w hSw; (try dsimp only at hSw); go_simp; all_goals (try with_reducible rfl))
  try simp only [Act.put, List.setIfInBounds_toArray, List.set_cons_zero, List.set_cons_succ]
  refine wpAnyH_take (i := 7) (oi := { dst := some 121, op := Op.move (Operand.tmp 13), type := 3, pos := "outright.go:79", after := #[{ on := 4, ground := Ground.guard }], guard := some (4, false) }) (v := ?_) rfl (by kernel_rfl) (by kernel_rfl) (by kernel_rfl) (fun c a w h => hp c _ _ _ w h) (Or.inl ⟨by rfl, ?_⟩) hHeld ?_
  rotate_left
  · (intro w hSw; (try dsimp only at hSw); go_simp; all_goals (try with_reducible rfl))
  try simp only [Act.put, List.setIfInBounds_toArray, List.set_cons_zero, List.set_cons_succ]
  refine wpAnyH_take (i := 8) (oi := { dst := some 122, op := Op.indexAddr 37 (Operand.tmp 120) (Operand.tmp 121), type := 0, pos := "outright.go:79", after := #[{ on := 6, ground := Ground.data }, { on := 7, ground := Ground.data }, { on := 4, ground := Ground.guard }], guard := some (4, false) }) (v := ?_) rfl (by kernel_rfl) (by kernel_rfl) (by kernel_rfl) (fun c a w h => hp c _ _ _ w h) (Or.inl ⟨by rfl, ?_⟩) hHeld ?_
  rotate_left
  · (intro w hSw; (try dsimp only at hSw); go_simp; all_goals (try with_reducible rfl))
  try simp only [Act.put, List.setIfInBounds_toArray, List.set_cons_zero, List.set_cons_succ]
  refine wpAnyH_take (i := 9) (oi := { dst := some 123, op := Op.load 26 (Operand.tmp 122), type := 26, pos := "outright.go:79", after := #[{ on := 8, ground := Ground.data }, { on := 4, ground := Ground.guard }], guard := some (4, false) }) (v := ?_) rfl (by kernel_rfl) (by kernel_rfl) (by kernel_rfl) (fun c a w h => hp c _ _ _ w h) (Or.inl ⟨by rfl, ?_⟩) hHeld ?_
  rotate_left
  · (intro w hSw; (try dsimp only at hSw); have q := hC _ hSw; have u0 := q.c0; have u1 := q.c1; have u2 := q.c2; have u3 := q.c3; have u4 := q.c4; clear q; go_simp; all_goals (try with_reducible rfl))
  try simp only [Act.put, List.setIfInBounds_toArray, List.set_cons_zero, List.set_cons_succ]
  refine wpAnyH_ready (rs := [10]) (by kernel_rfl) (by simp) ?_
  refine AllReadyH.cons (o := { dst := some 124, op := Op.call { callee := Callee.value (Operand.func 9), args := #[Operand.tmp 119, Operand.tmp 123], argTypes := #[26, 26] }, type := 4, pos := "outright.go:79", after := #[{ on := 5, ground := Ground.data }, { on := 9, ground := Ground.data }, { on := 4, ground := Ground.chain }, { on := 4, ground := Ground.guard }], guard := some (4, false) }) rfl (fun K hK => ?_) AllReadyH.nil
  go_simp
  refine Calls.mono (hSame.out _ B0) ?_
  rintro e X1 ⟨rfl, hb⟩
  have B1 : Below W0.heap.size W0 X1 := hb
  clear hb
  go_wp2_with fail
  refine hK.out _ _ B1 (fun hHeld => ?_)
  clear hK K
  try simp only [Act.put, List.setIfInBounds_toArray, List.set_cons_zero, List.set_cons_succ]
  refine wpAnyH_take (i := 11) (oi := { dst := some 125, op := Op.unOp UnOp.not 4 (Operand.tmp 124), type := 4, pos := "outright.go:79", after := #[{ on := 10, ground := Ground.data }, { on := 4, ground := Ground.guard }], guard := some (4, false) }) (v := ?_) rfl (by kernel_rfl) (by kernel_rfl) (by kernel_rfl) (fun c a w h => hp c _ _ _ w h) (Or.inl ⟨by rfl, ?_⟩) hHeld ?_
  rotate_left
  · (intro w hSw; (try dsimp only at hSw); go_simp; all_goals (try with_reducible rfl))
  try simp only [Act.put, List.setIfInBounds_toArray, List.set_cons_zero, List.set_cons_succ]
  refine wpAnyH_take (i := 12) (oi := { dst := some 126, op := Op.pick (Operand.tmp 118) (Operand.const (Value.bool true)) (Operand.tmp 125), type := 4, pos := "outright.go:79", after := #[{ on := 4, ground := Ground.data }, { on := 11, ground := Ground.data }], guard := none }) (v := Value.bool false) rfl (by kernel_rfl) (by kernel_rfl) (by kernel_rfl) (fun c a w h => hp c _ _ _ w h) (Or.inl ⟨by rfl, (by intro w hSw; (try dsimp only at hSw); go_simp; all_goals (try with_reducible rfl))⟩) hHeld ?_
  try simp only [Act.put, List.setIfInBounds_toArray, List.set_cons_zero, List.set_cons_succ]
  refine wpAnyH_done (by kernel_rfl) ?_ _
  exact hfin.out _ B1
end Go.Proofs.Ytglkoedmonenoaa
