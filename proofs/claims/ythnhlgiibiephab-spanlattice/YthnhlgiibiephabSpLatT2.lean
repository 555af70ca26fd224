/- SpanLattice: the law's walk. Conditions: none but the numbers' own ranges. -/
import Derived.Test.YthnhlgiibiephabLatM
namespace Go.Proofs.Ythnhlgiibiephab
open Go.RowKit
set_option linter.unusedVariables false
set_option maxRecDepth 100000

set_option maxHeartbeats 32000000 in
theorem lat_tail_tf (a b c d e f n m1 m2 : Int) (w W0 : World) (g8 g9 : Nat) (t11 t12 t13 t14 t15 t16 t17 t18 t19 t20 t21 t22 t23 t24 t25 t26 t27 t28 t29 t30 t31 t32 t33 t34 t35 t36 t37 t38 t39 t40 t41 t42 t43 t44 t45 t46 t47 t48 t49 t50 t51 t52 t53 t54 t55 t56 t57 t58 t59 t60 t61 t62 t63 t64 t65 t66 t67 t68 t69 t70 t71 t72 : Value) (Q : Exit → Act → World → Prop) (bs : B64 a ∧ B64 b ∧ B64 c ∧ B64 d ∧ B64 e ∧ B64 f)
    (hp : ∀ c a (dd : Option Tmp) vv w, Q (.panic c) (a.put dd vv) w → Q (.panic c) a w) (hB : Below w.heap.size w W0) (hS : ∀ W', W' = W0 → W'.cell? ⟨w.heap.size, 0, none⟩ = some (.int .i64 a) ∧ W'.cell? ⟨w.heap.size, 1, none⟩ = some (.int .i64 b) ∧ W'.cell? ⟨w.heap.size + 1, 0, none⟩ = some (.int .i64 c) ∧ W'.cell? ⟨w.heap.size + 1, 1, none⟩ = some (.int .i64 d) ∧ W'.cell? ⟨w.heap.size + 1 + 1, 0, none⟩ = some (.int .i64 e) ∧ W'.cell? ⟨w.heap.size + 1 + 1, 1, none⟩ = some (.int .i64 f) ∧ W'.cell? ⟨g9, 0, none⟩ = some (.int .i64 m1) ∧ W'.cell? ⟨g9, 1, none⟩ = some (.int .i64 m2)) (hx : a ≤ n ∧ n ≤ b) (hy : n < c ∨ d < n) (hm' : n < m1 ∨ m2 < n)
    (hfin : ∀ (X : World) (r19 r21 r26 r34 r36 r41 r47 r50 : Nat) (j1 j2 k1 k2 p1 p2 q1 q2 u1 u2 : Int), Below w.heap.size w X → Q .normal { tmps := #[Value.agg #[.int .i64 a, .int .i64 b], Value.agg #[.int .i64 c, .int .i64 d], Value.agg #[.int .i64 e, .int .i64 f], Value.int .i64 n, Value.pointer (some ⟨w.heap.size, 0, none⟩), Value.pointer (some ⟨(w.heap.size + 1), 0, none⟩), Value.pointer (some ⟨(w.heap.size + 1 + 1), 0, none⟩), undef, Value.bool true, Value.pointer (some ⟨g8, 0, none⟩), Value.pointer (some ⟨g9, 0, none⟩), t11, t12, t13, t14, t15, t16, t17, t18, t19, t20, t21, t22, t23, t24, t25, t26, t27, t28, t29, t30, t31, t32, t33, t34, t35, t36, t37, t38, t39, t40, t41, t42, t43, t44, t45, t46, t47, t48, t49, t50, t51, t52, t53, t54, t55, t56, t57, t58, t59, t60, t61, t62, t63, t64, t65, t66, t67, t68, t69, t70, t71, t72, Value.bool true, Value.bool true, Value.agg #[.int .i64 m1, .int .i64 m2], Value.int .i64 n, Value.bool false, Value.agg #[.int .i64 a, .int .i64 b], Value.int .i64 n, Value.bool true, Value.bool true, Value.agg #[.int .i64 c, .int .i64 d], Value.int .i64 n, Value.bool false, Value.bool false, Value.bool true, Value.bool true, Value.bool true, Value.agg #[.int .i64 a, .int .i64 b], Value.agg #[.int .i64 c, .int .i64 d], Value.agg #[.int .i64 e, .int .i64 f], Value.slice (some ⟨r19, 0, none⟩) 2 2, Value.agg #[.int .i64 j1, .int .i64 j2], Value.slice (some ⟨r21, 0, none⟩) 2 2, Value.agg #[.int .i64 k1, .int .i64 k2], Value.agg #[.int .i64 a, .int .i64 b], Value.agg #[.int .i64 c, .int .i64 d], Value.agg #[.int .i64 e, .int .i64 f], Value.slice (some ⟨r26, 0, none⟩) 3 3, Value.agg #[.int .i64 k1, .int .i64 k2], Value.bool true, Value.bool true, Value.bool true, Value.agg #[.int .i64 a, .int .i64 b], Value.agg #[.int .i64 c, .int .i64 d], Value.agg #[.int .i64 e, .int .i64 f], Value.slice (some ⟨r34, 0, none⟩) 2 2, Value.agg #[.int .i64 p1, .int .i64 p2], Value.slice (some ⟨r36, 0, none⟩) 2 2, Value.agg #[.int .i64 q1, .int .i64 q2], Value.agg #[.int .i64 a, .int .i64 b], Value.agg #[.int .i64 c, .int .i64 d], Value.agg #[.int .i64 e, .int .i64 f], Value.slice (some ⟨r41, 0, none⟩) 3 3, Value.agg #[.int .i64 q1, .int .i64 q2], Value.bool true, Value.bool true, Value.bool true, Value.agg #[.int .i64 a, .int .i64 b], Value.slice (some ⟨r47, 0, none⟩) 1 1, Value.agg #[.int .i64 u1, .int .i64 u2], Value.agg #[.int .i64 a, .int .i64 b], Value.slice (some ⟨r50, 0, none⟩) 1 1, Value.agg #[.int .i64 u1, .int .i64 u2], Value.bool true, Value.bool true], defers := [] } X) :
    Code.wp Try.prog (Code.region 4 #[{ dst := some 73, op := Op.call { callee := Callee.value (Operand.func 10), args := #[], argTypes := #[] }, type := 4, pos := "outright.go:47", after := #[], guard := none }, { dst := some 74, op := Op.move (Operand.tmp 73), type := 4, pos := "outright.go:47", after := #[{ on := 0, ground := Ground.data }, { on := 0, ground := Ground.chain }], guard := none }, { dst := some 75, op := Op.load 23 (Operand.tmp 10), type := 23, pos := "outright.go:47", after := #[{ on := 1, ground := Ground.guard }], guard := some (1, true) }, { dst := some 76, op := Op.move (Operand.tmp 3), type := 3, pos := "outright.go:47", after := #[{ on := 1, ground := Ground.guard }], guard := some (1, true) }, { dst := some 77, op := Op.call { callee := Callee.value (Operand.func 12), args := #[Operand.tmp 75, Operand.tmp 76], argTypes := #[23, 3] }, type := 4, pos := "outright.go:47", after := #[{ on := 2, ground := Ground.data }, { on := 3, ground := Ground.data }, { on := 1, ground := Ground.chain }, { on := 1, ground := Ground.guard }], guard := some (1, true) }, { dst := some 78, op := Op.load 23 (Operand.tmp 4), type := 23, pos := "outright.go:47", after := #[{ on := 1, ground := Ground.guard }], guard := some (1, true) }, { dst := some 79, op := Op.move (Operand.tmp 3), type := 3, pos := "outright.go:47", after := #[{ on := 1, ground := Ground.guard }], guard := some (1, true) }, { dst := some 80, op := Op.call { callee := Callee.value (Operand.func 12), args := #[Operand.tmp 78, Operand.tmp 79], argTypes := #[23, 3] }, type := 4, pos := "outright.go:47", after := #[{ on := 5, ground := Ground.data }, { on := 6, ground := Ground.data }, { on := 4, ground := Ground.chain }, { on := 1, ground := Ground.guard }], guard := some (1, true) }, { dst := some 81, op := Op.move (Operand.tmp 80), type := 4, pos := "outright.go:47", after := #[{ on := 7, ground := Ground.data }, { on := 7, ground := Ground.chain }, { on := 1, ground := Ground.guard }], guard := some (1, true) }, { dst := some 82, op := Op.load 23 (Operand.tmp 5), type := 23, pos := "outright.go:47", after := #[{ on := 8, ground := Ground.guard }], guard := some (8, true) }, { dst := some 83, op := Op.move (Operand.tmp 3), type := 3, pos := "outright.go:47", after := #[{ on := 8, ground := Ground.guard }], guard := some (8, true) }, { dst := some 84, op := Op.call { callee := Callee.value (Operand.func 12), args := #[Operand.tmp 82, Operand.tmp 83], argTypes := #[23, 3] }, type := 4, pos := "outright.go:47", after := #[{ on := 9, ground := Ground.data }, { on := 10, ground := Ground.data }, { on := 8, ground := Ground.chain }, { on := 8, ground := Ground.guard }], guard := some (8, true) }, { dst := some 85, op := Op.pick (Operand.tmp 81) (Operand.tmp 84) (Operand.const (Value.bool false)), type := 4, pos := "outright.go:47", after := #[{ on := 8, ground := Ground.data }, { on := 11, ground := Ground.data }, { on := 1, ground := Ground.guard }], guard := some (1, true) }, { dst := some 86, op := Op.binOp BinOp.eql 4 (Operand.tmp 77) (Operand.tmp 85) 4, type := 4, pos := "outright.go:47", after := #[{ on := 4, ground := Ground.data }, { on := 12, ground := Ground.data }, { on := 1, ground := Ground.guard }], guard := some (1, true) }, { dst := some 87, op := Op.pick (Operand.tmp 74) (Operand.tmp 86) (Operand.const (Value.bool false)), type := 4, pos := "outright.go:47", after := #[{ on := 1, ground := Ground.data }, { on := 13, ground := Ground.data }], guard := none }, { dst := some 88, op := Op.move (Operand.tmp 87), type := 4, pos := "outright.go:47", after := #[{ on := 14, ground := Ground.data }, { on := 11, ground := Ground.chain }], guard := none }, { dst := some 89, op := Op.load 23 (Operand.tmp 4), type := 23, pos := "outright.go:47", after := #[{ on := 15, ground := Ground.guard }], guard := some (15, true) }, { dst := some 90, op := Op.load 23 (Operand.tmp 5), type := 23, pos := "outright.go:47", after := #[{ on := 15, ground := Ground.guard }], guard := some (15, true) }, { dst := some 91, op := Op.load 23 (Operand.tmp 6), type := 23, pos := "outright.go:47", after := #[{ on := 15, ground := Ground.guard }], guard := some (15, true) }, { dst := some 92, op := Op.buildSlice 50 2 #[(0, Operand.tmp 90), (1, Operand.tmp 91)], type := 50, pos := "outright.go:47", after := #[{ on := 17, ground := Ground.data }, { on := 18, ground := Ground.data }, { on := 15, ground := Ground.guard }], guard := some (15, true) }, { dst := some 93, op := Op.call { callee := Callee.value (Operand.func 22), args := #[Operand.tmp 92], argTypes := #[50] }, type := 23, pos := "outright.go:47", after := #[{ on := 19, ground := Ground.data }, { on := 15, ground := Ground.chain }, { on := 15, ground := Ground.guard }], guard := some (15, true) }, { dst := some 94, op := Op.buildSlice 50 2 #[(0, Operand.tmp 89), (1, Operand.tmp 93)], type := 50, pos := "outright.go:47", after := #[{ on := 16, ground := Ground.data }, { on := 20, ground := Ground.data }, { on := 15, ground := Ground.guard }], guard := some (15, true) }, { dst := some 95, op := Op.call { callee := Callee.value (Operand.func 22), args := #[Operand.tmp 94], argTypes := #[50] }, type := 23, pos := "outright.go:47", after := #[{ on := 21, ground := Ground.data }, { on := 20, ground := Ground.chain }, { on := 15, ground := Ground.guard }], guard := some (15, true) }, { dst := some 96, op := Op.load 23 (Operand.tmp 4), type := 23, pos := "outright.go:47", after := #[{ on := 15, ground := Ground.guard }], guard := some (15, true) }, { dst := some 97, op := Op.load 23 (Operand.tmp 5), type := 23, pos := "outright.go:47", after := #[{ on := 15, ground := Ground.guard }], guard := some (15, true) }, { dst := some 98, op := Op.load 23 (Operand.tmp 6), type := 23, pos := "outright.go:47", after := #[{ on := 15, ground := Ground.guard }], guard := some (15, true) }, { dst := some 99, op := Op.buildSlice 50 3 #[(0, Operand.tmp 96), (1, Operand.tmp 97), (2, Operand.tmp 98)], type := 50, pos := "outright.go:47", after := #[{ on := 23, ground := Ground.data }, { on := 24, ground := Ground.data }, { on := 25, ground := Ground.data }, { on := 15, ground := Ground.guard }], guard := some (15, true) }, { dst := some 100, op := Op.call { callee := Callee.value (Operand.func 22), args := #[Operand.tmp 99], argTypes := #[50] }, type := 23, pos := "outright.go:47", after := #[{ on := 26, ground := Ground.data }, { on := 22, ground := Ground.chain }, { on := 15, ground := Ground.guard }], guard := some (15, true) }, { dst := some 101, op := Op.binOp BinOp.eql 23 (Operand.tmp 95) (Operand.tmp 100) 23, type := 4, pos := "outright.go:47", after := #[{ on := 22, ground := Ground.data }, { on := 27, ground := Ground.data }, { on := 15, ground := Ground.guard }], guard := some (15, true) }, { dst := some 102, op := Op.pick (Operand.tmp 88) (Operand.tmp 101) (Operand.const (Value.bool false)), type := 4, pos := "outright.go:47", after := #[{ on := 15, ground := Ground.data }, { on := 28, ground := Ground.data }], guard := none }, { dst := some 103, op := Op.move (Operand.tmp 102), type := 4, pos := "outright.go:47", after := #[{ on := 29, ground := Ground.data }, { on := 27, ground := Ground.chain }], guard := none }, { dst := some 104, op := Op.load 23 (Operand.tmp 4), type := 23, pos := "outright.go:47", after := #[{ on := 30, ground := Ground.guard }], guard := some (30, true) }, { dst := some 105, op := Op.load 23 (Operand.tmp 5), type := 23, pos := "outright.go:47", after := #[{ on := 30, ground := Ground.guard }], guard := some (30, true) }, { dst := some 106, op := Op.load 23 (Operand.tmp 6), type := 23, pos := "outright.go:47", after := #[{ on := 30, ground := Ground.guard }], guard := some (30, true) }, { dst := some 107, op := Op.buildSlice 50 2 #[(0, Operand.tmp 105), (1, Operand.tmp 106)], type := 50, pos := "outright.go:47", after := #[{ on := 32, ground := Ground.data }, { on := 33, ground := Ground.data }, { on := 30, ground := Ground.guard }], guard := some (30, true) }, { dst := some 108, op := Op.call { callee := Callee.value (Operand.func 23), args := #[Operand.tmp 107], argTypes := #[50] }, type := 23, pos := "outright.go:47", after := #[{ on := 34, ground := Ground.data }, { on := 30, ground := Ground.chain }, { on := 30, ground := Ground.guard }], guard := some (30, true) }, { dst := some 109, op := Op.buildSlice 50 2 #[(0, Operand.tmp 104), (1, Operand.tmp 108)], type := 50, pos := "outright.go:47", after := #[{ on := 31, ground := Ground.data }, { on := 35, ground := Ground.data }, { on := 30, ground := Ground.guard }], guard := some (30, true) }, { dst := some 110, op := Op.call { callee := Callee.value (Operand.func 23), args := #[Operand.tmp 109], argTypes := #[50] }, type := 23, pos := "outright.go:47", after := #[{ on := 36, ground := Ground.data }, { on := 35, ground := Ground.chain }, { on := 30, ground := Ground.guard }], guard := some (30, true) }, { dst := some 111, op := Op.load 23 (Operand.tmp 4), type := 23, pos := "outright.go:47", after := #[{ on := 30, ground := Ground.guard }], guard := some (30, true) }, { dst := some 112, op := Op.load 23 (Operand.tmp 5), type := 23, pos := "outright.go:47", after := #[{ on := 30, ground := Ground.guard }], guard := some (30, true) }, { dst := some 113, op := Op.load 23 (Operand.tmp 6), type := 23, pos := "outright.go:47", after := #[{ on := 30, ground := Ground.guard }], guard := some (30, true) }, { dst := some 114, op := Op.buildSlice 50 3 #[(0, Operand.tmp 111), (1, Operand.tmp 112), (2, Operand.tmp 113)], type := 50, pos := "outright.go:47", after := #[{ on := 38, ground := Ground.data }, { on := 39, ground := Ground.data }, { on := 40, ground := Ground.data }, { on := 30, ground := Ground.guard }], guard := some (30, true) }, { dst := some 115, op := Op.call { callee := Callee.value (Operand.func 23), args := #[Operand.tmp 114], argTypes := #[50] }, type := 23, pos := "outright.go:47", after := #[{ on := 41, ground := Ground.data }, { on := 37, ground := Ground.chain }, { on := 30, ground := Ground.guard }], guard := some (30, true) }, { dst := some 116, op := Op.binOp BinOp.eql 23 (Operand.tmp 110) (Operand.tmp 115) 23, type := 4, pos := "outright.go:47", after := #[{ on := 37, ground := Ground.data }, { on := 42, ground := Ground.data }, { on := 30, ground := Ground.guard }], guard := some (30, true) }, { dst := some 117, op := Op.pick (Operand.tmp 103) (Operand.tmp 116) (Operand.const (Value.bool false)), type := 4, pos := "outright.go:47", after := #[{ on := 30, ground := Ground.data }, { on := 43, ground := Ground.data }], guard := none }, { dst := some 118, op := Op.move (Operand.tmp 117), type := 4, pos := "outright.go:47", after := #[{ on := 44, ground := Ground.data }, { on := 42, ground := Ground.chain }], guard := none }, { dst := some 119, op := Op.load 23 (Operand.tmp 4), type := 23, pos := "outright.go:47", after := #[{ on := 45, ground := Ground.guard }], guard := some (45, true) }, { dst := some 120, op := Op.buildSlice 50 1 #[(0, Operand.tmp 119)], type := 50, pos := "outright.go:47", after := #[{ on := 46, ground := Ground.data }, { on := 45, ground := Ground.guard }], guard := some (45, true) }, { dst := some 121, op := Op.call { callee := Callee.value (Operand.func 22), args := #[Operand.tmp 120], argTypes := #[50] }, type := 23, pos := "outright.go:47", after := #[{ on := 47, ground := Ground.data }, { on := 45, ground := Ground.chain }, { on := 45, ground := Ground.guard }], guard := some (45, true) }, { dst := some 122, op := Op.load 23 (Operand.tmp 4), type := 23, pos := "outright.go:47", after := #[{ on := 45, ground := Ground.guard }], guard := some (45, true) }, { dst := some 123, op := Op.buildSlice 50 1 #[(0, Operand.tmp 122)], type := 50, pos := "outright.go:47", after := #[{ on := 49, ground := Ground.data }, { on := 45, ground := Ground.guard }], guard := some (45, true) }, { dst := some 124, op := Op.call { callee := Callee.value (Operand.func 23), args := #[Operand.tmp 123], argTypes := #[50] }, type := 23, pos := "outright.go:47", after := #[{ on := 50, ground := Ground.data }, { on := 48, ground := Ground.chain }, { on := 45, ground := Ground.guard }], guard := some (45, true) }, { dst := some 125, op := Op.binOp BinOp.eql 23 (Operand.tmp 121) (Operand.tmp 124) 23, type := 4, pos := "outright.go:47", after := #[{ on := 48, ground := Ground.data }, { on := 51, ground := Ground.data }, { on := 45, ground := Ground.guard }], guard := some (45, true) }, { dst := some 126, op := Op.pick (Operand.tmp 118) (Operand.tmp 125) (Operand.const (Value.bool false)), type := 4, pos := "outright.go:47", after := #[{ on := 45, ground := Ground.data }, { on := 52, ground := Ground.data }], guard := none }, { dst := some 8, op := Op.assign (Operand.tmp 126), type := 4, pos := "outright.go:47", after := #[{ on := 53, ground := Ground.data }, { on := 51, ground := Ground.chain }, { on := 0, ground := Ground.phase }, { on := 1, ground := Ground.phase }, { on := 2, ground := Ground.phase }, { on := 3, ground := Ground.phase }, { on := 4, ground := Ground.phase }, { on := 5, ground := Ground.phase }, { on := 6, ground := Ground.phase }, { on := 7, ground := Ground.phase }, { on := 8, ground := Ground.phase }, { on := 9, ground := Ground.phase }, { on := 10, ground := Ground.phase }, { on := 11, ground := Ground.phase }, { on := 12, ground := Ground.phase }, { on := 13, ground := Ground.phase }, { on := 14, ground := Ground.phase }, { on := 15, ground := Ground.phase }, { on := 16, ground := Ground.phase }, { on := 17, ground := Ground.phase }, { on := 18, ground := Ground.phase }, { on := 19, ground := Ground.phase }, { on := 20, ground := Ground.phase }, { on := 21, ground := Ground.phase }, { on := 22, ground := Ground.phase }, { on := 23, ground := Ground.phase }, { on := 24, ground := Ground.phase }, { on := 25, ground := Ground.phase }, { on := 26, ground := Ground.phase }, { on := 27, ground := Ground.phase }, { on := 28, ground := Ground.phase }, { on := 29, ground := Ground.phase }, { on := 30, ground := Ground.phase }, { on := 31, ground := Ground.phase }, { on := 32, ground := Ground.phase }, { on := 33, ground := Ground.phase }, { on := 34, ground := Ground.phase }, { on := 35, ground := Ground.phase }, { on := 36, ground := Ground.phase }, { on := 37, ground := Ground.phase }, { on := 38, ground := Ground.phase }, { on := 39, ground := Ground.phase }, { on := 40, ground := Ground.phase }, { on := 41, ground := Ground.phase }, { on := 42, ground := Ground.phase }, { on := 43, ground := Ground.phase }, { on := 44, ground := Ground.phase }, { on := 45, ground := Ground.phase }, { on := 46, ground := Ground.phase }, { on := 47, ground := Ground.phase }, { on := 48, ground := Ground.phase }, { on := 49, ground := Ground.phase }, { on := 50, ground := Ground.phase }, { on := 51, ground := Ground.phase }, { on := 52, ground := Ground.phase }, { on := 53, ground := Ground.phase }], guard := none }] true) Q { tmps := #[Value.agg #[.int .i64 a, .int .i64 b], Value.agg #[.int .i64 c, .int .i64 d], Value.agg #[.int .i64 e, .int .i64 f], Value.int .i64 n, Value.pointer (some ⟨w.heap.size, 0, none⟩), Value.pointer (some ⟨(w.heap.size + 1), 0, none⟩), Value.pointer (some ⟨(w.heap.size + 1 + 1), 0, none⟩), undef, Value.bool false, Value.pointer (some ⟨g8, 0, none⟩), Value.pointer (some ⟨g9, 0, none⟩), t11, t12, t13, t14, t15, t16, t17, t18, t19, t20, t21, t22, t23, t24, t25, t26, t27, t28, t29, t30, t31, t32, t33, t34, t35, t36, t37, t38, t39, t40, t41, t42, t43, t44, t45, t46, t47, t48, t49, t50, t51, t52, t53, t54, t55, t56, t57, t58, t59, t60, t61, t62, t63, t64, t65, t66, t67, t68, t69, t70, t71, t72, undef, undef, undef, undef, undef, undef, undef, undef, undef, undef, undef, undef, undef, undef, undef, undef, undef, undef, undef, undef, undef, undef, undef, undef, undef, undef, undef, undef, undef, undef, undef, undef, undef, undef, undef, undef, undef, undef, undef, undef, undef, undef, undef, undef, undef, undef, undef, undef, undef, undef, undef, undef, undef, undef], defers := [] } W0 := by
  obtain ⟨z, hz⟩ : ∃ z, W0.heap.size = z := ⟨_, rfl⟩
  have HK : Hid (∀ W', Kept2 z z W0 W' → W'.cell? ⟨w.heap.size, 0, none⟩ = some (.int .i64 a) ∧ W'.cell? ⟨w.heap.size, 1, none⟩ = some (.int .i64 b) ∧ W'.cell? ⟨w.heap.size + 1, 0, none⟩ = some (.int .i64 c) ∧ W'.cell? ⟨w.heap.size + 1, 1, none⟩ = some (.int .i64 d) ∧ W'.cell? ⟨w.heap.size + 1 + 1, 0, none⟩ = some (.int .i64 e) ∧ W'.cell? ⟨w.heap.size + 1 + 1, 1, none⟩ = some (.int .i64 f) ∧ W'.cell? ⟨g9, 0, none⟩ = some (.int .i64 m1) ∧ W'.cell? ⟨g9, 1, none⟩ = some (.int .i64 m2)) := fun W' kk => by
    obtain ⟨c1, c2, c3, c4, c5, c6, c7, c8⟩ := hS W0 rfl
    have ne : ∀ g i v, W0.cell? ⟨g, i, none⟩ = some v → g ≠ z := fun g i v h => by have := World.block_lt_of_cell? W0 ⟨g, i, none⟩ h; simp only at this; omega
    exact ⟨kk.cell c1 (ne _ _ _ c1) (ne _ _ _ c1), kk.cell c2 (ne _ _ _ c2) (ne _ _ _ c2), kk.cell c3 (ne _ _ _ c3) (ne _ _ _ c3), kk.cell c4 (ne _ _ _ c4) (ne _ _ _ c4), kk.cell c5 (ne _ _ _ c5) (ne _ _ _ c5), kk.cell c6 (ne _ _ _ c6) (ne _ _ _ c6), kk.cell c7 (ne _ _ _ c7) (ne _ _ _ c7), kk.cell c8 (ne _ _ _ c8) (ne _ _ _ c8)⟩
  have HZ : Hid (W0.heap.size = z) := hz
  obtain ⟨j1, hj1⟩ : ∃ z, jnLo c d e f = z := ⟨_, rfl⟩
  obtain ⟨j2, hj2⟩ : ∃ z, jnHi c d e f = z := ⟨_, rfl⟩
  obtain ⟨k1, hk1⟩ : ∃ z, jnLo a b j1 j2 = z := ⟨_, rfl⟩
  obtain ⟨k2, hk2⟩ : ∃ z, jnHi a b j1 j2 = z := ⟨_, rfl⟩
  obtain ⟨p1, hp1⟩ : ∃ z, mtLo c d e f = z := ⟨_, rfl⟩
  obtain ⟨p2, hp2⟩ : ∃ z, mtHi c d e f = z := ⟨_, rfl⟩
  obtain ⟨q1, hq1⟩ : ∃ z, mtLo a b p1 p2 = z := ⟨_, rfl⟩
  obtain ⟨q2, hq2⟩ : ∃ z, mtHi a b p1 p2 = z := ⟨_, rfl⟩
  obtain ⟨u1, hu1⟩ : ∃ z, toldLo a b = z := ⟨_, rfl⟩
  obtain ⟨u2, hu2⟩ : ∃ z, toldHi a b = z := ⟨_, rfl⟩
  have J1 : Hid (jnLo c d e f = j1) := hj1
  have J2 : Hid (jnHi c d e f = j2) := hj2
  have K1 : Hid (jnLo a b j1 j2 = k1) := hk1
  have K2 : Hid (jnHi a b j1 j2 = k2) := hk2
  have K3 : Hid (jnLo a b (jnLo c d e f) (jnHi c d e f) = k1) := by show _ = _; rw [hj1, hj2]; exact hk1
  have K4 : Hid (jnHi a b (jnLo c d e f) (jnHi c d e f) = k2) := by show _ = _; rw [hj1, hj2]; exact hk2
  have P1 : Hid (mtLo c d e f = p1) := hp1
  have P2 : Hid (mtHi c d e f = p2) := hp2
  have Q1 : Hid (mtLo a b p1 p2 = q1) := hq1
  have Q2 : Hid (mtHi a b p1 p2 = q2) := hq2
  have Q3 : Hid (mtLo a b (mtLo c d e f) (mtHi c d e f) = q1) := by show _ = _; rw [hp1, hp2]; exact hq1
  have Q4 : Hid (mtHi a b (mtLo c d e f) (mtHi c d e f) = q2) := by show _ = _; rw [hp1, hp2]; exact hq2
  have U1 : Hid (toldLo a b = u1) := hu1
  have U2 : Hid (toldHi a b = u2) := hu2
  have bp : B64 p1 ∧ B64 p2 := by rw [← hp1, ← hp2]; exact mt_bd bs.2.2.1 bs.2.2.2.1 bs.2.2.2.2.1 bs.2.2.2.2.2
  have ek1 : (k1 == k1) = true := beq_self_eq_true _
  have ek2 : (k2 == k2) = true := beq_self_eq_true _
  have eq1 : (q1 == q1) = true := beq_self_eq_true _
  have eq2 : (q2 == q2) = true := beq_self_eq_true _
  have eu1 : (u1 == u1) = true := beq_self_eq_true _
  have eu2 : (u2 == u2) = true := beq_self_eq_true _
  clear hj1 hj2 hk1 hk2 hp1 hp2 hq1 hq2 hu1 hu2 hS hz
  have seg3 : ∀ (fuel : Nat) (l : Array Bool) (X : World) (r19 r21 r26 r34 r36 r41 : Nat), fuel = 12 → l = #[true, true, true, true, true, true, true, true, true, true, true, true, true, true, true, true, true, true, true, true, true, true, true, true, true, true, true, true, true, true, true, true, true, true, true, true, true, true, true, true, true, true, true, false, false, false, false, false, false, false, false, false, false, false, false] → Kept2 z z W0 X → wpAnyH Try.prog .any #[{ dst := some 73, op := Op.call { callee := Callee.value (Operand.func 10), args := #[], argTypes := #[] }, type := 4, pos := "outright.go:47", after := #[], guard := none }, { dst := some 74, op := Op.move (Operand.tmp 73), type := 4, pos := "outright.go:47", after := #[{ on := 0, ground := Ground.data }, { on := 0, ground := Ground.chain }], guard := none }, { dst := some 75, op := Op.load 23 (Operand.tmp 10), type := 23, pos := "outright.go:47", after := #[{ on := 1, ground := Ground.guard }], guard := some (1, true) }, { dst := some 76, op := Op.move (Operand.tmp 3), type := 3, pos := "outright.go:47", after := #[{ on := 1, ground := Ground.guard }], guard := some (1, true) }, { dst := some 77, op := Op.call { callee := Callee.value (Operand.func 12), args := #[Operand.tmp 75, Operand.tmp 76], argTypes := #[23, 3] }, type := 4, pos := "outright.go:47", after := #[{ on := 2, ground := Ground.data }, { on := 3, ground := Ground.data }, { on := 1, ground := Ground.chain }, { on := 1, ground := Ground.guard }], guard := some (1, true) }, { dst := some 78, op := Op.load 23 (Operand.tmp 4), type := 23, pos := "outright.go:47", after := #[{ on := 1, ground := Ground.guard }], guard := some (1, true) }, { dst := some 79, op := Op.move (Operand.tmp 3), type := 3, pos := "outright.go:47", after := #[{ on := 1, ground := Ground.guard }], guard := some (1, true) }, { dst := some 80, op := Op.call { callee := Callee.value (Operand.func 12), args := #[Operand.tmp 78, Operand.tmp 79], argTypes := #[23, 3] }, type := 4, pos := "outright.go:47", after := #[{ on := 5, ground := Ground.data }, { on := 6, ground := Ground.data }, { on := 4, ground := Ground.chain }, { on := 1, ground := Ground.guard }], guard := some (1, true) }, { dst := some 81, op := Op.move (Operand.tmp 80), type := 4, pos := "outright.go:47", after := #[{ on := 7, ground := Ground.data }, { on := 7, ground := Ground.chain }, { on := 1, ground := Ground.guard }], guard := some (1, true) }, { dst := some 82, op := Op.load 23 (Operand.tmp 5), type := 23, pos := "outright.go:47", after := #[{ on := 8, ground := Ground.guard }], guard := some (8, true) }, { dst := some 83, op := Op.move (Operand.tmp 3), type := 3, pos := "outright.go:47", after := #[{ on := 8, ground := Ground.guard }], guard := some (8, true) }, { dst := some 84, op := Op.call { callee := Callee.value (Operand.func 12), args := #[Operand.tmp 82, Operand.tmp 83], argTypes := #[23, 3] }, type := 4, pos := "outright.go:47", after := #[{ on := 9, ground := Ground.data }, { on := 10, ground := Ground.data }, { on := 8, ground := Ground.chain }, { on := 8, ground := Ground.guard }], guard := some (8, true) }, { dst := some 85, op := Op.pick (Operand.tmp 81) (Operand.tmp 84) (Operand.const (Value.bool false)), type := 4, pos := "outright.go:47", after := #[{ on := 8, ground := Ground.data }, { on := 11, ground := Ground.data }, { on := 1, ground := Ground.guard }], guard := some (1, true) }, { dst := some 86, op := Op.binOp BinOp.eql 4 (Operand.tmp 77) (Operand.tmp 85) 4, type := 4, pos := "outright.go:47", after := #[{ on := 4, ground := Ground.data }, { on := 12, ground := Ground.data }, { on := 1, ground := Ground.guard }], guard := some (1, true) }, { dst := some 87, op := Op.pick (Operand.tmp 74) (Operand.tmp 86) (Operand.const (Value.bool false)), type := 4, pos := "outright.go:47", after := #[{ on := 1, ground := Ground.data }, { on := 13, ground := Ground.data }], guard := none }, { dst := some 88, op := Op.move (Operand.tmp 87), type := 4, pos := "outright.go:47", after := #[{ on := 14, ground := Ground.data }, { on := 11, ground := Ground.chain }], guard := none }, { dst := some 89, op := Op.load 23 (Operand.tmp 4), type := 23, pos := "outright.go:47", after := #[{ on := 15, ground := Ground.guard }], guard := some (15, true) }, { dst := some 90, op := Op.load 23 (Operand.tmp 5), type := 23, pos := "outright.go:47", after := #[{ on := 15, ground := Ground.guard }], guard := some (15, true) }, { dst := some 91, op := Op.load 23 (Operand.tmp 6), type := 23, pos := "outright.go:47", after := #[{ on := 15, ground := Ground.guard }], guard := some (15, true) }, { dst := some 92, op := Op.buildSlice 50 2 #[(0, Operand.tmp 90), (1, Operand.tmp 91)], type := 50, pos := "outright.go:47", after := #[{ on := 17, ground := Ground.data }, { on := 18, ground := Ground.data }, { on := 15, ground := Ground.guard }], guard := some (15, true) }, { dst := some 93, op := Op.call { callee := Callee.value (Operand.func 22), args := #[Operand.tmp 92], argTypes := #[50] }, type := 23, pos := "outright.go:47", after := #[{ on := 19, ground := Ground.data }, { on := 15, ground := Ground.chain }, { on := 15, ground := Ground.guard }], guard := some (15, true) }, { dst := some 94, op := Op.buildSlice 50 2 #[(0, Operand.tmp 89), (1, Operand.tmp 93)], type := 50, pos := "outright.go:47", after := #[{ on := 16, ground := Ground.data }, { on := 20, ground := Ground.data }, { on := 15, ground := Ground.guard }], guard := some (15, true) }, { dst := some 95, op := Op.call { callee := Callee.value (Operand.func 22), args := #[Operand.tmp 94], argTypes := #[50] }, type := 23, pos := "outright.go:47", after := #[{ on := 21, ground := Ground.data }, { on := 20, ground := Ground.chain }, { on := 15, ground := Ground.guard }], guard := some (15, true) }, { dst := some 96, op := Op.load 23 (Operand.tmp 4), type := 23, pos := "outright.go:47", after := #[{ on := 15, ground := Ground.guard }], guard := some (15, true) }, { dst := some 97, op := Op.load 23 (Operand.tmp 5), type := 23, pos := "outright.go:47", after := #[{ on := 15, ground := Ground.guard }], guard := some (15, true) }, { dst := some 98, op := Op.load 23 (Operand.tmp 6), type := 23, pos := "outright.go:47", after := #[{ on := 15, ground := Ground.guard }], guard := some (15, true) }, { dst := some 99, op := Op.buildSlice 50 3 #[(0, Operand.tmp 96), (1, Operand.tmp 97), (2, Operand.tmp 98)], type := 50, pos := "outright.go:47", after := #[{ on := 23, ground := Ground.data }, { on := 24, ground := Ground.data }, { on := 25, ground := Ground.data }, { on := 15, ground := Ground.guard }], guard := some (15, true) }, { dst := some 100, op := Op.call { callee := Callee.value (Operand.func 22), args := #[Operand.tmp 99], argTypes := #[50] }, type := 23, pos := "outright.go:47", after := #[{ on := 26, ground := Ground.data }, { on := 22, ground := Ground.chain }, { on := 15, ground := Ground.guard }], guard := some (15, true) }, { dst := some 101, op := Op.binOp BinOp.eql 23 (Operand.tmp 95) (Operand.tmp 100) 23, type := 4, pos := "outright.go:47", after := #[{ on := 22, ground := Ground.data }, { on := 27, ground := Ground.data }, { on := 15, ground := Ground.guard }], guard := some (15, true) }, { dst := some 102, op := Op.pick (Operand.tmp 88) (Operand.tmp 101) (Operand.const (Value.bool false)), type := 4, pos := "outright.go:47", after := #[{ on := 15, ground := Ground.data }, { on := 28, ground := Ground.data }], guard := none }, { dst := some 103, op := Op.move (Operand.tmp 102), type := 4, pos := "outright.go:47", after := #[{ on := 29, ground := Ground.data }, { on := 27, ground := Ground.chain }], guard := none }, { dst := some 104, op := Op.load 23 (Operand.tmp 4), type := 23, pos := "outright.go:47", after := #[{ on := 30, ground := Ground.guard }], guard := some (30, true) }, { dst := some 105, op := Op.load 23 (Operand.tmp 5), type := 23, pos := "outright.go:47", after := #[{ on := 30, ground := Ground.guard }], guard := some (30, true) }, { dst := some 106, op := Op.load 23 (Operand.tmp 6), type := 23, pos := "outright.go:47", after := #[{ on := 30, ground := Ground.guard }], guard := some (30, true) }, { dst := some 107, op := Op.buildSlice 50 2 #[(0, Operand.tmp 105), (1, Operand.tmp 106)], type := 50, pos := "outright.go:47", after := #[{ on := 32, ground := Ground.data }, { on := 33, ground := Ground.data }, { on := 30, ground := Ground.guard }], guard := some (30, true) }, { dst := some 108, op := Op.call { callee := Callee.value (Operand.func 23), args := #[Operand.tmp 107], argTypes := #[50] }, type := 23, pos := "outright.go:47", after := #[{ on := 34, ground := Ground.data }, { on := 30, ground := Ground.chain }, { on := 30, ground := Ground.guard }], guard := some (30, true) }, { dst := some 109, op := Op.buildSlice 50 2 #[(0, Operand.tmp 104), (1, Operand.tmp 108)], type := 50, pos := "outright.go:47", after := #[{ on := 31, ground := Ground.data }, { on := 35, ground := Ground.data }, { on := 30, ground := Ground.guard }], guard := some (30, true) }, { dst := some 110, op := Op.call { callee := Callee.value (Operand.func 23), args := #[Operand.tmp 109], argTypes := #[50] }, type := 23, pos := "outright.go:47", after := #[{ on := 36, ground := Ground.data }, { on := 35, ground := Ground.chain }, { on := 30, ground := Ground.guard }], guard := some (30, true) }, { dst := some 111, op := Op.load 23 (Operand.tmp 4), type := 23, pos := "outright.go:47", after := #[{ on := 30, ground := Ground.guard }], guard := some (30, true) }, { dst := some 112, op := Op.load 23 (Operand.tmp 5), type := 23, pos := "outright.go:47", after := #[{ on := 30, ground := Ground.guard }], guard := some (30, true) }, { dst := some 113, op := Op.load 23 (Operand.tmp 6), type := 23, pos := "outright.go:47", after := #[{ on := 30, ground := Ground.guard }], guard := some (30, true) }, { dst := some 114, op := Op.buildSlice 50 3 #[(0, Operand.tmp 111), (1, Operand.tmp 112), (2, Operand.tmp 113)], type := 50, pos := "outright.go:47", after := #[{ on := 38, ground := Ground.data }, { on := 39, ground := Ground.data }, { on := 40, ground := Ground.data }, { on := 30, ground := Ground.guard }], guard := some (30, true) }, { dst := some 115, op := Op.call { callee := Callee.value (Operand.func 23), args := #[Operand.tmp 114], argTypes := #[50] }, type := 23, pos := "outright.go:47", after := #[{ on := 41, ground := Ground.data }, { on := 37, ground := Ground.chain }, { on := 30, ground := Ground.guard }], guard := some (30, true) }, { dst := some 116, op := Op.binOp BinOp.eql 23 (Operand.tmp 110) (Operand.tmp 115) 23, type := 4, pos := "outright.go:47", after := #[{ on := 37, ground := Ground.data }, { on := 42, ground := Ground.data }, { on := 30, ground := Ground.guard }], guard := some (30, true) }, { dst := some 117, op := Op.pick (Operand.tmp 103) (Operand.tmp 116) (Operand.const (Value.bool false)), type := 4, pos := "outright.go:47", after := #[{ on := 30, ground := Ground.data }, { on := 43, ground := Ground.data }], guard := none }, { dst := some 118, op := Op.move (Operand.tmp 117), type := 4, pos := "outright.go:47", after := #[{ on := 44, ground := Ground.data }, { on := 42, ground := Ground.chain }], guard := none }, { dst := some 119, op := Op.load 23 (Operand.tmp 4), type := 23, pos := "outright.go:47", after := #[{ on := 45, ground := Ground.guard }], guard := some (45, true) }, { dst := some 120, op := Op.buildSlice 50 1 #[(0, Operand.tmp 119)], type := 50, pos := "outright.go:47", after := #[{ on := 46, ground := Ground.data }, { on := 45, ground := Ground.guard }], guard := some (45, true) }, { dst := some 121, op := Op.call { callee := Callee.value (Operand.func 22), args := #[Operand.tmp 120], argTypes := #[50] }, type := 23, pos := "outright.go:47", after := #[{ on := 47, ground := Ground.data }, { on := 45, ground := Ground.chain }, { on := 45, ground := Ground.guard }], guard := some (45, true) }, { dst := some 122, op := Op.load 23 (Operand.tmp 4), type := 23, pos := "outright.go:47", after := #[{ on := 45, ground := Ground.guard }], guard := some (45, true) }, { dst := some 123, op := Op.buildSlice 50 1 #[(0, Operand.tmp 122)], type := 50, pos := "outright.go:47", after := #[{ on := 49, ground := Ground.data }, { on := 45, ground := Ground.guard }], guard := some (45, true) }, { dst := some 124, op := Op.call { callee := Callee.value (Operand.func 23), args := #[Operand.tmp 123], argTypes := #[50] }, type := 23, pos := "outright.go:47", after := #[{ on := 50, ground := Ground.data }, { on := 48, ground := Ground.chain }, { on := 45, ground := Ground.guard }], guard := some (45, true) }, { dst := some 125, op := Op.binOp BinOp.eql 23 (Operand.tmp 121) (Operand.tmp 124) 23, type := 4, pos := "outright.go:47", after := #[{ on := 48, ground := Ground.data }, { on := 51, ground := Ground.data }, { on := 45, ground := Ground.guard }], guard := some (45, true) }, { dst := some 126, op := Op.pick (Operand.tmp 118) (Operand.tmp 125) (Operand.const (Value.bool false)), type := 4, pos := "outright.go:47", after := #[{ on := 45, ground := Ground.data }, { on := 52, ground := Ground.data }], guard := none }, { dst := some 8, op := Op.assign (Operand.tmp 126), type := 4, pos := "outright.go:47", after := #[{ on := 53, ground := Ground.data }, { on := 51, ground := Ground.chain }, { on := 0, ground := Ground.phase }, { on := 1, ground := Ground.phase }, { on := 2, ground := Ground.phase }, { on := 3, ground := Ground.phase }, { on := 4, ground := Ground.phase }, { on := 5, ground := Ground.phase }, { on := 6, ground := Ground.phase }, { on := 7, ground := Ground.phase }, { on := 8, ground := Ground.phase }, { on := 9, ground := Ground.phase }, { on := 10, ground := Ground.phase }, { on := 11, ground := Ground.phase }, { on := 12, ground := Ground.phase }, { on := 13, ground := Ground.phase }, { on := 14, ground := Ground.phase }, { on := 15, ground := Ground.phase }, { on := 16, ground := Ground.phase }, { on := 17, ground := Ground.phase }, { on := 18, ground := Ground.phase }, { on := 19, ground := Ground.phase }, { on := 20, ground := Ground.phase }, { on := 21, ground := Ground.phase }, { on := 22, ground := Ground.phase }, { on := 23, ground := Ground.phase }, { on := 24, ground := Ground.phase }, { on := 25, ground := Ground.phase }, { on := 26, ground := Ground.phase }, { on := 27, ground := Ground.phase }, { on := 28, ground := Ground.phase }, { on := 29, ground := Ground.phase }, { on := 30, ground := Ground.phase }, { on := 31, ground := Ground.phase }, { on := 32, ground := Ground.phase }, { on := 33, ground := Ground.phase }, { on := 34, ground := Ground.phase }, { on := 35, ground := Ground.phase }, { on := 36, ground := Ground.phase }, { on := 37, ground := Ground.phase }, { on := 38, ground := Ground.phase }, { on := 39, ground := Ground.phase }, { on := 40, ground := Ground.phase }, { on := 41, ground := Ground.phase }, { on := 42, ground := Ground.phase }, { on := 43, ground := Ground.phase }, { on := 44, ground := Ground.phase }, { on := 45, ground := Ground.phase }, { on := 46, ground := Ground.phase }, { on := 47, ground := Ground.phase }, { on := 48, ground := Ground.phase }, { on := 49, ground := Ground.phase }, { on := 50, ground := Ground.phase }, { on := 51, ground := Ground.phase }, { on := 52, ground := Ground.phase }, { on := 53, ground := Ground.phase }], guard := none }] Q (fun W' => W'.cell? ⟨w.heap.size, 0, none⟩ = some (.int .i64 a) ∧ W'.cell? ⟨w.heap.size, 1, none⟩ = some (.int .i64 b) ∧ W'.cell? ⟨w.heap.size + 1, 0, none⟩ = some (.int .i64 c) ∧ W'.cell? ⟨w.heap.size + 1, 1, none⟩ = some (.int .i64 d) ∧ W'.cell? ⟨w.heap.size + 1 + 1, 0, none⟩ = some (.int .i64 e) ∧ W'.cell? ⟨w.heap.size + 1 + 1, 1, none⟩ = some (.int .i64 f) ∧ W'.cell? ⟨g9, 0, none⟩ = some (.int .i64 m1) ∧ W'.cell? ⟨g9, 1, none⟩ = some (.int .i64 m2)) fuel l { tmps := #[Value.agg #[.int .i64 a, .int .i64 b], Value.agg #[.int .i64 c, .int .i64 d], Value.agg #[.int .i64 e, .int .i64 f], Value.int .i64 n, Value.pointer (some ⟨w.heap.size, 0, none⟩), Value.pointer (some ⟨(w.heap.size + 1), 0, none⟩), Value.pointer (some ⟨(w.heap.size + 1 + 1), 0, none⟩), undef, Value.bool false, Value.pointer (some ⟨g8, 0, none⟩), Value.pointer (some ⟨g9, 0, none⟩), t11, t12, t13, t14, t15, t16, t17, t18, t19, t20, t21, t22, t23, t24, t25, t26, t27, t28, t29, t30, t31, t32, t33, t34, t35, t36, t37, t38, t39, t40, t41, t42, t43, t44, t45, t46, t47, t48, t49, t50, t51, t52, t53, t54, t55, t56, t57, t58, t59, t60, t61, t62, t63, t64, t65, t66, t67, t68, t69, t70, t71, t72, Value.bool true, Value.bool true, Value.agg #[.int .i64 m1, .int .i64 m2], Value.int .i64 n, Value.bool false, Value.agg #[.int .i64 a, .int .i64 b], Value.int .i64 n, Value.bool true, Value.bool true, Value.agg #[.int .i64 c, .int .i64 d], Value.int .i64 n, Value.bool false, Value.bool false, Value.bool true, Value.bool true, Value.bool true, Value.agg #[.int .i64 a, .int .i64 b], Value.agg #[.int .i64 c, .int .i64 d], Value.agg #[.int .i64 e, .int .i64 f], Value.slice (some ⟨r19, 0, none⟩) 2 2, Value.agg #[.int .i64 j1, .int .i64 j2], Value.slice (some ⟨r21, 0, none⟩) 2 2, Value.agg #[.int .i64 k1, .int .i64 k2], Value.agg #[.int .i64 a, .int .i64 b], Value.agg #[.int .i64 c, .int .i64 d], Value.agg #[.int .i64 e, .int .i64 f], Value.slice (some ⟨r26, 0, none⟩) 3 3, Value.agg #[.int .i64 k1, .int .i64 k2], Value.bool true, Value.bool true, Value.bool true, Value.agg #[.int .i64 a, .int .i64 b], Value.agg #[.int .i64 c, .int .i64 d], Value.agg #[.int .i64 e, .int .i64 f], Value.slice (some ⟨r34, 0, none⟩) 2 2, Value.agg #[.int .i64 p1, .int .i64 p2], Value.slice (some ⟨r36, 0, none⟩) 2 2, Value.agg #[.int .i64 q1, .int .i64 q2], Value.agg #[.int .i64 a, .int .i64 b], Value.agg #[.int .i64 c, .int .i64 d], Value.agg #[.int .i64 e, .int .i64 f], Value.slice (some ⟨r41, 0, none⟩) 3 3, Value.agg #[.int .i64 q1, .int .i64 q2], undef, undef, undef, undef, undef, undef, undef, undef, undef, undef, undef], defers := [] } X := by
    intro fuel l X r19 r21 r26 r34 r36 r41 hfu hll m0
    subst hfu hll
    have hHeld := HK.out _ m0
    refine wpAnyH_take (i := 43) (oi := { dst := some 116, op := Op.binOp BinOp.eql 23 (Operand.tmp 110) (Operand.tmp 115) 23, type := 4, pos := "outright.go:47", after := #[{ on := 37, ground := Ground.data }, { on := 42, ground := Ground.data }, { on := 30, ground := Ground.guard }], guard := some (30, true) }) (v := ?_) rfl (by kernel_rfl) (by kernel_rfl) (by kernel_rfl) (fun c a w h => hp c _ _ _ w h) (Or.inl ⟨by rfl, ?_⟩) hHeld ?_
    rotate_left
    · (intro w hSw; (try dsimp only at hSw); go_simp; all_goals (try with_reducible rfl))
    try simp only [Act.put, List.setIfInBounds_toArray, List.set_cons_zero, List.set_cons_succ]
    refine wpAnyH_take (i := 44) (oi := { dst := some 117, op := Op.pick (Operand.tmp 103) (Operand.tmp 116) (Operand.const (Value.bool false)), type := 4, pos := "outright.go:47", after := #[{ on := 30, ground := Ground.data }, { on := 43, ground := Ground.data }], guard := none }) (v := ?_) rfl (by kernel_rfl) (by kernel_rfl) (by kernel_rfl) (fun c a w h => hp c _ _ _ w h) (Or.inl ⟨by rfl, ?_⟩) hHeld ?_
    rotate_left
    · (intro w hSw; (try dsimp only at hSw); go_simp; all_goals (try with_reducible rfl))
    try simp only [Act.put, List.setIfInBounds_toArray, List.set_cons_zero, List.set_cons_succ]
    refine wpAnyH_take (i := 45) (oi := { dst := some 118, op := Op.move (Operand.tmp 117), type := 4, pos := "outright.go:47", after := #[{ on := 44, ground := Ground.data }, { on := 42, ground := Ground.chain }], guard := none }) (v := ?_) rfl (by kernel_rfl) (by kernel_rfl) (by kernel_rfl) (fun c a w h => hp c _ _ _ w h) (Or.inl ⟨by rfl, ?_⟩) hHeld ?_
    rotate_left
    · (intro w hSw; (try dsimp only at hSw); go_simp; all_goals (try with_reducible rfl))
    try simp only [Act.put, List.setIfInBounds_toArray, List.set_cons_zero, List.set_cons_succ]
    refine wpAnyH_take (i := 46) (oi := { dst := some 119, op := Op.load 23 (Operand.tmp 4), type := 23, pos := "outright.go:47", after := #[{ on := 45, ground := Ground.guard }], guard := some (45, true) }) (v := ?_) rfl (by kernel_rfl) (by kernel_rfl) (by kernel_rfl) (fun c a w h => hp c _ _ _ w h) (Or.inl ⟨by rfl, ?_⟩) hHeld ?_
    rotate_left
    · (intro w hSw; (try dsimp only at hSw); go_simp; all_goals (try with_reducible rfl))
    try simp only [Act.put, List.setIfInBounds_toArray, List.set_cons_zero, List.set_cons_succ]
    refine wpAnyH_take (i := 49) (oi := { dst := some 122, op := Op.load 23 (Operand.tmp 4), type := 23, pos := "outright.go:47", after := #[{ on := 45, ground := Ground.guard }], guard := some (45, true) }) (v := ?_) rfl (by kernel_rfl) (by kernel_rfl) (by kernel_rfl) (fun c a w h => hp c _ _ _ w h) (Or.inl ⟨by rfl, ?_⟩) hHeld ?_
    rotate_left
    · (intro w hSw; (try dsimp only at hSw); go_simp; all_goals (try with_reducible rfl))
    try simp only [Act.put, List.setIfInBounds_toArray, List.set_cons_zero, List.set_cons_succ]
    refine wpAnyH_ready (rs := [47, 50]) (by kernel_rfl) (by simp) ?_
    refine AllReadyH.cons (o := { dst := some 120, op := Op.buildSlice 50 1 #[(0, Operand.tmp 119)], type := 50, pos := "outright.go:47", after := #[{ on := 46, ground := Ground.data }, { on := 45, ground := Ground.guard }], guard := some (45, true) }) rfl (fun K hK => ?_) ?_
    · go_simp
      obtain ⟨cW1, hX⟩ : ∃ Z, X.alloc (.cells #[.int .i64 a, .int .i64 b] 23) = Z := ⟨_, rfl⟩
      rw [hX]
      have hb : Below X.heap.size X cW1 := by rw [← hX]; exact (Below.refl _ X).alloc (Nat.le_refl _) _
      have cm1 := m0.below hb
      have cr1_47 := row_one X a b _ rfl
      rw [hX] at cr1_47
      clear hX hb
      refine hK.out _ _ (HK.out _ cm1) (fun hHeld => ?_)
      clear hK K
      try simp only [List.setIfInBounds_toArray, List.set_cons_zero, List.set_cons_succ]
      refine wpAnyH_ready (rs := [48, 50]) (by kernel_rfl) (by simp) ?_
      refine AllReadyH.cons (o := { dst := some 121, op := Op.call { callee := Callee.value (Operand.func 22), args := #[Operand.tmp 120], argTypes := #[50] }, type := 23, pos := "outright.go:47", after := #[{ on := 47, ground := Ground.data }, { on := 45, ground := Ground.chain }, { on := 45, ground := Ground.guard }], guard := some (45, true) }) rfl (fun K hK => ?_) ?_
      · go_simp
        refine Calls.mono (join_at1 _ _ a b u1 u2 U1.out U2.out cr1_47) ?_
        rintro e cW2 ⟨rfl, hb⟩
        have cm2 := cm1.below hb
        have cr2_47 := cr1_47.stays hb (Nat.le_refl _)
        clear hb
        go_wp2_with fail
        refine hK.out _ _ (HK.out _ cm2) (fun hHeld => ?_)
        clear hK K
        try simp only [List.setIfInBounds_toArray, List.set_cons_zero, List.set_cons_succ]
        refine wpAnyH_ready (rs := [50]) (by kernel_rfl) (by simp) ?_
        refine AllReadyH.cons (o := { dst := some 123, op := Op.buildSlice 50 1 #[(0, Operand.tmp 122)], type := 50, pos := "outright.go:47", after := #[{ on := 49, ground := Ground.data }, { on := 45, ground := Ground.guard }], guard := some (45, true) }) rfl (fun K hK => ?_) AllReadyH.nil
        go_simp
        obtain ⟨cW3, hX⟩ : ∃ Z, cW2.alloc (.cells #[.int .i64 a, .int .i64 b] 23) = Z := ⟨_, rfl⟩
        rw [hX]
        have hb : Below cW2.heap.size cW2 cW3 := by rw [← hX]; exact (Below.refl _ cW2).alloc (Nat.le_refl _) _
        have cm3 := cm2.below hb
        have cr3_47 := cr2_47.stays hb (Nat.le_refl _)
        have cr3_50 := row_one cW2 a b _ rfl
        rw [hX] at cr3_50
        clear hX hb
        refine hK.out _ _ (HK.out _ cm3) (fun hHeld => ?_)
        clear hK K
        try simp only [List.setIfInBounds_toArray, List.set_cons_zero, List.set_cons_succ]
        refine wpAnyH_ready (rs := [51]) (by kernel_rfl) (by simp) ?_
        refine AllReadyH.cons (o := { dst := some 124, op := Op.call { callee := Callee.value (Operand.func 23), args := #[Operand.tmp 123], argTypes := #[50] }, type := 23, pos := "outright.go:47", after := #[{ on := 50, ground := Ground.data }, { on := 48, ground := Ground.chain }, { on := 45, ground := Ground.guard }], guard := some (45, true) }) rfl (fun K hK => ?_) AllReadyH.nil
        go_simp
        refine Calls.mono (meet_at1 _ _ a b u1 u2 bs.1 bs.2.1 U1.out U2.out cr3_50) ?_
        rintro e cW4 ⟨rfl, hb⟩
        have cm4 := cm3.below hb
        have cr4_47 := cr3_47.stays hb (Nat.le_refl _)
        have cr4_50 := cr3_50.stays hb (Nat.le_refl _)
        clear hb
        go_wp2_with fail
        refine hK.out _ _ (HK.out _ cm4) (fun hHeld => ?_)
        clear hK K
        try simp only [List.setIfInBounds_toArray, List.set_cons_zero, List.set_cons_succ]
        refine wpAnyH_take (i := 52) (oi := { dst := some 125, op := Op.binOp BinOp.eql 23 (Operand.tmp 121) (Operand.tmp 124) 23, type := 4, pos := "outright.go:47", after := #[{ on := 48, ground := Ground.data }, { on := 51, ground := Ground.data }, { on := 45, ground := Ground.guard }], guard := some (45, true) }) (v := ?_) rfl (by kernel_rfl) (by kernel_rfl) (by kernel_rfl) (fun c a w h => hp c _ _ _ w h) (Or.inl ⟨by rfl, ?_⟩) hHeld ?_
        rotate_left
        · (intro w hSw; (try dsimp only at hSw); go_simp; all_goals (try with_reducible rfl))
        try simp only [Act.put, List.setIfInBounds_toArray, List.set_cons_zero, List.set_cons_succ]
        refine wpAnyH_take (i := 53) (oi := { dst := some 126, op := Op.pick (Operand.tmp 118) (Operand.tmp 125) (Operand.const (Value.bool false)), type := 4, pos := "outright.go:47", after := #[{ on := 45, ground := Ground.data }, { on := 52, ground := Ground.data }], guard := none }) (v := ?_) rfl (by kernel_rfl) (by kernel_rfl) (by kernel_rfl) (fun c a w h => hp c _ _ _ w h) (Or.inl ⟨by rfl, ?_⟩) hHeld ?_
        rotate_left
        · (intro w hSw; (try dsimp only at hSw); go_simp; all_goals (try with_reducible rfl))
        try simp only [Act.put, List.setIfInBounds_toArray, List.set_cons_zero, List.set_cons_succ]
        refine wpAnyH_take (i := 54) (oi := { dst := some 8, op := Op.assign (Operand.tmp 126), type := 4, pos := "outright.go:47", after := #[{ on := 53, ground := Ground.data }, { on := 51, ground := Ground.chain }, { on := 0, ground := Ground.phase }, { on := 1, ground := Ground.phase }, { on := 2, ground := Ground.phase }, { on := 3, ground := Ground.phase }, { on := 4, ground := Ground.phase }, { on := 5, ground := Ground.phase }, { on := 6, ground := Ground.phase }, { on := 7, ground := Ground.phase }, { on := 8, ground := Ground.phase }, { on := 9, ground := Ground.phase }, { on := 10, ground := Ground.phase }, { on := 11, ground := Ground.phase }, { on := 12, ground := Ground.phase }, { on := 13, ground := Ground.phase }, { on := 14, ground := Ground.phase }, { on := 15, ground := Ground.phase }, { on := 16, ground := Ground.phase }, { on := 17, ground := Ground.phase }, { on := 18, ground := Ground.phase }, { on := 19, ground := Ground.phase }, { on := 20, ground := Ground.phase }, { on := 21, ground := Ground.phase }, { on := 22, ground := Ground.phase }, { on := 23, ground := Ground.phase }, { on := 24, ground := Ground.phase }, { on := 25, ground := Ground.phase }, { on := 26, ground := Ground.phase }, { on := 27, ground := Ground.phase }, { on := 28, ground := Ground.phase }, { on := 29, ground := Ground.phase }, { on := 30, ground := Ground.phase }, { on := 31, ground := Ground.phase }, { on := 32, ground := Ground.phase }, { on := 33, ground := Ground.phase }, { on := 34, ground := Ground.phase }, { on := 35, ground := Ground.phase }, { on := 36, ground := Ground.phase }, { on := 37, ground := Ground.phase }, { on := 38, ground := Ground.phase }, { on := 39, ground := Ground.phase }, { on := 40, ground := Ground.phase }, { on := 41, ground := Ground.phase }, { on := 42, ground := Ground.phase }, { on := 43, ground := Ground.phase }, { on := 44, ground := Ground.phase }, { on := 45, ground := Ground.phase }, { on := 46, ground := Ground.phase }, { on := 47, ground := Ground.phase }, { on := 48, ground := Ground.phase }, { on := 49, ground := Ground.phase }, { on := 50, ground := Ground.phase }, { on := 51, ground := Ground.phase }, { on := 52, ground := Ground.phase }, { on := 53, ground := Ground.phase }], guard := none }) (v := ?_) rfl (by kernel_rfl) (by kernel_rfl) (by kernel_rfl) (fun c a w h => hp c _ _ _ w h) (Or.inl ⟨by rfl, ?_⟩) hHeld ?_
        rotate_left
        · (intro w hSw; (try dsimp only at hSw); go_simp; all_goals (try with_reducible rfl))
        try simp only [Act.put, List.setIfInBounds_toArray, List.set_cons_zero, List.set_cons_succ]
        refine wpAnyH_done (by kernel_rfl) ?_ _
        exact hfin _ r19 r21 r26 r34 r36 r41 X.heap.size cW2.heap.size j1 j2 k1 k2 p1 p2 q1 q2 u1 u2 (kept2_below hB cm4 HZ.out)
      refine AllReadyH.cons (o := { dst := some 123, op := Op.buildSlice 50 1 #[(0, Operand.tmp 122)], type := 50, pos := "outright.go:47", after := #[{ on := 49, ground := Ground.data }, { on := 45, ground := Ground.guard }], guard := some (45, true) }) rfl (fun K hK => ?_) AllReadyH.nil
      go_simp
      obtain ⟨cW5, hX⟩ : ∃ Z, cW1.alloc (.cells #[.int .i64 a, .int .i64 b] 23) = Z := ⟨_, rfl⟩
      rw [hX]
      have hb : Below cW1.heap.size cW1 cW5 := by rw [← hX]; exact (Below.refl _ cW1).alloc (Nat.le_refl _) _
      have cm5 := cm1.below hb
      have cr5_47 := cr1_47.stays hb (Nat.le_refl _)
      have cr5_50 := row_one cW1 a b _ rfl
      rw [hX] at cr5_50
      clear hX hb
      refine hK.out _ _ (HK.out _ cm5) (fun hHeld => ?_)
      clear hK K
      try simp only [List.setIfInBounds_toArray, List.set_cons_zero, List.set_cons_succ]
      refine wpAnyH_ready (rs := [48]) (by kernel_rfl) (by simp) ?_
      refine AllReadyH.cons (o := { dst := some 121, op := Op.call { callee := Callee.value (Operand.func 22), args := #[Operand.tmp 120], argTypes := #[50] }, type := 23, pos := "outright.go:47", after := #[{ on := 47, ground := Ground.data }, { on := 45, ground := Ground.chain }, { on := 45, ground := Ground.guard }], guard := some (45, true) }) rfl (fun K hK => ?_) AllReadyH.nil
      go_simp
      refine Calls.mono (join_at1 _ _ a b u1 u2 U1.out U2.out cr5_47) ?_
      rintro e cW6 ⟨rfl, hb⟩
      have cm6 := cm5.below hb
      have cr6_47 := cr5_47.stays hb (Nat.le_refl _)
      have cr6_50 := cr5_50.stays hb (Nat.le_refl _)
      clear hb
      go_wp2_with fail
      refine hK.out _ _ (HK.out _ cm6) (fun hHeld => ?_)
      clear hK K
      try simp only [List.setIfInBounds_toArray, List.set_cons_zero, List.set_cons_succ]
      refine wpAnyH_ready (rs := [51]) (by kernel_rfl) (by simp) ?_
      refine AllReadyH.cons (o := { dst := some 124, op := Op.call { callee := Callee.value (Operand.func 23), args := #[Operand.tmp 123], argTypes := #[50] }, type := 23, pos := "outright.go:47", after := #[{ on := 50, ground := Ground.data }, { on := 48, ground := Ground.chain }, { on := 45, ground := Ground.guard }], guard := some (45, true) }) rfl (fun K hK => ?_) AllReadyH.nil
      go_simp
      refine Calls.mono (meet_at1 _ _ a b u1 u2 bs.1 bs.2.1 U1.out U2.out cr6_50) ?_
      rintro e cW7 ⟨rfl, hb⟩
      have cm7 := cm6.below hb
      have cr7_47 := cr6_47.stays hb (Nat.le_refl _)
      have cr7_50 := cr6_50.stays hb (Nat.le_refl _)
      clear hb
      go_wp2_with fail
      refine hK.out _ _ (HK.out _ cm7) (fun hHeld => ?_)
      clear hK K
      try simp only [List.setIfInBounds_toArray, List.set_cons_zero, List.set_cons_succ]
      refine wpAnyH_take (i := 52) (oi := { dst := some 125, op := Op.binOp BinOp.eql 23 (Operand.tmp 121) (Operand.tmp 124) 23, type := 4, pos := "outright.go:47", after := #[{ on := 48, ground := Ground.data }, { on := 51, ground := Ground.data }, { on := 45, ground := Ground.guard }], guard := some (45, true) }) (v := ?_) rfl (by kernel_rfl) (by kernel_rfl) (by kernel_rfl) (fun c a w h => hp c _ _ _ w h) (Or.inl ⟨by rfl, ?_⟩) hHeld ?_
      rotate_left
      · (intro w hSw; (try dsimp only at hSw); go_simp; all_goals (try with_reducible rfl))
      try simp only [Act.put, List.setIfInBounds_toArray, List.set_cons_zero, List.set_cons_succ]
      refine wpAnyH_take (i := 53) (oi := { dst := some 126, op := Op.pick (Operand.tmp 118) (Operand.tmp 125) (Operand.const (Value.bool false)), type := 4, pos := "outright.go:47", after := #[{ on := 45, ground := Ground.data }, { on := 52, ground := Ground.data }], guard := none }) (v := ?_) rfl (by kernel_rfl) (by kernel_rfl) (by kernel_rfl) (fun c a w h => hp c _ _ _ w h) (Or.inl ⟨by rfl, ?_⟩) hHeld ?_
      rotate_left
      · (intro w hSw; (try dsimp only at hSw); go_simp; all_goals (try with_reducible rfl))
      try simp only [Act.put, List.setIfInBounds_toArray, List.set_cons_zero, List.set_cons_succ]
      refine wpAnyH_take (i := 54) (oi := { dst := some 8, op := Op.assign (Operand.tmp 126), type := 4, pos := "outright.go:47", after := #[{ on := 53, ground := Ground.data }, { on := 51, ground := Ground.chain }, { on := 0, ground := Ground.phase }, { on := 1, ground := Ground.phase }, { on := 2, ground := Ground.phase }, { on := 3, ground := Ground.phase }, { on := 4, ground := Ground.phase }, { on := 5, ground := Ground.phase }, { on := 6, ground := Ground.phase }, { on := 7, ground := Ground.phase }, { on := 8, ground := Ground.phase }, { on := 9, ground := Ground.phase }, { on := 10, ground := Ground.phase }, { on := 11, ground := Ground.phase }, { on := 12, ground := Ground.phase }, { on := 13, ground := Ground.phase }, { on := 14, ground := Ground.phase }, { on := 15, ground := Ground.phase }, { on := 16, ground := Ground.phase }, { on := 17, ground := Ground.phase }, { on := 18, ground := Ground.phase }, { on := 19, ground := Ground.phase }, { on := 20, ground := Ground.phase }, { on := 21, ground := Ground.phase }, { on := 22, ground := Ground.phase }, { on := 23, ground := Ground.phase }, { on := 24, ground := Ground.phase }, { on := 25, ground := Ground.phase }, { on := 26, ground := Ground.phase }, { on := 27, ground := Ground.phase }, { on := 28, ground := Ground.phase }, { on := 29, ground := Ground.phase }, { on := 30, ground := Ground.phase }, { on := 31, ground := Ground.phase }, { on := 32, ground := Ground.phase }, { on := 33, ground := Ground.phase }, { on := 34, ground := Ground.phase }, { on := 35, ground := Ground.phase }, { on := 36, ground := Ground.phase }, { on := 37, ground := Ground.phase }, { on := 38, ground := Ground.phase }, { on := 39, ground := Ground.phase }, { on := 40, ground := Ground.phase }, { on := 41, ground := Ground.phase }, { on := 42, ground := Ground.phase }, { on := 43, ground := Ground.phase }, { on := 44, ground := Ground.phase }, { on := 45, ground := Ground.phase }, { on := 46, ground := Ground.phase }, { on := 47, ground := Ground.phase }, { on := 48, ground := Ground.phase }, { on := 49, ground := Ground.phase }, { on := 50, ground := Ground.phase }, { on := 51, ground := Ground.phase }, { on := 52, ground := Ground.phase }, { on := 53, ground := Ground.phase }], guard := none }) (v := ?_) rfl (by kernel_rfl) (by kernel_rfl) (by kernel_rfl) (fun c a w h => hp c _ _ _ w h) (Or.inl ⟨by rfl, ?_⟩) hHeld ?_
      rotate_left
      · (intro w hSw; (try dsimp only at hSw); go_simp; all_goals (try with_reducible rfl))
      try simp only [Act.put, List.setIfInBounds_toArray, List.set_cons_zero, List.set_cons_succ]
      refine wpAnyH_done (by kernel_rfl) ?_ _
      exact hfin _ r19 r21 r26 r34 r36 r41 X.heap.size cW1.heap.size j1 j2 k1 k2 p1 p2 q1 q2 u1 u2 (kept2_below hB cm7 HZ.out)
    refine AllReadyH.cons (o := { dst := some 123, op := Op.buildSlice 50 1 #[(0, Operand.tmp 122)], type := 50, pos := "outright.go:47", after := #[{ on := 49, ground := Ground.data }, { on := 45, ground := Ground.guard }], guard := some (45, true) }) rfl (fun K hK => ?_) AllReadyH.nil
    go_simp
    obtain ⟨cW8, hX⟩ : ∃ Z, X.alloc (.cells #[.int .i64 a, .int .i64 b] 23) = Z := ⟨_, rfl⟩
    rw [hX]
    have hb : Below X.heap.size X cW8 := by rw [← hX]; exact (Below.refl _ X).alloc (Nat.le_refl _) _
    have cm8 := m0.below hb
    have cr8_50 := row_one X a b _ rfl
    rw [hX] at cr8_50
    clear hX hb
    refine hK.out _ _ (HK.out _ cm8) (fun hHeld => ?_)
    clear hK K
    try simp only [List.setIfInBounds_toArray, List.set_cons_zero, List.set_cons_succ]
    refine wpAnyH_ready (rs := [47]) (by kernel_rfl) (by simp) ?_
    refine AllReadyH.cons (o := { dst := some 120, op := Op.buildSlice 50 1 #[(0, Operand.tmp 119)], type := 50, pos := "outright.go:47", after := #[{ on := 46, ground := Ground.data }, { on := 45, ground := Ground.guard }], guard := some (45, true) }) rfl (fun K hK => ?_) AllReadyH.nil
    go_simp
    obtain ⟨cW9, hX⟩ : ∃ Z, cW8.alloc (.cells #[.int .i64 a, .int .i64 b] 23) = Z := ⟨_, rfl⟩
    rw [hX]
    have hb : Below cW8.heap.size cW8 cW9 := by rw [← hX]; exact (Below.refl _ cW8).alloc (Nat.le_refl _) _
    have cm9 := cm8.below hb
    have cr9_50 := cr8_50.stays hb (Nat.le_refl _)
    have cr9_47 := row_one cW8 a b _ rfl
    rw [hX] at cr9_47
    clear hX hb
    refine hK.out _ _ (HK.out _ cm9) (fun hHeld => ?_)
    clear hK K
    try simp only [List.setIfInBounds_toArray, List.set_cons_zero, List.set_cons_succ]
    refine wpAnyH_ready (rs := [48]) (by kernel_rfl) (by simp) ?_
    refine AllReadyH.cons (o := { dst := some 121, op := Op.call { callee := Callee.value (Operand.func 22), args := #[Operand.tmp 120], argTypes := #[50] }, type := 23, pos := "outright.go:47", after := #[{ on := 47, ground := Ground.data }, { on := 45, ground := Ground.chain }, { on := 45, ground := Ground.guard }], guard := some (45, true) }) rfl (fun K hK => ?_) AllReadyH.nil
    go_simp
    refine Calls.mono (join_at1 _ _ a b u1 u2 U1.out U2.out cr9_47) ?_
    rintro e cW10 ⟨rfl, hb⟩
    have cm10 := cm9.below hb
    have cr10_50 := cr9_50.stays hb (Nat.le_refl _)
    have cr10_47 := cr9_47.stays hb (Nat.le_refl _)
    clear hb
    go_wp2_with fail
    refine hK.out _ _ (HK.out _ cm10) (fun hHeld => ?_)
    clear hK K
    try simp only [List.setIfInBounds_toArray, List.set_cons_zero, List.set_cons_succ]
    refine wpAnyH_ready (rs := [51]) (by kernel_rfl) (by simp) ?_
    refine AllReadyH.cons (o := { dst := some 124, op := Op.call { callee := Callee.value (Operand.func 23), args := #[Operand.tmp 123], argTypes := #[50] }, type := 23, pos := "outright.go:47", after := #[{ on := 50, ground := Ground.data }, { on := 48, ground := Ground.chain }, { on := 45, ground := Ground.guard }], guard := some (45, true) }) rfl (fun K hK => ?_) AllReadyH.nil
    go_simp
    refine Calls.mono (meet_at1 _ _ a b u1 u2 bs.1 bs.2.1 U1.out U2.out cr10_50) ?_
    rintro e cW11 ⟨rfl, hb⟩
    have cm11 := cm10.below hb
    have cr11_50 := cr10_50.stays hb (Nat.le_refl _)
    have cr11_47 := cr10_47.stays hb (Nat.le_refl _)
    clear hb
    go_wp2_with fail
    refine hK.out _ _ (HK.out _ cm11) (fun hHeld => ?_)
    clear hK K
    try simp only [List.setIfInBounds_toArray, List.set_cons_zero, List.set_cons_succ]
    refine wpAnyH_take (i := 52) (oi := { dst := some 125, op := Op.binOp BinOp.eql 23 (Operand.tmp 121) (Operand.tmp 124) 23, type := 4, pos := "outright.go:47", after := #[{ on := 48, ground := Ground.data }, { on := 51, ground := Ground.data }, { on := 45, ground := Ground.guard }], guard := some (45, true) }) (v := ?_) rfl (by kernel_rfl) (by kernel_rfl) (by kernel_rfl) (fun c a w h => hp c _ _ _ w h) (Or.inl ⟨by rfl, ?_⟩) hHeld ?_
    rotate_left
    · (intro w hSw; (try dsimp only at hSw); go_simp; all_goals (try with_reducible rfl))
    try simp only [Act.put, List.setIfInBounds_toArray, List.set_cons_zero, List.set_cons_succ]
    refine wpAnyH_take (i := 53) (oi := { dst := some 126, op := Op.pick (Operand.tmp 118) (Operand.tmp 125) (Operand.const (Value.bool false)), type := 4, pos := "outright.go:47", after := #[{ on := 45, ground := Ground.data }, { on := 52, ground := Ground.data }], guard := none }) (v := ?_) rfl (by kernel_rfl) (by kernel_rfl) (by kernel_rfl) (fun c a w h => hp c _ _ _ w h) (Or.inl ⟨by rfl, ?_⟩) hHeld ?_
    rotate_left
    · (intro w hSw; (try dsimp only at hSw); go_simp; all_goals (try with_reducible rfl))
    try simp only [Act.put, List.setIfInBounds_toArray, List.set_cons_zero, List.set_cons_succ]
    refine wpAnyH_take (i := 54) (oi := { dst := some 8, op := Op.assign (Operand.tmp 126), type := 4, pos := "outright.go:47", after := #[{ on := 53, ground := Ground.data }, { on := 51, ground := Ground.chain }, { on := 0, ground := Ground.phase }, { on := 1, ground := Ground.phase }, { on := 2, ground := Ground.phase }, { on := 3, ground := Ground.phase }, { on := 4, ground := Ground.phase }, { on := 5, ground := Ground.phase }, { on := 6, ground := Ground.phase }, { on := 7, ground := Ground.phase }, { on := 8, ground := Ground.phase }, { on := 9, ground := Ground.phase }, { on := 10, ground := Ground.phase }, { on := 11, ground := Ground.phase }, { on := 12, ground := Ground.phase }, { on := 13, ground := Ground.phase }, { on := 14, ground := Ground.phase }, { on := 15, ground := Ground.phase }, { on := 16, ground := Ground.phase }, { on := 17, ground := Ground.phase }, { on := 18, ground := Ground.phase }, { on := 19, ground := Ground.phase }, { on := 20, ground := Ground.phase }, { on := 21, ground := Ground.phase }, { on := 22, ground := Ground.phase }, { on := 23, ground := Ground.phase }, { on := 24, ground := Ground.phase }, { on := 25, ground := Ground.phase }, { on := 26, ground := Ground.phase }, { on := 27, ground := Ground.phase }, { on := 28, ground := Ground.phase }, { on := 29, ground := Ground.phase }, { on := 30, ground := Ground.phase }, { on := 31, ground := Ground.phase }, { on := 32, ground := Ground.phase }, { on := 33, ground := Ground.phase }, { on := 34, ground := Ground.phase }, { on := 35, ground := Ground.phase }, { on := 36, ground := Ground.phase }, { on := 37, ground := Ground.phase }, { on := 38, ground := Ground.phase }, { on := 39, ground := Ground.phase }, { on := 40, ground := Ground.phase }, { on := 41, ground := Ground.phase }, { on := 42, ground := Ground.phase }, { on := 43, ground := Ground.phase }, { on := 44, ground := Ground.phase }, { on := 45, ground := Ground.phase }, { on := 46, ground := Ground.phase }, { on := 47, ground := Ground.phase }, { on := 48, ground := Ground.phase }, { on := 49, ground := Ground.phase }, { on := 50, ground := Ground.phase }, { on := 51, ground := Ground.phase }, { on := 52, ground := Ground.phase }, { on := 53, ground := Ground.phase }], guard := none }) (v := ?_) rfl (by kernel_rfl) (by kernel_rfl) (by kernel_rfl) (fun c a w h => hp c _ _ _ w h) (Or.inl ⟨by rfl, ?_⟩) hHeld ?_
    rotate_left
    · (intro w hSw; (try dsimp only at hSw); go_simp; all_goals (try with_reducible rfl))
    try simp only [Act.put, List.setIfInBounds_toArray, List.set_cons_zero, List.set_cons_succ]
    refine wpAnyH_done (by kernel_rfl) ?_ _
    exact hfin _ r19 r21 r26 r34 r36 r41 cW8.heap.size X.heap.size j1 j2 k1 k2 p1 p2 q1 q2 u1 u2 (kept2_below hB cm11 HZ.out)
  have seg2 : ∀ (fuel : Nat) (l : Array Bool) (X : World) (r19 r21 r26 : Nat), fuel = 27 → l = #[true, true, true, true, true, true, true, true, true, true, true, true, true, true, true, true, true, true, true, true, true, true, true, true, true, true, true, true, false, false, false, false, false, false, false, false, false, false, false, false, false, false, false, false, false, false, false, false, false, false, false, false, false, false, false] → Kept2 z z W0 X → wpAnyH Try.prog .any #[{ dst := some 73, op := Op.call { callee := Callee.value (Operand.func 10), args := #[], argTypes := #[] }, type := 4, pos := "outright.go:47", after := #[], guard := none }, { dst := some 74, op := Op.move (Operand.tmp 73), type := 4, pos := "outright.go:47", after := #[{ on := 0, ground := Ground.data }, { on := 0, ground := Ground.chain }], guard := none }, { dst := some 75, op := Op.load 23 (Operand.tmp 10), type := 23, pos := "outright.go:47", after := #[{ on := 1, ground := Ground.guard }], guard := some (1, true) }, { dst := some 76, op := Op.move (Operand.tmp 3), type := 3, pos := "outright.go:47", after := #[{ on := 1, ground := Ground.guard }], guard := some (1, true) }, { dst := some 77, op := Op.call { callee := Callee.value (Operand.func 12), args := #[Operand.tmp 75, Operand.tmp 76], argTypes := #[23, 3] }, type := 4, pos := "outright.go:47", after := #[{ on := 2, ground := Ground.data }, { on := 3, ground := Ground.data }, { on := 1, ground := Ground.chain }, { on := 1, ground := Ground.guard }], guard := some (1, true) }, { dst := some 78, op := Op.load 23 (Operand.tmp 4), type := 23, pos := "outright.go:47", after := #[{ on := 1, ground := Ground.guard }], guard := some (1, true) }, { dst := some 79, op := Op.move (Operand.tmp 3), type := 3, pos := "outright.go:47", after := #[{ on := 1, ground := Ground.guard }], guard := some (1, true) }, { dst := some 80, op := Op.call { callee := Callee.value (Operand.func 12), args := #[Operand.tmp 78, Operand.tmp 79], argTypes := #[23, 3] }, type := 4, pos := "outright.go:47", after := #[{ on := 5, ground := Ground.data }, { on := 6, ground := Ground.data }, { on := 4, ground := Ground.chain }, { on := 1, ground := Ground.guard }], guard := some (1, true) }, { dst := some 81, op := Op.move (Operand.tmp 80), type := 4, pos := "outright.go:47", after := #[{ on := 7, ground := Ground.data }, { on := 7, ground := Ground.chain }, { on := 1, ground := Ground.guard }], guard := some (1, true) }, { dst := some 82, op := Op.load 23 (Operand.tmp 5), type := 23, pos := "outright.go:47", after := #[{ on := 8, ground := Ground.guard }], guard := some (8, true) }, { dst := some 83, op := Op.move (Operand.tmp 3), type := 3, pos := "outright.go:47", after := #[{ on := 8, ground := Ground.guard }], guard := some (8, true) }, { dst := some 84, op := Op.call { callee := Callee.value (Operand.func 12), args := #[Operand.tmp 82, Operand.tmp 83], argTypes := #[23, 3] }, type := 4, pos := "outright.go:47", after := #[{ on := 9, ground := Ground.data }, { on := 10, ground := Ground.data }, { on := 8, ground := Ground.chain }, { on := 8, ground := Ground.guard }], guard := some (8, true) }, { dst := some 85, op := Op.pick (Operand.tmp 81) (Operand.tmp 84) (Operand.const (Value.bool false)), type := 4, pos := "outright.go:47", after := #[{ on := 8, ground := Ground.data }, { on := 11, ground := Ground.data }, { on := 1, ground := Ground.guard }], guard := some (1, true) }, { dst := some 86, op := Op.binOp BinOp.eql 4 (Operand.tmp 77) (Operand.tmp 85) 4, type := 4, pos := "outright.go:47", after := #[{ on := 4, ground := Ground.data }, { on := 12, ground := Ground.data }, { on := 1, ground := Ground.guard }], guard := some (1, true) }, { dst := some 87, op := Op.pick (Operand.tmp 74) (Operand.tmp 86) (Operand.const (Value.bool false)), type := 4, pos := "outright.go:47", after := #[{ on := 1, ground := Ground.data }, { on := 13, ground := Ground.data }], guard := none }, { dst := some 88, op := Op.move (Operand.tmp 87), type := 4, pos := "outright.go:47", after := #[{ on := 14, ground := Ground.data }, { on := 11, ground := Ground.chain }], guard := none }, { dst := some 89, op := Op.load 23 (Operand.tmp 4), type := 23, pos := "outright.go:47", after := #[{ on := 15, ground := Ground.guard }], guard := some (15, true) }, { dst := some 90, op := Op.load 23 (Operand.tmp 5), type := 23, pos := "outright.go:47", after := #[{ on := 15, ground := Ground.guard }], guard := some (15, true) }, { dst := some 91, op := Op.load 23 (Operand.tmp 6), type := 23, pos := "outright.go:47", after := #[{ on := 15, ground := Ground.guard }], guard := some (15, true) }, { dst := some 92, op := Op.buildSlice 50 2 #[(0, Operand.tmp 90), (1, Operand.tmp 91)], type := 50, pos := "outright.go:47", after := #[{ on := 17, ground := Ground.data }, { on := 18, ground := Ground.data }, { on := 15, ground := Ground.guard }], guard := some (15, true) }, { dst := some 93, op := Op.call { callee := Callee.value (Operand.func 22), args := #[Operand.tmp 92], argTypes := #[50] }, type := 23, pos := "outright.go:47", after := #[{ on := 19, ground := Ground.data }, { on := 15, ground := Ground.chain }, { on := 15, ground := Ground.guard }], guard := some (15, true) }, { dst := some 94, op := Op.buildSlice 50 2 #[(0, Operand.tmp 89), (1, Operand.tmp 93)], type := 50, pos := "outright.go:47", after := #[{ on := 16, ground := Ground.data }, { on := 20, ground := Ground.data }, { on := 15, ground := Ground.guard }], guard := some (15, true) }, { dst := some 95, op := Op.call { callee := Callee.value (Operand.func 22), args := #[Operand.tmp 94], argTypes := #[50] }, type := 23, pos := "outright.go:47", after := #[{ on := 21, ground := Ground.data }, { on := 20, ground := Ground.chain }, { on := 15, ground := Ground.guard }], guard := some (15, true) }, { dst := some 96, op := Op.load 23 (Operand.tmp 4), type := 23, pos := "outright.go:47", after := #[{ on := 15, ground := Ground.guard }], guard := some (15, true) }, { dst := some 97, op := Op.load 23 (Operand.tmp 5), type := 23, pos := "outright.go:47", after := #[{ on := 15, ground := Ground.guard }], guard := some (15, true) }, { dst := some 98, op := Op.load 23 (Operand.tmp 6), type := 23, pos := "outright.go:47", after := #[{ on := 15, ground := Ground.guard }], guard := some (15, true) }, { dst := some 99, op := Op.buildSlice 50 3 #[(0, Operand.tmp 96), (1, Operand.tmp 97), (2, Operand.tmp 98)], type := 50, pos := "outright.go:47", after := #[{ on := 23, ground := Ground.data }, { on := 24, ground := Ground.data }, { on := 25, ground := Ground.data }, { on := 15, ground := Ground.guard }], guard := some (15, true) }, { dst := some 100, op := Op.call { callee := Callee.value (Operand.func 22), args := #[Operand.tmp 99], argTypes := #[50] }, type := 23, pos := "outright.go:47", after := #[{ on := 26, ground := Ground.data }, { on := 22, ground := Ground.chain }, { on := 15, ground := Ground.guard }], guard := some (15, true) }, { dst := some 101, op := Op.binOp BinOp.eql 23 (Operand.tmp 95) (Operand.tmp 100) 23, type := 4, pos := "outright.go:47", after := #[{ on := 22, ground := Ground.data }, { on := 27, ground := Ground.data }, { on := 15, ground := Ground.guard }], guard := some (15, true) }, { dst := some 102, op := Op.pick (Operand.tmp 88) (Operand.tmp 101) (Operand.const (Value.bool false)), type := 4, pos := "outright.go:47", after := #[{ on := 15, ground := Ground.data }, { on := 28, ground := Ground.data }], guard := none }, { dst := some 103, op := Op.move (Operand.tmp 102), type := 4, pos := "outright.go:47", after := #[{ on := 29, ground := Ground.data }, { on := 27, ground := Ground.chain }], guard := none }, { dst := some 104, op := Op.load 23 (Operand.tmp 4), type := 23, pos := "outright.go:47", after := #[{ on := 30, ground := Ground.guard }], guard := some (30, true) }, { dst := some 105, op := Op.load 23 (Operand.tmp 5), type := 23, pos := "outright.go:47", after := #[{ on := 30, ground := Ground.guard }], guard := some (30, true) }, { dst := some 106, op := Op.load 23 (Operand.tmp 6), type := 23, pos := "outright.go:47", after := #[{ on := 30, ground := Ground.guard }], guard := some (30, true) }, { dst := some 107, op := Op.buildSlice 50 2 #[(0, Operand.tmp 105), (1, Operand.tmp 106)], type := 50, pos := "outright.go:47", after := #[{ on := 32, ground := Ground.data }, { on := 33, ground := Ground.data }, { on := 30, ground := Ground.guard }], guard := some (30, true) }, { dst := some 108, op := Op.call { callee := Callee.value (Operand.func 23), args := #[Operand.tmp 107], argTypes := #[50] }, type := 23, pos := "outright.go:47", after := #[{ on := 34, ground := Ground.data }, { on := 30, ground := Ground.chain }, { on := 30, ground := Ground.guard }], guard := some (30, true) }, { dst := some 109, op := Op.buildSlice 50 2 #[(0, Operand.tmp 104), (1, Operand.tmp 108)], type := 50, pos := "outright.go:47", after := #[{ on := 31, ground := Ground.data }, { on := 35, ground := Ground.data }, { on := 30, ground := Ground.guard }], guard := some (30, true) }, { dst := some 110, op := Op.call { callee := Callee.value (Operand.func 23), args := #[Operand.tmp 109], argTypes := #[50] }, type := 23, pos := "outright.go:47", after := #[{ on := 36, ground := Ground.data }, { on := 35, ground := Ground.chain }, { on := 30, ground := Ground.guard }], guard := some (30, true) }, { dst := some 111, op := Op.load 23 (Operand.tmp 4), type := 23, pos := "outright.go:47", after := #[{ on := 30, ground := Ground.guard }], guard := some (30, true) }, { dst := some 112, op := Op.load 23 (Operand.tmp 5), type := 23, pos := "outright.go:47", after := #[{ on := 30, ground := Ground.guard }], guard := some (30, true) }, { dst := some 113, op := Op.load 23 (Operand.tmp 6), type := 23, pos := "outright.go:47", after := #[{ on := 30, ground := Ground.guard }], guard := some (30, true) }, { dst := some 114, op := Op.buildSlice 50 3 #[(0, Operand.tmp 111), (1, Operand.tmp 112), (2, Operand.tmp 113)], type := 50, pos := "outright.go:47", after := #[{ on := 38, ground := Ground.data }, { on := 39, ground := Ground.data }, { on := 40, ground := Ground.data }, { on := 30, ground := Ground.guard }], guard := some (30, true) }, { dst := some 115, op := Op.call { callee := Callee.value (Operand.func 23), args := #[Operand.tmp 114], argTypes := #[50] }, type := 23, pos := "outright.go:47", after := #[{ on := 41, ground := Ground.data }, { on := 37, ground := Ground.chain }, { on := 30, ground := Ground.guard }], guard := some (30, true) }, { dst := some 116, op := Op.binOp BinOp.eql 23 (Operand.tmp 110) (Operand.tmp 115) 23, type := 4, pos := "outright.go:47", after := #[{ on := 37, ground := Ground.data }, { on := 42, ground := Ground.data }, { on := 30, ground := Ground.guard }], guard := some (30, true) }, { dst := some 117, op := Op.pick (Operand.tmp 103) (Operand.tmp 116) (Operand.const (Value.bool false)), type := 4, pos := "outright.go:47", after := #[{ on := 30, ground := Ground.data }, { on := 43, ground := Ground.data }], guard := none }, { dst := some 118, op := Op.move (Operand.tmp 117), type := 4, pos := "outright.go:47", after := #[{ on := 44, ground := Ground.data }, { on := 42, ground := Ground.chain }], guard := none }, { dst := some 119, op := Op.load 23 (Operand.tmp 4), type := 23, pos := "outright.go:47", after := #[{ on := 45, ground := Ground.guard }], guard := some (45, true) }, { dst := some 120, op := Op.buildSlice 50 1 #[(0, Operand.tmp 119)], type := 50, pos := "outright.go:47", after := #[{ on := 46, ground := Ground.data }, { on := 45, ground := Ground.guard }], guard := some (45, true) }, { dst := some 121, op := Op.call { callee := Callee.value (Operand.func 22), args := #[Operand.tmp 120], argTypes := #[50] }, type := 23, pos := "outright.go:47", after := #[{ on := 47, ground := Ground.data }, { on := 45, ground := Ground.chain }, { on := 45, ground := Ground.guard }], guard := some (45, true) }, { dst := some 122, op := Op.load 23 (Operand.tmp 4), type := 23, pos := "outright.go:47", after := #[{ on := 45, ground := Ground.guard }], guard := some (45, true) }, { dst := some 123, op := Op.buildSlice 50 1 #[(0, Operand.tmp 122)], type := 50, pos := "outright.go:47", after := #[{ on := 49, ground := Ground.data }, { on := 45, ground := Ground.guard }], guard := some (45, true) }, { dst := some 124, op := Op.call { callee := Callee.value (Operand.func 23), args := #[Operand.tmp 123], argTypes := #[50] }, type := 23, pos := "outright.go:47", after := #[{ on := 50, ground := Ground.data }, { on := 48, ground := Ground.chain }, { on := 45, ground := Ground.guard }], guard := some (45, true) }, { dst := some 125, op := Op.binOp BinOp.eql 23 (Operand.tmp 121) (Operand.tmp 124) 23, type := 4, pos := "outright.go:47", after := #[{ on := 48, ground := Ground.data }, { on := 51, ground := Ground.data }, { on := 45, ground := Ground.guard }], guard := some (45, true) }, { dst := some 126, op := Op.pick (Operand.tmp 118) (Operand.tmp 125) (Operand.const (Value.bool false)), type := 4, pos := "outright.go:47", after := #[{ on := 45, ground := Ground.data }, { on := 52, ground := Ground.data }], guard := none }, { dst := some 8, op := Op.assign (Operand.tmp 126), type := 4, pos := "outright.go:47", after := #[{ on := 53, ground := Ground.data }, { on := 51, ground := Ground.chain }, { on := 0, ground := Ground.phase }, { on := 1, ground := Ground.phase }, { on := 2, ground := Ground.phase }, { on := 3, ground := Ground.phase }, { on := 4, ground := Ground.phase }, { on := 5, ground := Ground.phase }, { on := 6, ground := Ground.phase }, { on := 7, ground := Ground.phase }, { on := 8, ground := Ground.phase }, { on := 9, ground := Ground.phase }, { on := 10, ground := Ground.phase }, { on := 11, ground := Ground.phase }, { on := 12, ground := Ground.phase }, { on := 13, ground := Ground.phase }, { on := 14, ground := Ground.phase }, { on := 15, ground := Ground.phase }, { on := 16, ground := Ground.phase }, { on := 17, ground := Ground.phase }, { on := 18, ground := Ground.phase }, { on := 19, ground := Ground.phase }, { on := 20, ground := Ground.phase }, { on := 21, ground := Ground.phase }, { on := 22, ground := Ground.phase }, { on := 23, ground := Ground.phase }, { on := 24, ground := Ground.phase }, { on := 25, ground := Ground.phase }, { on := 26, ground := Ground.phase }, { on := 27, ground := Ground.phase }, { on := 28, ground := Ground.phase }, { on := 29, ground := Ground.phase }, { on := 30, ground := Ground.phase }, { on := 31, ground := Ground.phase }, { on := 32, ground := Ground.phase }, { on := 33, ground := Ground.phase }, { on := 34, ground := Ground.phase }, { on := 35, ground := Ground.phase }, { on := 36, ground := Ground.phase }, { on := 37, ground := Ground.phase }, { on := 38, ground := Ground.phase }, { on := 39, ground := Ground.phase }, { on := 40, ground := Ground.phase }, { on := 41, ground := Ground.phase }, { on := 42, ground := Ground.phase }, { on := 43, ground := Ground.phase }, { on := 44, ground := Ground.phase }, { on := 45, ground := Ground.phase }, { on := 46, ground := Ground.phase }, { on := 47, ground := Ground.phase }, { on := 48, ground := Ground.phase }, { on := 49, ground := Ground.phase }, { on := 50, ground := Ground.phase }, { on := 51, ground := Ground.phase }, { on := 52, ground := Ground.phase }, { on := 53, ground := Ground.phase }], guard := none }] Q (fun W' => W'.cell? ⟨w.heap.size, 0, none⟩ = some (.int .i64 a) ∧ W'.cell? ⟨w.heap.size, 1, none⟩ = some (.int .i64 b) ∧ W'.cell? ⟨w.heap.size + 1, 0, none⟩ = some (.int .i64 c) ∧ W'.cell? ⟨w.heap.size + 1, 1, none⟩ = some (.int .i64 d) ∧ W'.cell? ⟨w.heap.size + 1 + 1, 0, none⟩ = some (.int .i64 e) ∧ W'.cell? ⟨w.heap.size + 1 + 1, 1, none⟩ = some (.int .i64 f) ∧ W'.cell? ⟨g9, 0, none⟩ = some (.int .i64 m1) ∧ W'.cell? ⟨g9, 1, none⟩ = some (.int .i64 m2)) fuel l { tmps := #[Value.agg #[.int .i64 a, .int .i64 b], Value.agg #[.int .i64 c, .int .i64 d], Value.agg #[.int .i64 e, .int .i64 f], Value.int .i64 n, Value.pointer (some ⟨w.heap.size, 0, none⟩), Value.pointer (some ⟨(w.heap.size + 1), 0, none⟩), Value.pointer (some ⟨(w.heap.size + 1 + 1), 0, none⟩), undef, Value.bool false, Value.pointer (some ⟨g8, 0, none⟩), Value.pointer (some ⟨g9, 0, none⟩), t11, t12, t13, t14, t15, t16, t17, t18, t19, t20, t21, t22, t23, t24, t25, t26, t27, t28, t29, t30, t31, t32, t33, t34, t35, t36, t37, t38, t39, t40, t41, t42, t43, t44, t45, t46, t47, t48, t49, t50, t51, t52, t53, t54, t55, t56, t57, t58, t59, t60, t61, t62, t63, t64, t65, t66, t67, t68, t69, t70, t71, t72, Value.bool true, Value.bool true, Value.agg #[.int .i64 m1, .int .i64 m2], Value.int .i64 n, Value.bool false, Value.agg #[.int .i64 a, .int .i64 b], Value.int .i64 n, Value.bool true, Value.bool true, Value.agg #[.int .i64 c, .int .i64 d], Value.int .i64 n, Value.bool false, Value.bool false, Value.bool true, Value.bool true, Value.bool true, Value.agg #[.int .i64 a, .int .i64 b], Value.agg #[.int .i64 c, .int .i64 d], Value.agg #[.int .i64 e, .int .i64 f], Value.slice (some ⟨r19, 0, none⟩) 2 2, Value.agg #[.int .i64 j1, .int .i64 j2], Value.slice (some ⟨r21, 0, none⟩) 2 2, Value.agg #[.int .i64 k1, .int .i64 k2], Value.agg #[.int .i64 a, .int .i64 b], Value.agg #[.int .i64 c, .int .i64 d], Value.agg #[.int .i64 e, .int .i64 f], Value.slice (some ⟨r26, 0, none⟩) 3 3, Value.agg #[.int .i64 k1, .int .i64 k2], undef, undef, undef, undef, undef, undef, undef, undef, undef, undef, undef, undef, undef, undef, undef, undef, undef, undef, undef, undef, undef, undef, undef, undef, undef, undef], defers := [] } X := by
    intro fuel l X r19 r21 r26 hfu hll m0
    subst hfu hll
    have hHeld := HK.out _ m0
    refine wpAnyH_take (i := 28) (oi := { dst := some 101, op := Op.binOp BinOp.eql 23 (Operand.tmp 95) (Operand.tmp 100) 23, type := 4, pos := "outright.go:47", after := #[{ on := 22, ground := Ground.data }, { on := 27, ground := Ground.data }, { on := 15, ground := Ground.guard }], guard := some (15, true) }) (v := ?_) rfl (by kernel_rfl) (by kernel_rfl) (by kernel_rfl) (fun c a w h => hp c _ _ _ w h) (Or.inl ⟨by rfl, ?_⟩) hHeld ?_
    rotate_left
    · (intro w hSw; (try dsimp only at hSw); go_simp; all_goals (try with_reducible rfl))
    try simp only [Act.put, List.setIfInBounds_toArray, List.set_cons_zero, List.set_cons_succ]
    refine wpAnyH_take (i := 29) (oi := { dst := some 102, op := Op.pick (Operand.tmp 88) (Operand.tmp 101) (Operand.const (Value.bool false)), type := 4, pos := "outright.go:47", after := #[{ on := 15, ground := Ground.data }, { on := 28, ground := Ground.data }], guard := none }) (v := ?_) rfl (by kernel_rfl) (by kernel_rfl) (by kernel_rfl) (fun c a w h => hp c _ _ _ w h) (Or.inl ⟨by rfl, ?_⟩) hHeld ?_
    rotate_left
    · (intro w hSw; (try dsimp only at hSw); go_simp; all_goals (try with_reducible rfl))
    try simp only [Act.put, List.setIfInBounds_toArray, List.set_cons_zero, List.set_cons_succ]
    refine wpAnyH_take (i := 30) (oi := { dst := some 103, op := Op.move (Operand.tmp 102), type := 4, pos := "outright.go:47", after := #[{ on := 29, ground := Ground.data }, { on := 27, ground := Ground.chain }], guard := none }) (v := ?_) rfl (by kernel_rfl) (by kernel_rfl) (by kernel_rfl) (fun c a w h => hp c _ _ _ w h) (Or.inl ⟨by rfl, ?_⟩) hHeld ?_
    rotate_left
    · (intro w hSw; (try dsimp only at hSw); go_simp; all_goals (try with_reducible rfl))
    try simp only [Act.put, List.setIfInBounds_toArray, List.set_cons_zero, List.set_cons_succ]
    refine wpAnyH_take (i := 31) (oi := { dst := some 104, op := Op.load 23 (Operand.tmp 4), type := 23, pos := "outright.go:47", after := #[{ on := 30, ground := Ground.guard }], guard := some (30, true) }) (v := ?_) rfl (by kernel_rfl) (by kernel_rfl) (by kernel_rfl) (fun c a w h => hp c _ _ _ w h) (Or.inl ⟨by rfl, ?_⟩) hHeld ?_
    rotate_left
    · (intro w hSw; (try dsimp only at hSw); go_simp; all_goals (try with_reducible rfl))
    try simp only [Act.put, List.setIfInBounds_toArray, List.set_cons_zero, List.set_cons_succ]
    refine wpAnyH_take (i := 32) (oi := { dst := some 105, op := Op.load 23 (Operand.tmp 5), type := 23, pos := "outright.go:47", after := #[{ on := 30, ground := Ground.guard }], guard := some (30, true) }) (v := ?_) rfl (by kernel_rfl) (by kernel_rfl) (by kernel_rfl) (fun c a w h => hp c _ _ _ w h) (Or.inl ⟨by rfl, ?_⟩) hHeld ?_
    rotate_left
    · (intro w hSw; (try dsimp only at hSw); go_simp; all_goals (try with_reducible rfl))
    try simp only [Act.put, List.setIfInBounds_toArray, List.set_cons_zero, List.set_cons_succ]
    refine wpAnyH_take (i := 33) (oi := { dst := some 106, op := Op.load 23 (Operand.tmp 6), type := 23, pos := "outright.go:47", after := #[{ on := 30, ground := Ground.guard }], guard := some (30, true) }) (v := ?_) rfl (by kernel_rfl) (by kernel_rfl) (by kernel_rfl) (fun c a w h => hp c _ _ _ w h) (Or.inl ⟨by rfl, ?_⟩) hHeld ?_
    rotate_left
    · (intro w hSw; (try dsimp only at hSw); go_simp; all_goals (try with_reducible rfl))
    try simp only [Act.put, List.setIfInBounds_toArray, List.set_cons_zero, List.set_cons_succ]
    refine wpAnyH_take (i := 38) (oi := { dst := some 111, op := Op.load 23 (Operand.tmp 4), type := 23, pos := "outright.go:47", after := #[{ on := 30, ground := Ground.guard }], guard := some (30, true) }) (v := ?_) rfl (by kernel_rfl) (by kernel_rfl) (by kernel_rfl) (fun c a w h => hp c _ _ _ w h) (Or.inl ⟨by rfl, ?_⟩) hHeld ?_
    rotate_left
    · (intro w hSw; (try dsimp only at hSw); go_simp; all_goals (try with_reducible rfl))
    try simp only [Act.put, List.setIfInBounds_toArray, List.set_cons_zero, List.set_cons_succ]
    refine wpAnyH_take (i := 39) (oi := { dst := some 112, op := Op.load 23 (Operand.tmp 5), type := 23, pos := "outright.go:47", after := #[{ on := 30, ground := Ground.guard }], guard := some (30, true) }) (v := ?_) rfl (by kernel_rfl) (by kernel_rfl) (by kernel_rfl) (fun c a w h => hp c _ _ _ w h) (Or.inl ⟨by rfl, ?_⟩) hHeld ?_
    rotate_left
    · (intro w hSw; (try dsimp only at hSw); go_simp; all_goals (try with_reducible rfl))
    try simp only [Act.put, List.setIfInBounds_toArray, List.set_cons_zero, List.set_cons_succ]
    refine wpAnyH_take (i := 40) (oi := { dst := some 113, op := Op.load 23 (Operand.tmp 6), type := 23, pos := "outright.go:47", after := #[{ on := 30, ground := Ground.guard }], guard := some (30, true) }) (v := ?_) rfl (by kernel_rfl) (by kernel_rfl) (by kernel_rfl) (fun c a w h => hp c _ _ _ w h) (Or.inl ⟨by rfl, ?_⟩) hHeld ?_
    rotate_left
    · (intro w hSw; (try dsimp only at hSw); go_simp; all_goals (try with_reducible rfl))
    try simp only [Act.put, List.setIfInBounds_toArray, List.set_cons_zero, List.set_cons_succ]
    refine wpAnyH_ready (rs := [34, 41]) (by kernel_rfl) (by simp) ?_
    refine AllReadyH.cons (o := { dst := some 107, op := Op.buildSlice 50 2 #[(0, Operand.tmp 105), (1, Operand.tmp 106)], type := 50, pos := "outright.go:47", after := #[{ on := 32, ground := Ground.data }, { on := 33, ground := Ground.data }, { on := 30, ground := Ground.guard }], guard := some (30, true) }) rfl (fun K hK => ?_) ?_
    · go_simp
      obtain ⟨bW1, hX⟩ : ∃ Z, X.alloc (.cells #[.int .i64 c, .int .i64 d, .int .i64 e, .int .i64 f] 23) = Z := ⟨_, rfl⟩
      rw [hX]
      have hb : Below X.heap.size X bW1 := by rw [← hX]; exact (Below.refl _ X).alloc (Nat.le_refl _) _
      have bm1 := m0.below hb
      have br1_34 := row_two X c d e f _ rfl
      rw [hX] at br1_34
      clear hX hb
      refine hK.out _ _ (HK.out _ bm1) (fun hHeld => ?_)
      clear hK K
      try simp only [List.setIfInBounds_toArray, List.set_cons_zero, List.set_cons_succ]
      refine wpAnyH_ready (rs := [35, 41]) (by kernel_rfl) (by simp) ?_
      refine AllReadyH.cons (o := { dst := some 108, op := Op.call { callee := Callee.value (Operand.func 23), args := #[Operand.tmp 107], argTypes := #[50] }, type := 23, pos := "outright.go:47", after := #[{ on := 34, ground := Ground.data }, { on := 30, ground := Ground.chain }, { on := 30, ground := Ground.guard }], guard := some (30, true) }) rfl (fun K hK => ?_) ?_
      · go_simp
        refine Calls.mono (meet_at2 _ _ c d e f p1 p2 bs.2.2.1 bs.2.2.2.1 bs.2.2.2.2.1 bs.2.2.2.2.2 P1.out P2.out br1_34) ?_
        rintro e bW2 ⟨rfl, hb⟩
        have bm2 := bm1.below hb
        have br2_34 := br1_34.stays hb (Nat.le_refl _)
        clear hb
        go_wp2_with fail
        refine hK.out _ _ (HK.out _ bm2) (fun hHeld => ?_)
        clear hK K
        try simp only [List.setIfInBounds_toArray, List.set_cons_zero, List.set_cons_succ]
        refine wpAnyH_ready (rs := [36, 41]) (by kernel_rfl) (by simp) ?_
        refine AllReadyH.cons (o := { dst := some 109, op := Op.buildSlice 50 2 #[(0, Operand.tmp 104), (1, Operand.tmp 108)], type := 50, pos := "outright.go:47", after := #[{ on := 31, ground := Ground.data }, { on := 35, ground := Ground.data }, { on := 30, ground := Ground.guard }], guard := some (30, true) }) rfl (fun K hK => ?_) ?_
        · go_simp
          obtain ⟨bW3, hX⟩ : ∃ Z, bW2.alloc (.cells #[.int .i64 a, .int .i64 b, .int .i64 p1, .int .i64 p2] 23) = Z := ⟨_, rfl⟩
          rw [hX]
          have hb : Below bW2.heap.size bW2 bW3 := by rw [← hX]; exact (Below.refl _ bW2).alloc (Nat.le_refl _) _
          have bm3 := bm2.below hb
          have br3_34 := br2_34.stays hb (Nat.le_refl _)
          have br3_36 := row_two bW2 a b p1 p2 _ rfl
          rw [hX] at br3_36
          clear hX hb
          refine hK.out _ _ (HK.out _ bm3) (fun hHeld => ?_)
          clear hK K
          try simp only [List.setIfInBounds_toArray, List.set_cons_zero, List.set_cons_succ]
          refine wpAnyH_ready (rs := [37, 41]) (by kernel_rfl) (by simp) ?_
          refine AllReadyH.cons (o := { dst := some 110, op := Op.call { callee := Callee.value (Operand.func 23), args := #[Operand.tmp 109], argTypes := #[50] }, type := 23, pos := "outright.go:47", after := #[{ on := 36, ground := Ground.data }, { on := 35, ground := Ground.chain }, { on := 30, ground := Ground.guard }], guard := some (30, true) }) rfl (fun K hK => ?_) ?_
          · go_simp
            refine Calls.mono (meet_at2 _ _ a b p1 p2 q1 q2 bs.1 bs.2.1 bp.1 bp.2 Q1.out Q2.out br3_36) ?_
            rintro e bW4 ⟨rfl, hb⟩
            have bm4 := bm3.below hb
            have br4_34 := br3_34.stays hb (Nat.le_refl _)
            have br4_36 := br3_36.stays hb (Nat.le_refl _)
            clear hb
            go_wp2_with fail
            refine hK.out _ _ (HK.out _ bm4) (fun hHeld => ?_)
            clear hK K
            try simp only [List.setIfInBounds_toArray, List.set_cons_zero, List.set_cons_succ]
            refine wpAnyH_ready (rs := [41]) (by kernel_rfl) (by simp) ?_
            refine AllReadyH.cons (o := { dst := some 114, op := Op.buildSlice 50 3 #[(0, Operand.tmp 111), (1, Operand.tmp 112), (2, Operand.tmp 113)], type := 50, pos := "outright.go:47", after := #[{ on := 38, ground := Ground.data }, { on := 39, ground := Ground.data }, { on := 40, ground := Ground.data }, { on := 30, ground := Ground.guard }], guard := some (30, true) }) rfl (fun K hK => ?_) AllReadyH.nil
            go_simp
            obtain ⟨bW5, hX⟩ : ∃ Z, bW4.alloc (.cells #[.int .i64 a, .int .i64 b, .int .i64 c, .int .i64 d, .int .i64 e, .int .i64 f] 23) = Z := ⟨_, rfl⟩
            rw [hX]
            have hb : Below bW4.heap.size bW4 bW5 := by rw [← hX]; exact (Below.refl _ bW4).alloc (Nat.le_refl _) _
            have bm5 := bm4.below hb
            have br5_34 := br4_34.stays hb (Nat.le_refl _)
            have br5_36 := br4_36.stays hb (Nat.le_refl _)
            have br5_41 := row_three bW4 a b c d e f _ rfl
            rw [hX] at br5_41
            clear hX hb
            refine hK.out _ _ (HK.out _ bm5) (fun hHeld => ?_)
            clear hK K
            try simp only [List.setIfInBounds_toArray, List.set_cons_zero, List.set_cons_succ]
            refine wpAnyH_ready (rs := [42]) (by kernel_rfl) (by simp) ?_
            refine AllReadyH.cons (o := { dst := some 115, op := Op.call { callee := Callee.value (Operand.func 23), args := #[Operand.tmp 114], argTypes := #[50] }, type := 23, pos := "outright.go:47", after := #[{ on := 41, ground := Ground.data }, { on := 37, ground := Ground.chain }, { on := 30, ground := Ground.guard }], guard := some (30, true) }) rfl (fun K hK => ?_) AllReadyH.nil
            go_simp
            refine Calls.mono (meet_at3 _ _ a b c d e f q1 q2 bs.1 bs.2.1 bs.2.2.1 bs.2.2.2.1 bs.2.2.2.2.1 bs.2.2.2.2.2 Q3.out Q4.out br5_41) ?_
            rintro e bW6 ⟨rfl, hb⟩
            have bm6 := bm5.below hb
            have br6_34 := br5_34.stays hb (Nat.le_refl _)
            have br6_36 := br5_36.stays hb (Nat.le_refl _)
            have br6_41 := br5_41.stays hb (Nat.le_refl _)
            clear hb
            go_wp2_with fail
            refine hK.out _ _ (HK.out _ bm6) (fun hHeld => ?_)
            clear hK K
            try simp only [List.setIfInBounds_toArray, List.set_cons_zero, List.set_cons_succ]
            exact seg3 _ _ _ r19 r21 r26 X.heap.size bW2.heap.size bW4.heap.size rfl (by decide) bm6
          refine AllReadyH.cons (o := { dst := some 114, op := Op.buildSlice 50 3 #[(0, Operand.tmp 111), (1, Operand.tmp 112), (2, Operand.tmp 113)], type := 50, pos := "outright.go:47", after := #[{ on := 38, ground := Ground.data }, { on := 39, ground := Ground.data }, { on := 40, ground := Ground.data }, { on := 30, ground := Ground.guard }], guard := some (30, true) }) rfl (fun K hK => ?_) AllReadyH.nil
          go_simp
          obtain ⟨bW7, hX⟩ : ∃ Z, bW3.alloc (.cells #[.int .i64 a, .int .i64 b, .int .i64 c, .int .i64 d, .int .i64 e, .int .i64 f] 23) = Z := ⟨_, rfl⟩
          rw [hX]
          have hb : Below bW3.heap.size bW3 bW7 := by rw [← hX]; exact (Below.refl _ bW3).alloc (Nat.le_refl _) _
          have bm7 := bm3.below hb
          have br7_34 := br3_34.stays hb (Nat.le_refl _)
          have br7_36 := br3_36.stays hb (Nat.le_refl _)
          have br7_41 := row_three bW3 a b c d e f _ rfl
          rw [hX] at br7_41
          clear hX hb
          refine hK.out _ _ (HK.out _ bm7) (fun hHeld => ?_)
          clear hK K
          try simp only [List.setIfInBounds_toArray, List.set_cons_zero, List.set_cons_succ]
          refine wpAnyH_ready (rs := [37]) (by kernel_rfl) (by simp) ?_
          refine AllReadyH.cons (o := { dst := some 110, op := Op.call { callee := Callee.value (Operand.func 23), args := #[Operand.tmp 109], argTypes := #[50] }, type := 23, pos := "outright.go:47", after := #[{ on := 36, ground := Ground.data }, { on := 35, ground := Ground.chain }, { on := 30, ground := Ground.guard }], guard := some (30, true) }) rfl (fun K hK => ?_) AllReadyH.nil
          go_simp
          refine Calls.mono (meet_at2 _ _ a b p1 p2 q1 q2 bs.1 bs.2.1 bp.1 bp.2 Q1.out Q2.out br7_36) ?_
          rintro e bW8 ⟨rfl, hb⟩
          have bm8 := bm7.below hb
          have br8_34 := br7_34.stays hb (Nat.le_refl _)
          have br8_36 := br7_36.stays hb (Nat.le_refl _)
          have br8_41 := br7_41.stays hb (Nat.le_refl _)
          clear hb
          go_wp2_with fail
          refine hK.out _ _ (HK.out _ bm8) (fun hHeld => ?_)
          clear hK K
          try simp only [List.setIfInBounds_toArray, List.set_cons_zero, List.set_cons_succ]
          refine wpAnyH_ready (rs := [42]) (by kernel_rfl) (by simp) ?_
          refine AllReadyH.cons (o := { dst := some 115, op := Op.call { callee := Callee.value (Operand.func 23), args := #[Operand.tmp 114], argTypes := #[50] }, type := 23, pos := "outright.go:47", after := #[{ on := 41, ground := Ground.data }, { on := 37, ground := Ground.chain }, { on := 30, ground := Ground.guard }], guard := some (30, true) }) rfl (fun K hK => ?_) AllReadyH.nil
          go_simp
          refine Calls.mono (meet_at3 _ _ a b c d e f q1 q2 bs.1 bs.2.1 bs.2.2.1 bs.2.2.2.1 bs.2.2.2.2.1 bs.2.2.2.2.2 Q3.out Q4.out br8_41) ?_
          rintro e bW9 ⟨rfl, hb⟩
          have bm9 := bm8.below hb
          have br9_34 := br8_34.stays hb (Nat.le_refl _)
          have br9_36 := br8_36.stays hb (Nat.le_refl _)
          have br9_41 := br8_41.stays hb (Nat.le_refl _)
          clear hb
          go_wp2_with fail
          refine hK.out _ _ (HK.out _ bm9) (fun hHeld => ?_)
          clear hK K
          try simp only [List.setIfInBounds_toArray, List.set_cons_zero, List.set_cons_succ]
          exact seg3 _ _ _ r19 r21 r26 X.heap.size bW2.heap.size bW3.heap.size rfl (by decide) bm9
        refine AllReadyH.cons (o := { dst := some 114, op := Op.buildSlice 50 3 #[(0, Operand.tmp 111), (1, Operand.tmp 112), (2, Operand.tmp 113)], type := 50, pos := "outright.go:47", after := #[{ on := 38, ground := Ground.data }, { on := 39, ground := Ground.data }, { on := 40, ground := Ground.data }, { on := 30, ground := Ground.guard }], guard := some (30, true) }) rfl (fun K hK => ?_) AllReadyH.nil
        go_simp
        obtain ⟨bW10, hX⟩ : ∃ Z, bW2.alloc (.cells #[.int .i64 a, .int .i64 b, .int .i64 c, .int .i64 d, .int .i64 e, .int .i64 f] 23) = Z := ⟨_, rfl⟩
        rw [hX]
        have hb : Below bW2.heap.size bW2 bW10 := by rw [← hX]; exact (Below.refl _ bW2).alloc (Nat.le_refl _) _
        have bm10 := bm2.below hb
        have br10_34 := br2_34.stays hb (Nat.le_refl _)
        have br10_41 := row_three bW2 a b c d e f _ rfl
        rw [hX] at br10_41
        clear hX hb
        refine hK.out _ _ (HK.out _ bm10) (fun hHeld => ?_)
        clear hK K
        try simp only [List.setIfInBounds_toArray, List.set_cons_zero, List.set_cons_succ]
        refine wpAnyH_ready (rs := [36]) (by kernel_rfl) (by simp) ?_
        refine AllReadyH.cons (o := { dst := some 109, op := Op.buildSlice 50 2 #[(0, Operand.tmp 104), (1, Operand.tmp 108)], type := 50, pos := "outright.go:47", after := #[{ on := 31, ground := Ground.data }, { on := 35, ground := Ground.data }, { on := 30, ground := Ground.guard }], guard := some (30, true) }) rfl (fun K hK => ?_) AllReadyH.nil
        go_simp
        obtain ⟨bW11, hX⟩ : ∃ Z, bW10.alloc (.cells #[.int .i64 a, .int .i64 b, .int .i64 p1, .int .i64 p2] 23) = Z := ⟨_, rfl⟩
        rw [hX]
        have hb : Below bW10.heap.size bW10 bW11 := by rw [← hX]; exact (Below.refl _ bW10).alloc (Nat.le_refl _) _
        have bm11 := bm10.below hb
        have br11_34 := br10_34.stays hb (Nat.le_refl _)
        have br11_41 := br10_41.stays hb (Nat.le_refl _)
        have br11_36 := row_two bW10 a b p1 p2 _ rfl
        rw [hX] at br11_36
        clear hX hb
        refine hK.out _ _ (HK.out _ bm11) (fun hHeld => ?_)
        clear hK K
        try simp only [List.setIfInBounds_toArray, List.set_cons_zero, List.set_cons_succ]
        refine wpAnyH_ready (rs := [37]) (by kernel_rfl) (by simp) ?_
        refine AllReadyH.cons (o := { dst := some 110, op := Op.call { callee := Callee.value (Operand.func 23), args := #[Operand.tmp 109], argTypes := #[50] }, type := 23, pos := "outright.go:47", after := #[{ on := 36, ground := Ground.data }, { on := 35, ground := Ground.chain }, { on := 30, ground := Ground.guard }], guard := some (30, true) }) rfl (fun K hK => ?_) AllReadyH.nil
        go_simp
        refine Calls.mono (meet_at2 _ _ a b p1 p2 q1 q2 bs.1 bs.2.1 bp.1 bp.2 Q1.out Q2.out br11_36) ?_
        rintro e bW12 ⟨rfl, hb⟩
        have bm12 := bm11.below hb
        have br12_34 := br11_34.stays hb (Nat.le_refl _)
        have br12_41 := br11_41.stays hb (Nat.le_refl _)
        have br12_36 := br11_36.stays hb (Nat.le_refl _)
        clear hb
        go_wp2_with fail
        refine hK.out _ _ (HK.out _ bm12) (fun hHeld => ?_)
        clear hK K
        try simp only [List.setIfInBounds_toArray, List.set_cons_zero, List.set_cons_succ]
        refine wpAnyH_ready (rs := [42]) (by kernel_rfl) (by simp) ?_
        refine AllReadyH.cons (o := { dst := some 115, op := Op.call { callee := Callee.value (Operand.func 23), args := #[Operand.tmp 114], argTypes := #[50] }, type := 23, pos := "outright.go:47", after := #[{ on := 41, ground := Ground.data }, { on := 37, ground := Ground.chain }, { on := 30, ground := Ground.guard }], guard := some (30, true) }) rfl (fun K hK => ?_) AllReadyH.nil
        go_simp
        refine Calls.mono (meet_at3 _ _ a b c d e f q1 q2 bs.1 bs.2.1 bs.2.2.1 bs.2.2.2.1 bs.2.2.2.2.1 bs.2.2.2.2.2 Q3.out Q4.out br12_41) ?_
        rintro e bW13 ⟨rfl, hb⟩
        have bm13 := bm12.below hb
        have br13_34 := br12_34.stays hb (Nat.le_refl _)
        have br13_41 := br12_41.stays hb (Nat.le_refl _)
        have br13_36 := br12_36.stays hb (Nat.le_refl _)
        clear hb
        go_wp2_with fail
        refine hK.out _ _ (HK.out _ bm13) (fun hHeld => ?_)
        clear hK K
        try simp only [List.setIfInBounds_toArray, List.set_cons_zero, List.set_cons_succ]
        exact seg3 _ _ _ r19 r21 r26 X.heap.size bW10.heap.size bW2.heap.size rfl (by decide) bm13
      refine AllReadyH.cons (o := { dst := some 114, op := Op.buildSlice 50 3 #[(0, Operand.tmp 111), (1, Operand.tmp 112), (2, Operand.tmp 113)], type := 50, pos := "outright.go:47", after := #[{ on := 38, ground := Ground.data }, { on := 39, ground := Ground.data }, { on := 40, ground := Ground.data }, { on := 30, ground := Ground.guard }], guard := some (30, true) }) rfl (fun K hK => ?_) AllReadyH.nil
      go_simp
      obtain ⟨bW14, hX⟩ : ∃ Z, bW1.alloc (.cells #[.int .i64 a, .int .i64 b, .int .i64 c, .int .i64 d, .int .i64 e, .int .i64 f] 23) = Z := ⟨_, rfl⟩
      rw [hX]
      have hb : Below bW1.heap.size bW1 bW14 := by rw [← hX]; exact (Below.refl _ bW1).alloc (Nat.le_refl _) _
      have bm14 := bm1.below hb
      have br14_34 := br1_34.stays hb (Nat.le_refl _)
      have br14_41 := row_three bW1 a b c d e f _ rfl
      rw [hX] at br14_41
      clear hX hb
      refine hK.out _ _ (HK.out _ bm14) (fun hHeld => ?_)
      clear hK K
      try simp only [List.setIfInBounds_toArray, List.set_cons_zero, List.set_cons_succ]
      refine wpAnyH_ready (rs := [35]) (by kernel_rfl) (by simp) ?_
      refine AllReadyH.cons (o := { dst := some 108, op := Op.call { callee := Callee.value (Operand.func 23), args := #[Operand.tmp 107], argTypes := #[50] }, type := 23, pos := "outright.go:47", after := #[{ on := 34, ground := Ground.data }, { on := 30, ground := Ground.chain }, { on := 30, ground := Ground.guard }], guard := some (30, true) }) rfl (fun K hK => ?_) AllReadyH.nil
      go_simp
      refine Calls.mono (meet_at2 _ _ c d e f p1 p2 bs.2.2.1 bs.2.2.2.1 bs.2.2.2.2.1 bs.2.2.2.2.2 P1.out P2.out br14_34) ?_
      rintro e bW15 ⟨rfl, hb⟩
      have bm15 := bm14.below hb
      have br15_34 := br14_34.stays hb (Nat.le_refl _)
      have br15_41 := br14_41.stays hb (Nat.le_refl _)
      clear hb
      go_wp2_with fail
      refine hK.out _ _ (HK.out _ bm15) (fun hHeld => ?_)
      clear hK K
      try simp only [List.setIfInBounds_toArray, List.set_cons_zero, List.set_cons_succ]
      refine wpAnyH_ready (rs := [36]) (by kernel_rfl) (by simp) ?_
      refine AllReadyH.cons (o := { dst := some 109, op := Op.buildSlice 50 2 #[(0, Operand.tmp 104), (1, Operand.tmp 108)], type := 50, pos := "outright.go:47", after := #[{ on := 31, ground := Ground.data }, { on := 35, ground := Ground.data }, { on := 30, ground := Ground.guard }], guard := some (30, true) }) rfl (fun K hK => ?_) AllReadyH.nil
      go_simp
      obtain ⟨bW16, hX⟩ : ∃ Z, bW15.alloc (.cells #[.int .i64 a, .int .i64 b, .int .i64 p1, .int .i64 p2] 23) = Z := ⟨_, rfl⟩
      rw [hX]
      have hb : Below bW15.heap.size bW15 bW16 := by rw [← hX]; exact (Below.refl _ bW15).alloc (Nat.le_refl _) _
      have bm16 := bm15.below hb
      have br16_34 := br15_34.stays hb (Nat.le_refl _)
      have br16_41 := br15_41.stays hb (Nat.le_refl _)
      have br16_36 := row_two bW15 a b p1 p2 _ rfl
      rw [hX] at br16_36
      clear hX hb
      refine hK.out _ _ (HK.out _ bm16) (fun hHeld => ?_)
      clear hK K
      try simp only [List.setIfInBounds_toArray, List.set_cons_zero, List.set_cons_succ]
      refine wpAnyH_ready (rs := [37]) (by kernel_rfl) (by simp) ?_
      refine AllReadyH.cons (o := { dst := some 110, op := Op.call { callee := Callee.value (Operand.func 23), args := #[Operand.tmp 109], argTypes := #[50] }, type := 23, pos := "outright.go:47", after := #[{ on := 36, ground := Ground.data }, { on := 35, ground := Ground.chain }, { on := 30, ground := Ground.guard }], guard := some (30, true) }) rfl (fun K hK => ?_) AllReadyH.nil
      go_simp
      refine Calls.mono (meet_at2 _ _ a b p1 p2 q1 q2 bs.1 bs.2.1 bp.1 bp.2 Q1.out Q2.out br16_36) ?_
      rintro e bW17 ⟨rfl, hb⟩
      have bm17 := bm16.below hb
      have br17_34 := br16_34.stays hb (Nat.le_refl _)
      have br17_41 := br16_41.stays hb (Nat.le_refl _)
      have br17_36 := br16_36.stays hb (Nat.le_refl _)
      clear hb
      go_wp2_with fail
      refine hK.out _ _ (HK.out _ bm17) (fun hHeld => ?_)
      clear hK K
      try simp only [List.setIfInBounds_toArray, List.set_cons_zero, List.set_cons_succ]
      refine wpAnyH_ready (rs := [42]) (by kernel_rfl) (by simp) ?_
      refine AllReadyH.cons (o := { dst := some 115, op := Op.call { callee := Callee.value (Operand.func 23), args := #[Operand.tmp 114], argTypes := #[50] }, type := 23, pos := "outright.go:47", after := #[{ on := 41, ground := Ground.data }, { on := 37, ground := Ground.chain }, { on := 30, ground := Ground.guard }], guard := some (30, true) }) rfl (fun K hK => ?_) AllReadyH.nil
      go_simp
      refine Calls.mono (meet_at3 _ _ a b c d e f q1 q2 bs.1 bs.2.1 bs.2.2.1 bs.2.2.2.1 bs.2.2.2.2.1 bs.2.2.2.2.2 Q3.out Q4.out br17_41) ?_
      rintro e bW18 ⟨rfl, hb⟩
      have bm18 := bm17.below hb
      have br18_34 := br17_34.stays hb (Nat.le_refl _)
      have br18_41 := br17_41.stays hb (Nat.le_refl _)
      have br18_36 := br17_36.stays hb (Nat.le_refl _)
      clear hb
      go_wp2_with fail
      refine hK.out _ _ (HK.out _ bm18) (fun hHeld => ?_)
      clear hK K
      try simp only [List.setIfInBounds_toArray, List.set_cons_zero, List.set_cons_succ]
      exact seg3 _ _ _ r19 r21 r26 X.heap.size bW15.heap.size bW1.heap.size rfl (by decide) bm18
    refine AllReadyH.cons (o := { dst := some 114, op := Op.buildSlice 50 3 #[(0, Operand.tmp 111), (1, Operand.tmp 112), (2, Operand.tmp 113)], type := 50, pos := "outright.go:47", after := #[{ on := 38, ground := Ground.data }, { on := 39, ground := Ground.data }, { on := 40, ground := Ground.data }, { on := 30, ground := Ground.guard }], guard := some (30, true) }) rfl (fun K hK => ?_) AllReadyH.nil
    go_simp
    obtain ⟨bW19, hX⟩ : ∃ Z, X.alloc (.cells #[.int .i64 a, .int .i64 b, .int .i64 c, .int .i64 d, .int .i64 e, .int .i64 f] 23) = Z := ⟨_, rfl⟩
    rw [hX]
    have hb : Below X.heap.size X bW19 := by rw [← hX]; exact (Below.refl _ X).alloc (Nat.le_refl _) _
    have bm19 := m0.below hb
    have br19_41 := row_three X a b c d e f _ rfl
    rw [hX] at br19_41
    clear hX hb
    refine hK.out _ _ (HK.out _ bm19) (fun hHeld => ?_)
    clear hK K
    try simp only [List.setIfInBounds_toArray, List.set_cons_zero, List.set_cons_succ]
    refine wpAnyH_ready (rs := [34]) (by kernel_rfl) (by simp) ?_
    refine AllReadyH.cons (o := { dst := some 107, op := Op.buildSlice 50 2 #[(0, Operand.tmp 105), (1, Operand.tmp 106)], type := 50, pos := "outright.go:47", after := #[{ on := 32, ground := Ground.data }, { on := 33, ground := Ground.data }, { on := 30, ground := Ground.guard }], guard := some (30, true) }) rfl (fun K hK => ?_) AllReadyH.nil
    go_simp
    obtain ⟨bW20, hX⟩ : ∃ Z, bW19.alloc (.cells #[.int .i64 c, .int .i64 d, .int .i64 e, .int .i64 f] 23) = Z := ⟨_, rfl⟩
    rw [hX]
    have hb : Below bW19.heap.size bW19 bW20 := by rw [← hX]; exact (Below.refl _ bW19).alloc (Nat.le_refl _) _
    have bm20 := bm19.below hb
    have br20_41 := br19_41.stays hb (Nat.le_refl _)
    have br20_34 := row_two bW19 c d e f _ rfl
    rw [hX] at br20_34
    clear hX hb
    refine hK.out _ _ (HK.out _ bm20) (fun hHeld => ?_)
    clear hK K
    try simp only [List.setIfInBounds_toArray, List.set_cons_zero, List.set_cons_succ]
    refine wpAnyH_ready (rs := [35]) (by kernel_rfl) (by simp) ?_
    refine AllReadyH.cons (o := { dst := some 108, op := Op.call { callee := Callee.value (Operand.func 23), args := #[Operand.tmp 107], argTypes := #[50] }, type := 23, pos := "outright.go:47", after := #[{ on := 34, ground := Ground.data }, { on := 30, ground := Ground.chain }, { on := 30, ground := Ground.guard }], guard := some (30, true) }) rfl (fun K hK => ?_) AllReadyH.nil
    go_simp
    refine Calls.mono (meet_at2 _ _ c d e f p1 p2 bs.2.2.1 bs.2.2.2.1 bs.2.2.2.2.1 bs.2.2.2.2.2 P1.out P2.out br20_34) ?_
    rintro e bW21 ⟨rfl, hb⟩
    have bm21 := bm20.below hb
    have br21_41 := br20_41.stays hb (Nat.le_refl _)
    have br21_34 := br20_34.stays hb (Nat.le_refl _)
    clear hb
    go_wp2_with fail
    refine hK.out _ _ (HK.out _ bm21) (fun hHeld => ?_)
    clear hK K
    try simp only [List.setIfInBounds_toArray, List.set_cons_zero, List.set_cons_succ]
    refine wpAnyH_ready (rs := [36]) (by kernel_rfl) (by simp) ?_
    refine AllReadyH.cons (o := { dst := some 109, op := Op.buildSlice 50 2 #[(0, Operand.tmp 104), (1, Operand.tmp 108)], type := 50, pos := "outright.go:47", after := #[{ on := 31, ground := Ground.data }, { on := 35, ground := Ground.data }, { on := 30, ground := Ground.guard }], guard := some (30, true) }) rfl (fun K hK => ?_) AllReadyH.nil
    go_simp
    obtain ⟨bW22, hX⟩ : ∃ Z, bW21.alloc (.cells #[.int .i64 a, .int .i64 b, .int .i64 p1, .int .i64 p2] 23) = Z := ⟨_, rfl⟩
    rw [hX]
    have hb : Below bW21.heap.size bW21 bW22 := by rw [← hX]; exact (Below.refl _ bW21).alloc (Nat.le_refl _) _
    have bm22 := bm21.below hb
    have br22_41 := br21_41.stays hb (Nat.le_refl _)
    have br22_34 := br21_34.stays hb (Nat.le_refl _)
    have br22_36 := row_two bW21 a b p1 p2 _ rfl
    rw [hX] at br22_36
    clear hX hb
    refine hK.out _ _ (HK.out _ bm22) (fun hHeld => ?_)
    clear hK K
    try simp only [List.setIfInBounds_toArray, List.set_cons_zero, List.set_cons_succ]
    refine wpAnyH_ready (rs := [37]) (by kernel_rfl) (by simp) ?_
    refine AllReadyH.cons (o := { dst := some 110, op := Op.call { callee := Callee.value (Operand.func 23), args := #[Operand.tmp 109], argTypes := #[50] }, type := 23, pos := "outright.go:47", after := #[{ on := 36, ground := Ground.data }, { on := 35, ground := Ground.chain }, { on := 30, ground := Ground.guard }], guard := some (30, true) }) rfl (fun K hK => ?_) AllReadyH.nil
    go_simp
    refine Calls.mono (meet_at2 _ _ a b p1 p2 q1 q2 bs.1 bs.2.1 bp.1 bp.2 Q1.out Q2.out br22_36) ?_
    rintro e bW23 ⟨rfl, hb⟩
    have bm23 := bm22.below hb
    have br23_41 := br22_41.stays hb (Nat.le_refl _)
    have br23_34 := br22_34.stays hb (Nat.le_refl _)
    have br23_36 := br22_36.stays hb (Nat.le_refl _)
    clear hb
    go_wp2_with fail
    refine hK.out _ _ (HK.out _ bm23) (fun hHeld => ?_)
    clear hK K
    try simp only [List.setIfInBounds_toArray, List.set_cons_zero, List.set_cons_succ]
    refine wpAnyH_ready (rs := [42]) (by kernel_rfl) (by simp) ?_
    refine AllReadyH.cons (o := { dst := some 115, op := Op.call { callee := Callee.value (Operand.func 23), args := #[Operand.tmp 114], argTypes := #[50] }, type := 23, pos := "outright.go:47", after := #[{ on := 41, ground := Ground.data }, { on := 37, ground := Ground.chain }, { on := 30, ground := Ground.guard }], guard := some (30, true) }) rfl (fun K hK => ?_) AllReadyH.nil
    go_simp
    refine Calls.mono (meet_at3 _ _ a b c d e f q1 q2 bs.1 bs.2.1 bs.2.2.1 bs.2.2.2.1 bs.2.2.2.2.1 bs.2.2.2.2.2 Q3.out Q4.out br23_41) ?_
    rintro e bW24 ⟨rfl, hb⟩
    have bm24 := bm23.below hb
    have br24_41 := br23_41.stays hb (Nat.le_refl _)
    have br24_34 := br23_34.stays hb (Nat.le_refl _)
    have br24_36 := br23_36.stays hb (Nat.le_refl _)
    clear hb
    go_wp2_with fail
    refine hK.out _ _ (HK.out _ bm24) (fun hHeld => ?_)
    clear hK K
    try simp only [List.setIfInBounds_toArray, List.set_cons_zero, List.set_cons_succ]
    exact seg3 _ _ _ r19 r21 r26 bW19.heap.size bW21.heap.size X.heap.size rfl (by decide) bm24
  have m0 : Kept2 z z W0 W0.drew := Kept2.drew z z _
  refine wp_region_held_drew (S := fun W' => W'.cell? ⟨w.heap.size, 0, none⟩ = some (.int .i64 a) ∧ W'.cell? ⟨w.heap.size, 1, none⟩ = some (.int .i64 b) ∧ W'.cell? ⟨w.heap.size + 1, 0, none⟩ = some (.int .i64 c) ∧ W'.cell? ⟨w.heap.size + 1, 1, none⟩ = some (.int .i64 d) ∧ W'.cell? ⟨w.heap.size + 1 + 1, 0, none⟩ = some (.int .i64 e) ∧ W'.cell? ⟨w.heap.size + 1 + 1, 1, none⟩ = some (.int .i64 f) ∧ W'.cell? ⟨g9, 0, none⟩ = some (.int .i64 m1) ∧ W'.cell? ⟨g9, 1, none⟩ = some (.int .i64 m2)) (by kernel_rfl) (HK.out _ m0) (fun hHeld => ?_)
  refine wpAnyH_ready (rs := [0]) (by kernel_rfl) (by simp) ?_
  refine AllReadyH.cons (o := { dst := some 73, op := Op.call { callee := Callee.value (Operand.func 10), args := #[], argTypes := #[] }, type := 4, pos := "outright.go:47", after := #[], guard := none }) rfl (fun K hK => ?_) AllReadyH.nil
  go_simp
  refine Calls.mono (salive_any _) ?_
  rintro e qW1 ⟨rfl, hb⟩
  have qm1 := m0.below hb
  clear hb
  go_wp2_with fail
  refine hK.out _ _ (HK.out _ qm1) (fun hHeld => ?_)
  clear hK K
  try simp only [Act.put, List.setIfInBounds_toArray, List.set_cons_zero, List.set_cons_succ]
  refine wpAnyH_take (i := 1) (oi := { dst := some 74, op := Op.move (Operand.tmp 73), type := 4, pos := "outright.go:47", after := #[{ on := 0, ground := Ground.data }, { on := 0, ground := Ground.chain }], guard := none }) (v := ?_) rfl (by kernel_rfl) (by kernel_rfl) (by kernel_rfl) (fun c a w h => hp c _ _ _ w h) (Or.inl ⟨by rfl, ?_⟩) hHeld ?_
  rotate_left
  · (intro w hSw; (try dsimp only at hSw); go_simp; all_goals (try with_reducible rfl))
  try simp only [Act.put, List.setIfInBounds_toArray, List.set_cons_zero, List.set_cons_succ]
  refine wpAnyH_take (i := 2) (oi := { dst := some 75, op := Op.load 23 (Operand.tmp 10), type := 23, pos := "outright.go:47", after := #[{ on := 1, ground := Ground.guard }], guard := some (1, true) }) (v := ?_) rfl (by kernel_rfl) (by kernel_rfl) (by kernel_rfl) (fun c a w h => hp c _ _ _ w h) (Or.inl ⟨by rfl, ?_⟩) hHeld ?_
  rotate_left
  · (intro w hSw; (try dsimp only at hSw); go_simp; all_goals (try with_reducible rfl))
  try simp only [Act.put, List.setIfInBounds_toArray, List.set_cons_zero, List.set_cons_succ]
  refine wpAnyH_take (i := 3) (oi := { dst := some 76, op := Op.move (Operand.tmp 3), type := 3, pos := "outright.go:47", after := #[{ on := 1, ground := Ground.guard }], guard := some (1, true) }) (v := ?_) rfl (by kernel_rfl) (by kernel_rfl) (by kernel_rfl) (fun c a w h => hp c _ _ _ w h) (Or.inl ⟨by rfl, ?_⟩) hHeld ?_
  rotate_left
  · (intro w hSw; (try dsimp only at hSw); go_simp; all_goals (try with_reducible rfl))
  try simp only [Act.put, List.setIfInBounds_toArray, List.set_cons_zero, List.set_cons_succ]
  refine wpAnyH_take (i := 5) (oi := { dst := some 78, op := Op.load 23 (Operand.tmp 4), type := 23, pos := "outright.go:47", after := #[{ on := 1, ground := Ground.guard }], guard := some (1, true) }) (v := ?_) rfl (by kernel_rfl) (by kernel_rfl) (by kernel_rfl) (fun c a w h => hp c _ _ _ w h) (Or.inl ⟨by rfl, ?_⟩) hHeld ?_
  rotate_left
  · (intro w hSw; (try dsimp only at hSw); go_simp; all_goals (try with_reducible rfl))
  try simp only [Act.put, List.setIfInBounds_toArray, List.set_cons_zero, List.set_cons_succ]
  refine wpAnyH_take (i := 6) (oi := { dst := some 79, op := Op.move (Operand.tmp 3), type := 3, pos := "outright.go:47", after := #[{ on := 1, ground := Ground.guard }], guard := some (1, true) }) (v := ?_) rfl (by kernel_rfl) (by kernel_rfl) (by kernel_rfl) (fun c a w h => hp c _ _ _ w h) (Or.inl ⟨by rfl, ?_⟩) hHeld ?_
  rotate_left
  · (intro w hSw; (try dsimp only at hSw); go_simp; all_goals (try with_reducible rfl))
  try simp only [Act.put, List.setIfInBounds_toArray, List.set_cons_zero, List.set_cons_succ]
  refine wpAnyH_ready (rs := [4]) (by kernel_rfl) (by simp) ?_
  refine AllReadyH.cons (o := { dst := some 77, op := Op.call { callee := Callee.value (Operand.func 12), args := #[Operand.tmp 75, Operand.tmp 76], argTypes := #[23, 3] }, type := 4, pos := "outright.go:47", after := #[{ on := 2, ground := Ground.data }, { on := 3, ground := Ground.data }, { on := 1, ground := Ground.chain }, { on := 1, ground := Ground.guard }], guard := some (1, true) }) rfl (fun K hK => ?_) AllReadyH.nil
  go_simp
  refine Calls.mono (shas_any m1 m2 n false _ (by simp; omega)) ?_
  rintro e qW2 ⟨rfl, hb⟩
  have qm2 := qm1.below hb
  clear hb
  go_wp2_with fail
  refine hK.out _ _ (HK.out _ qm2) (fun hHeld => ?_)
  clear hK K
  try simp only [Act.put, List.setIfInBounds_toArray, List.set_cons_zero, List.set_cons_succ]
  refine wpAnyH_ready (rs := [7]) (by kernel_rfl) (by simp) ?_
  refine AllReadyH.cons (o := { dst := some 80, op := Op.call { callee := Callee.value (Operand.func 12), args := #[Operand.tmp 78, Operand.tmp 79], argTypes := #[23, 3] }, type := 4, pos := "outright.go:47", after := #[{ on := 5, ground := Ground.data }, { on := 6, ground := Ground.data }, { on := 4, ground := Ground.chain }, { on := 1, ground := Ground.guard }], guard := some (1, true) }) rfl (fun K hK => ?_) AllReadyH.nil
  go_simp
  refine Calls.mono (shas_any a b n true _ (by simp; omega)) ?_
  rintro e qW3 ⟨rfl, hb⟩
  have qm3 := qm2.below hb
  clear hb
  go_wp2_with fail
  refine hK.out _ _ (HK.out _ qm3) (fun hHeld => ?_)
  clear hK K
  try simp only [Act.put, List.setIfInBounds_toArray, List.set_cons_zero, List.set_cons_succ]
  refine wpAnyH_take (i := 8) (oi := { dst := some 81, op := Op.move (Operand.tmp 80), type := 4, pos := "outright.go:47", after := #[{ on := 7, ground := Ground.data }, { on := 7, ground := Ground.chain }, { on := 1, ground := Ground.guard }], guard := some (1, true) }) (v := ?_) rfl (by kernel_rfl) (by kernel_rfl) (by kernel_rfl) (fun c a w h => hp c _ _ _ w h) (Or.inl ⟨by rfl, ?_⟩) hHeld ?_
  rotate_left
  · (intro w hSw; (try dsimp only at hSw); go_simp; all_goals (try with_reducible rfl))
  try simp only [Act.put, List.setIfInBounds_toArray, List.set_cons_zero, List.set_cons_succ]
  refine wpAnyH_take (i := 9) (oi := { dst := some 82, op := Op.load 23 (Operand.tmp 5), type := 23, pos := "outright.go:47", after := #[{ on := 8, ground := Ground.guard }], guard := some (8, true) }) (v := ?_) rfl (by kernel_rfl) (by kernel_rfl) (by kernel_rfl) (fun c a w h => hp c _ _ _ w h) (Or.inl ⟨by rfl, ?_⟩) hHeld ?_
  rotate_left
  · (intro w hSw; (try dsimp only at hSw); go_simp; all_goals (try with_reducible rfl))
  try simp only [Act.put, List.setIfInBounds_toArray, List.set_cons_zero, List.set_cons_succ]
  refine wpAnyH_take (i := 10) (oi := { dst := some 83, op := Op.move (Operand.tmp 3), type := 3, pos := "outright.go:47", after := #[{ on := 8, ground := Ground.guard }], guard := some (8, true) }) (v := ?_) rfl (by kernel_rfl) (by kernel_rfl) (by kernel_rfl) (fun c a w h => hp c _ _ _ w h) (Or.inl ⟨by rfl, ?_⟩) hHeld ?_
  rotate_left
  · (intro w hSw; (try dsimp only at hSw); go_simp; all_goals (try with_reducible rfl))
  try simp only [Act.put, List.setIfInBounds_toArray, List.set_cons_zero, List.set_cons_succ]
  refine wpAnyH_ready (rs := [11]) (by kernel_rfl) (by simp) ?_
  refine AllReadyH.cons (o := { dst := some 84, op := Op.call { callee := Callee.value (Operand.func 12), args := #[Operand.tmp 82, Operand.tmp 83], argTypes := #[23, 3] }, type := 4, pos := "outright.go:47", after := #[{ on := 9, ground := Ground.data }, { on := 10, ground := Ground.data }, { on := 8, ground := Ground.chain }, { on := 8, ground := Ground.guard }], guard := some (8, true) }) rfl (fun K hK => ?_) AllReadyH.nil
  go_simp
  refine Calls.mono (shas_any c d n false _ (by simp; omega)) ?_
  rintro e qW4 ⟨rfl, hb⟩
  have qm4 := qm3.below hb
  clear hb
  go_wp2_with fail
  refine hK.out _ _ (HK.out _ qm4) (fun hHeld => ?_)
  clear hK K
  try simp only [Act.put, List.setIfInBounds_toArray, List.set_cons_zero, List.set_cons_succ]
  refine wpAnyH_take (i := 12) (oi := { dst := some 85, op := Op.pick (Operand.tmp 81) (Operand.tmp 84) (Operand.const (Value.bool false)), type := 4, pos := "outright.go:47", after := #[{ on := 8, ground := Ground.data }, { on := 11, ground := Ground.data }, { on := 1, ground := Ground.guard }], guard := some (1, true) }) (v := ?_) rfl (by kernel_rfl) (by kernel_rfl) (by kernel_rfl) (fun c a w h => hp c _ _ _ w h) (Or.inl ⟨by rfl, ?_⟩) hHeld ?_
  rotate_left
  · (intro w hSw; (try dsimp only at hSw); go_simp; all_goals (try with_reducible rfl))
  try simp only [Act.put, List.setIfInBounds_toArray, List.set_cons_zero, List.set_cons_succ]
  refine wpAnyH_take (i := 13) (oi := { dst := some 86, op := Op.binOp BinOp.eql 4 (Operand.tmp 77) (Operand.tmp 85) 4, type := 4, pos := "outright.go:47", after := #[{ on := 4, ground := Ground.data }, { on := 12, ground := Ground.data }, { on := 1, ground := Ground.guard }], guard := some (1, true) }) (v := ?_) rfl (by kernel_rfl) (by kernel_rfl) (by kernel_rfl) (fun c a w h => hp c _ _ _ w h) (Or.inl ⟨by rfl, ?_⟩) hHeld ?_
  rotate_left
  · (intro w hSw; (try dsimp only at hSw); go_simp; all_goals (try with_reducible rfl))
  try simp only [Act.put, List.setIfInBounds_toArray, List.set_cons_zero, List.set_cons_succ]
  refine wpAnyH_take (i := 14) (oi := { dst := some 87, op := Op.pick (Operand.tmp 74) (Operand.tmp 86) (Operand.const (Value.bool false)), type := 4, pos := "outright.go:47", after := #[{ on := 1, ground := Ground.data }, { on := 13, ground := Ground.data }], guard := none }) (v := ?_) rfl (by kernel_rfl) (by kernel_rfl) (by kernel_rfl) (fun c a w h => hp c _ _ _ w h) (Or.inl ⟨by rfl, ?_⟩) hHeld ?_
  rotate_left
  · (intro w hSw; (try dsimp only at hSw); go_simp; all_goals (try with_reducible rfl))
  try simp only [Act.put, List.setIfInBounds_toArray, List.set_cons_zero, List.set_cons_succ]
  refine wpAnyH_take (i := 15) (oi := { dst := some 88, op := Op.move (Operand.tmp 87), type := 4, pos := "outright.go:47", after := #[{ on := 14, ground := Ground.data }, { on := 11, ground := Ground.chain }], guard := none }) (v := ?_) rfl (by kernel_rfl) (by kernel_rfl) (by kernel_rfl) (fun c a w h => hp c _ _ _ w h) (Or.inl ⟨by rfl, ?_⟩) hHeld ?_
  rotate_left
  · (intro w hSw; (try dsimp only at hSw); go_simp; all_goals (try with_reducible rfl))
  try simp only [Act.put, List.setIfInBounds_toArray, List.set_cons_zero, List.set_cons_succ]
  refine wpAnyH_take (i := 16) (oi := { dst := some 89, op := Op.load 23 (Operand.tmp 4), type := 23, pos := "outright.go:47", after := #[{ on := 15, ground := Ground.guard }], guard := some (15, true) }) (v := ?_) rfl (by kernel_rfl) (by kernel_rfl) (by kernel_rfl) (fun c a w h => hp c _ _ _ w h) (Or.inl ⟨by rfl, ?_⟩) hHeld ?_
  rotate_left
  · (intro w hSw; (try dsimp only at hSw); go_simp; all_goals (try with_reducible rfl))
  try simp only [Act.put, List.setIfInBounds_toArray, List.set_cons_zero, List.set_cons_succ]
  refine wpAnyH_take (i := 17) (oi := { dst := some 90, op := Op.load 23 (Operand.tmp 5), type := 23, pos := "outright.go:47", after := #[{ on := 15, ground := Ground.guard }], guard := some (15, true) }) (v := ?_) rfl (by kernel_rfl) (by kernel_rfl) (by kernel_rfl) (fun c a w h => hp c _ _ _ w h) (Or.inl ⟨by rfl, ?_⟩) hHeld ?_
  rotate_left
  · (intro w hSw; (try dsimp only at hSw); go_simp; all_goals (try with_reducible rfl))
  try simp only [Act.put, List.setIfInBounds_toArray, List.set_cons_zero, List.set_cons_succ]
  refine wpAnyH_take (i := 18) (oi := { dst := some 91, op := Op.load 23 (Operand.tmp 6), type := 23, pos := "outright.go:47", after := #[{ on := 15, ground := Ground.guard }], guard := some (15, true) }) (v := ?_) rfl (by kernel_rfl) (by kernel_rfl) (by kernel_rfl) (fun c a w h => hp c _ _ _ w h) (Or.inl ⟨by rfl, ?_⟩) hHeld ?_
  rotate_left
  · (intro w hSw; (try dsimp only at hSw); go_simp; all_goals (try with_reducible rfl))
  try simp only [Act.put, List.setIfInBounds_toArray, List.set_cons_zero, List.set_cons_succ]
  refine wpAnyH_take (i := 23) (oi := { dst := some 96, op := Op.load 23 (Operand.tmp 4), type := 23, pos := "outright.go:47", after := #[{ on := 15, ground := Ground.guard }], guard := some (15, true) }) (v := ?_) rfl (by kernel_rfl) (by kernel_rfl) (by kernel_rfl) (fun c a w h => hp c _ _ _ w h) (Or.inl ⟨by rfl, ?_⟩) hHeld ?_
  rotate_left
  · (intro w hSw; (try dsimp only at hSw); go_simp; all_goals (try with_reducible rfl))
  try simp only [Act.put, List.setIfInBounds_toArray, List.set_cons_zero, List.set_cons_succ]
  refine wpAnyH_take (i := 24) (oi := { dst := some 97, op := Op.load 23 (Operand.tmp 5), type := 23, pos := "outright.go:47", after := #[{ on := 15, ground := Ground.guard }], guard := some (15, true) }) (v := ?_) rfl (by kernel_rfl) (by kernel_rfl) (by kernel_rfl) (fun c a w h => hp c _ _ _ w h) (Or.inl ⟨by rfl, ?_⟩) hHeld ?_
  rotate_left
  · (intro w hSw; (try dsimp only at hSw); go_simp; all_goals (try with_reducible rfl))
  try simp only [Act.put, List.setIfInBounds_toArray, List.set_cons_zero, List.set_cons_succ]
  refine wpAnyH_take (i := 25) (oi := { dst := some 98, op := Op.load 23 (Operand.tmp 6), type := 23, pos := "outright.go:47", after := #[{ on := 15, ground := Ground.guard }], guard := some (15, true) }) (v := ?_) rfl (by kernel_rfl) (by kernel_rfl) (by kernel_rfl) (fun c a w h => hp c _ _ _ w h) (Or.inl ⟨by rfl, ?_⟩) hHeld ?_
  rotate_left
  · (intro w hSw; (try dsimp only at hSw); go_simp; all_goals (try with_reducible rfl))
  try simp only [Act.put, List.setIfInBounds_toArray, List.set_cons_zero, List.set_cons_succ]
  refine wpAnyH_ready (rs := [19, 26]) (by kernel_rfl) (by simp) ?_
  refine AllReadyH.cons (o := { dst := some 92, op := Op.buildSlice 50 2 #[(0, Operand.tmp 90), (1, Operand.tmp 91)], type := 50, pos := "outright.go:47", after := #[{ on := 17, ground := Ground.data }, { on := 18, ground := Ground.data }, { on := 15, ground := Ground.guard }], guard := some (15, true) }) rfl (fun K hK => ?_) ?_
  · go_simp
    obtain ⟨qW5, hX⟩ : ∃ Z, qW4.alloc (.cells #[.int .i64 c, .int .i64 d, .int .i64 e, .int .i64 f] 23) = Z := ⟨_, rfl⟩
    rw [hX]
    have hb : Below qW4.heap.size qW4 qW5 := by rw [← hX]; exact (Below.refl _ qW4).alloc (Nat.le_refl _) _
    have qm5 := qm4.below hb
    have qr5_19 := row_two qW4 c d e f _ rfl
    rw [hX] at qr5_19
    clear hX hb
    refine hK.out _ _ (HK.out _ qm5) (fun hHeld => ?_)
    clear hK K
    try simp only [Act.put, List.setIfInBounds_toArray, List.set_cons_zero, List.set_cons_succ]
    refine wpAnyH_ready (rs := [20, 26]) (by kernel_rfl) (by simp) ?_
    refine AllReadyH.cons (o := { dst := some 93, op := Op.call { callee := Callee.value (Operand.func 22), args := #[Operand.tmp 92], argTypes := #[50] }, type := 23, pos := "outright.go:47", after := #[{ on := 19, ground := Ground.data }, { on := 15, ground := Ground.chain }, { on := 15, ground := Ground.guard }], guard := some (15, true) }) rfl (fun K hK => ?_) ?_
    · go_simp
      refine Calls.mono (join_at2 _ _ c d e f j1 j2 J1.out J2.out qr5_19) ?_
      rintro e qW6 ⟨rfl, hb⟩
      have qm6 := qm5.below hb
      have qr6_19 := qr5_19.stays hb (Nat.le_refl _)
      clear hb
      go_wp2_with fail
      refine hK.out _ _ (HK.out _ qm6) (fun hHeld => ?_)
      clear hK K
      try simp only [Act.put, List.setIfInBounds_toArray, List.set_cons_zero, List.set_cons_succ]
      refine wpAnyH_ready (rs := [21, 26]) (by kernel_rfl) (by simp) ?_
      refine AllReadyH.cons (o := { dst := some 94, op := Op.buildSlice 50 2 #[(0, Operand.tmp 89), (1, Operand.tmp 93)], type := 50, pos := "outright.go:47", after := #[{ on := 16, ground := Ground.data }, { on := 20, ground := Ground.data }, { on := 15, ground := Ground.guard }], guard := some (15, true) }) rfl (fun K hK => ?_) ?_
      · go_simp
        obtain ⟨qW7, hX⟩ : ∃ Z, qW6.alloc (.cells #[.int .i64 a, .int .i64 b, .int .i64 j1, .int .i64 j2] 23) = Z := ⟨_, rfl⟩
        rw [hX]
        have hb : Below qW6.heap.size qW6 qW7 := by rw [← hX]; exact (Below.refl _ qW6).alloc (Nat.le_refl _) _
        have qm7 := qm6.below hb
        have qr7_19 := qr6_19.stays hb (Nat.le_refl _)
        have qr7_21 := row_two qW6 a b j1 j2 _ rfl
        rw [hX] at qr7_21
        clear hX hb
        refine hK.out _ _ (HK.out _ qm7) (fun hHeld => ?_)
        clear hK K
        try simp only [Act.put, List.setIfInBounds_toArray, List.set_cons_zero, List.set_cons_succ]
        refine wpAnyH_ready (rs := [22, 26]) (by kernel_rfl) (by simp) ?_
        refine AllReadyH.cons (o := { dst := some 95, op := Op.call { callee := Callee.value (Operand.func 22), args := #[Operand.tmp 94], argTypes := #[50] }, type := 23, pos := "outright.go:47", after := #[{ on := 21, ground := Ground.data }, { on := 20, ground := Ground.chain }, { on := 15, ground := Ground.guard }], guard := some (15, true) }) rfl (fun K hK => ?_) ?_
        · go_simp
          refine Calls.mono (join_at2 _ _ a b j1 j2 k1 k2 K1.out K2.out qr7_21) ?_
          rintro e qW8 ⟨rfl, hb⟩
          have qm8 := qm7.below hb
          have qr8_19 := qr7_19.stays hb (Nat.le_refl _)
          have qr8_21 := qr7_21.stays hb (Nat.le_refl _)
          clear hb
          go_wp2_with fail
          refine hK.out _ _ (HK.out _ qm8) (fun hHeld => ?_)
          clear hK K
          try simp only [Act.put, List.setIfInBounds_toArray, List.set_cons_zero, List.set_cons_succ]
          refine wpAnyH_ready (rs := [26]) (by kernel_rfl) (by simp) ?_
          refine AllReadyH.cons (o := { dst := some 99, op := Op.buildSlice 50 3 #[(0, Operand.tmp 96), (1, Operand.tmp 97), (2, Operand.tmp 98)], type := 50, pos := "outright.go:47", after := #[{ on := 23, ground := Ground.data }, { on := 24, ground := Ground.data }, { on := 25, ground := Ground.data }, { on := 15, ground := Ground.guard }], guard := some (15, true) }) rfl (fun K hK => ?_) AllReadyH.nil
          go_simp
          obtain ⟨qW9, hX⟩ : ∃ Z, qW8.alloc (.cells #[.int .i64 a, .int .i64 b, .int .i64 c, .int .i64 d, .int .i64 e, .int .i64 f] 23) = Z := ⟨_, rfl⟩
          rw [hX]
          have hb : Below qW8.heap.size qW8 qW9 := by rw [← hX]; exact (Below.refl _ qW8).alloc (Nat.le_refl _) _
          have qm9 := qm8.below hb
          have qr9_19 := qr8_19.stays hb (Nat.le_refl _)
          have qr9_21 := qr8_21.stays hb (Nat.le_refl _)
          have qr9_26 := row_three qW8 a b c d e f _ rfl
          rw [hX] at qr9_26
          clear hX hb
          refine hK.out _ _ (HK.out _ qm9) (fun hHeld => ?_)
          clear hK K
          try simp only [Act.put, List.setIfInBounds_toArray, List.set_cons_zero, List.set_cons_succ]
          refine wpAnyH_ready (rs := [27]) (by kernel_rfl) (by simp) ?_
          refine AllReadyH.cons (o := { dst := some 100, op := Op.call { callee := Callee.value (Operand.func 22), args := #[Operand.tmp 99], argTypes := #[50] }, type := 23, pos := "outright.go:47", after := #[{ on := 26, ground := Ground.data }, { on := 22, ground := Ground.chain }, { on := 15, ground := Ground.guard }], guard := some (15, true) }) rfl (fun K hK => ?_) AllReadyH.nil
          go_simp
          refine Calls.mono (join_at3 _ _ a b c d e f k1 k2 K3.out K4.out qr9_26) ?_
          rintro e qW10 ⟨rfl, hb⟩
          have qm10 := qm9.below hb
          have qr10_19 := qr9_19.stays hb (Nat.le_refl _)
          have qr10_21 := qr9_21.stays hb (Nat.le_refl _)
          have qr10_26 := qr9_26.stays hb (Nat.le_refl _)
          clear hb
          go_wp2_with fail
          refine hK.out _ _ (HK.out _ qm10) (fun hHeld => ?_)
          clear hK K
          try simp only [Act.put, List.setIfInBounds_toArray, List.set_cons_zero, List.set_cons_succ]
          exact seg2 _ _ _ qW4.heap.size qW6.heap.size qW8.heap.size rfl (by decide) qm10
        refine AllReadyH.cons (o := { dst := some 99, op := Op.buildSlice 50 3 #[(0, Operand.tmp 96), (1, Operand.tmp 97), (2, Operand.tmp 98)], type := 50, pos := "outright.go:47", after := #[{ on := 23, ground := Ground.data }, { on := 24, ground := Ground.data }, { on := 25, ground := Ground.data }, { on := 15, ground := Ground.guard }], guard := some (15, true) }) rfl (fun K hK => ?_) AllReadyH.nil
        go_simp
        obtain ⟨qW11, hX⟩ : ∃ Z, qW7.alloc (.cells #[.int .i64 a, .int .i64 b, .int .i64 c, .int .i64 d, .int .i64 e, .int .i64 f] 23) = Z := ⟨_, rfl⟩
        rw [hX]
        have hb : Below qW7.heap.size qW7 qW11 := by rw [← hX]; exact (Below.refl _ qW7).alloc (Nat.le_refl _) _
        have qm11 := qm7.below hb
        have qr11_19 := qr7_19.stays hb (Nat.le_refl _)
        have qr11_21 := qr7_21.stays hb (Nat.le_refl _)
        have qr11_26 := row_three qW7 a b c d e f _ rfl
        rw [hX] at qr11_26
        clear hX hb
        refine hK.out _ _ (HK.out _ qm11) (fun hHeld => ?_)
        clear hK K
        try simp only [Act.put, List.setIfInBounds_toArray, List.set_cons_zero, List.set_cons_succ]
        refine wpAnyH_ready (rs := [22]) (by kernel_rfl) (by simp) ?_
        refine AllReadyH.cons (o := { dst := some 95, op := Op.call { callee := Callee.value (Operand.func 22), args := #[Operand.tmp 94], argTypes := #[50] }, type := 23, pos := "outright.go:47", after := #[{ on := 21, ground := Ground.data }, { on := 20, ground := Ground.chain }, { on := 15, ground := Ground.guard }], guard := some (15, true) }) rfl (fun K hK => ?_) AllReadyH.nil
        go_simp
        refine Calls.mono (join_at2 _ _ a b j1 j2 k1 k2 K1.out K2.out qr11_21) ?_
        rintro e qW12 ⟨rfl, hb⟩
        have qm12 := qm11.below hb
        have qr12_19 := qr11_19.stays hb (Nat.le_refl _)
        have qr12_21 := qr11_21.stays hb (Nat.le_refl _)
        have qr12_26 := qr11_26.stays hb (Nat.le_refl _)
        clear hb
        go_wp2_with fail
        refine hK.out _ _ (HK.out _ qm12) (fun hHeld => ?_)
        clear hK K
        try simp only [Act.put, List.setIfInBounds_toArray, List.set_cons_zero, List.set_cons_succ]
        refine wpAnyH_ready (rs := [27]) (by kernel_rfl) (by simp) ?_
        refine AllReadyH.cons (o := { dst := some 100, op := Op.call { callee := Callee.value (Operand.func 22), args := #[Operand.tmp 99], argTypes := #[50] }, type := 23, pos := "outright.go:47", after := #[{ on := 26, ground := Ground.data }, { on := 22, ground := Ground.chain }, { on := 15, ground := Ground.guard }], guard := some (15, true) }) rfl (fun K hK => ?_) AllReadyH.nil
        go_simp
        refine Calls.mono (join_at3 _ _ a b c d e f k1 k2 K3.out K4.out qr12_26) ?_
        rintro e qW13 ⟨rfl, hb⟩
        have qm13 := qm12.below hb
        have qr13_19 := qr12_19.stays hb (Nat.le_refl _)
        have qr13_21 := qr12_21.stays hb (Nat.le_refl _)
        have qr13_26 := qr12_26.stays hb (Nat.le_refl _)
        clear hb
        go_wp2_with fail
        refine hK.out _ _ (HK.out _ qm13) (fun hHeld => ?_)
        clear hK K
        try simp only [Act.put, List.setIfInBounds_toArray, List.set_cons_zero, List.set_cons_succ]
        exact seg2 _ _ _ qW4.heap.size qW6.heap.size qW7.heap.size rfl (by decide) qm13
      refine AllReadyH.cons (o := { dst := some 99, op := Op.buildSlice 50 3 #[(0, Operand.tmp 96), (1, Operand.tmp 97), (2, Operand.tmp 98)], type := 50, pos := "outright.go:47", after := #[{ on := 23, ground := Ground.data }, { on := 24, ground := Ground.data }, { on := 25, ground := Ground.data }, { on := 15, ground := Ground.guard }], guard := some (15, true) }) rfl (fun K hK => ?_) AllReadyH.nil
      go_simp
      obtain ⟨qW14, hX⟩ : ∃ Z, qW6.alloc (.cells #[.int .i64 a, .int .i64 b, .int .i64 c, .int .i64 d, .int .i64 e, .int .i64 f] 23) = Z := ⟨_, rfl⟩
      rw [hX]
      have hb : Below qW6.heap.size qW6 qW14 := by rw [← hX]; exact (Below.refl _ qW6).alloc (Nat.le_refl _) _
      have qm14 := qm6.below hb
      have qr14_19 := qr6_19.stays hb (Nat.le_refl _)
      have qr14_26 := row_three qW6 a b c d e f _ rfl
      rw [hX] at qr14_26
      clear hX hb
      refine hK.out _ _ (HK.out _ qm14) (fun hHeld => ?_)
      clear hK K
      try simp only [Act.put, List.setIfInBounds_toArray, List.set_cons_zero, List.set_cons_succ]
      refine wpAnyH_ready (rs := [21]) (by kernel_rfl) (by simp) ?_
      refine AllReadyH.cons (o := { dst := some 94, op := Op.buildSlice 50 2 #[(0, Operand.tmp 89), (1, Operand.tmp 93)], type := 50, pos := "outright.go:47", after := #[{ on := 16, ground := Ground.data }, { on := 20, ground := Ground.data }, { on := 15, ground := Ground.guard }], guard := some (15, true) }) rfl (fun K hK => ?_) AllReadyH.nil
      go_simp
      obtain ⟨qW15, hX⟩ : ∃ Z, qW14.alloc (.cells #[.int .i64 a, .int .i64 b, .int .i64 j1, .int .i64 j2] 23) = Z := ⟨_, rfl⟩
      rw [hX]
      have hb : Below qW14.heap.size qW14 qW15 := by rw [← hX]; exact (Below.refl _ qW14).alloc (Nat.le_refl _) _
      have qm15 := qm14.below hb
      have qr15_19 := qr14_19.stays hb (Nat.le_refl _)
      have qr15_26 := qr14_26.stays hb (Nat.le_refl _)
      have qr15_21 := row_two qW14 a b j1 j2 _ rfl
      rw [hX] at qr15_21
      clear hX hb
      refine hK.out _ _ (HK.out _ qm15) (fun hHeld => ?_)
      clear hK K
      try simp only [Act.put, List.setIfInBounds_toArray, List.set_cons_zero, List.set_cons_succ]
      refine wpAnyH_ready (rs := [22]) (by kernel_rfl) (by simp) ?_
      refine AllReadyH.cons (o := { dst := some 95, op := Op.call { callee := Callee.value (Operand.func 22), args := #[Operand.tmp 94], argTypes := #[50] }, type := 23, pos := "outright.go:47", after := #[{ on := 21, ground := Ground.data }, { on := 20, ground := Ground.chain }, { on := 15, ground := Ground.guard }], guard := some (15, true) }) rfl (fun K hK => ?_) AllReadyH.nil
      go_simp
      refine Calls.mono (join_at2 _ _ a b j1 j2 k1 k2 K1.out K2.out qr15_21) ?_
      rintro e qW16 ⟨rfl, hb⟩
      have qm16 := qm15.below hb
      have qr16_19 := qr15_19.stays hb (Nat.le_refl _)
      have qr16_26 := qr15_26.stays hb (Nat.le_refl _)
      have qr16_21 := qr15_21.stays hb (Nat.le_refl _)
      clear hb
      go_wp2_with fail
      refine hK.out _ _ (HK.out _ qm16) (fun hHeld => ?_)
      clear hK K
      try simp only [Act.put, List.setIfInBounds_toArray, List.set_cons_zero, List.set_cons_succ]
      refine wpAnyH_ready (rs := [27]) (by kernel_rfl) (by simp) ?_
      refine AllReadyH.cons (o := { dst := some 100, op := Op.call { callee := Callee.value (Operand.func 22), args := #[Operand.tmp 99], argTypes := #[50] }, type := 23, pos := "outright.go:47", after := #[{ on := 26, ground := Ground.data }, { on := 22, ground := Ground.chain }, { on := 15, ground := Ground.guard }], guard := some (15, true) }) rfl (fun K hK => ?_) AllReadyH.nil
      go_simp
      refine Calls.mono (join_at3 _ _ a b c d e f k1 k2 K3.out K4.out qr16_26) ?_
      rintro e qW17 ⟨rfl, hb⟩
      have qm17 := qm16.below hb
      have qr17_19 := qr16_19.stays hb (Nat.le_refl _)
      have qr17_26 := qr16_26.stays hb (Nat.le_refl _)
      have qr17_21 := qr16_21.stays hb (Nat.le_refl _)
      clear hb
      go_wp2_with fail
      refine hK.out _ _ (HK.out _ qm17) (fun hHeld => ?_)
      clear hK K
      try simp only [Act.put, List.setIfInBounds_toArray, List.set_cons_zero, List.set_cons_succ]
      exact seg2 _ _ _ qW4.heap.size qW14.heap.size qW6.heap.size rfl (by decide) qm17
    refine AllReadyH.cons (o := { dst := some 99, op := Op.buildSlice 50 3 #[(0, Operand.tmp 96), (1, Operand.tmp 97), (2, Operand.tmp 98)], type := 50, pos := "outright.go:47", after := #[{ on := 23, ground := Ground.data }, { on := 24, ground := Ground.data }, { on := 25, ground := Ground.data }, { on := 15, ground := Ground.guard }], guard := some (15, true) }) rfl (fun K hK => ?_) AllReadyH.nil
    go_simp
    obtain ⟨qW18, hX⟩ : ∃ Z, qW5.alloc (.cells #[.int .i64 a, .int .i64 b, .int .i64 c, .int .i64 d, .int .i64 e, .int .i64 f] 23) = Z := ⟨_, rfl⟩
    rw [hX]
    have hb : Below qW5.heap.size qW5 qW18 := by rw [← hX]; exact (Below.refl _ qW5).alloc (Nat.le_refl _) _
    have qm18 := qm5.below hb
    have qr18_19 := qr5_19.stays hb (Nat.le_refl _)
    have qr18_26 := row_three qW5 a b c d e f _ rfl
    rw [hX] at qr18_26
    clear hX hb
    refine hK.out _ _ (HK.out _ qm18) (fun hHeld => ?_)
    clear hK K
    try simp only [Act.put, List.setIfInBounds_toArray, List.set_cons_zero, List.set_cons_succ]
    refine wpAnyH_ready (rs := [20]) (by kernel_rfl) (by simp) ?_
    refine AllReadyH.cons (o := { dst := some 93, op := Op.call { callee := Callee.value (Operand.func 22), args := #[Operand.tmp 92], argTypes := #[50] }, type := 23, pos := "outright.go:47", after := #[{ on := 19, ground := Ground.data }, { on := 15, ground := Ground.chain }, { on := 15, ground := Ground.guard }], guard := some (15, true) }) rfl (fun K hK => ?_) AllReadyH.nil
    go_simp
    refine Calls.mono (join_at2 _ _ c d e f j1 j2 J1.out J2.out qr18_19) ?_
    rintro e qW19 ⟨rfl, hb⟩
    have qm19 := qm18.below hb
    have qr19_19 := qr18_19.stays hb (Nat.le_refl _)
    have qr19_26 := qr18_26.stays hb (Nat.le_refl _)
    clear hb
    go_wp2_with fail
    refine hK.out _ _ (HK.out _ qm19) (fun hHeld => ?_)
    clear hK K
    try simp only [Act.put, List.setIfInBounds_toArray, List.set_cons_zero, List.set_cons_succ]
    refine wpAnyH_ready (rs := [21]) (by kernel_rfl) (by simp) ?_
    refine AllReadyH.cons (o := { dst := some 94, op := Op.buildSlice 50 2 #[(0, Operand.tmp 89), (1, Operand.tmp 93)], type := 50, pos := "outright.go:47", after := #[{ on := 16, ground := Ground.data }, { on := 20, ground := Ground.data }, { on := 15, ground := Ground.guard }], guard := some (15, true) }) rfl (fun K hK => ?_) AllReadyH.nil
    go_simp
    obtain ⟨qW20, hX⟩ : ∃ Z, qW19.alloc (.cells #[.int .i64 a, .int .i64 b, .int .i64 j1, .int .i64 j2] 23) = Z := ⟨_, rfl⟩
    rw [hX]
    have hb : Below qW19.heap.size qW19 qW20 := by rw [← hX]; exact (Below.refl _ qW19).alloc (Nat.le_refl _) _
    have qm20 := qm19.below hb
    have qr20_19 := qr19_19.stays hb (Nat.le_refl _)
    have qr20_26 := qr19_26.stays hb (Nat.le_refl _)
    have qr20_21 := row_two qW19 a b j1 j2 _ rfl
    rw [hX] at qr20_21
    clear hX hb
    refine hK.out _ _ (HK.out _ qm20) (fun hHeld => ?_)
    clear hK K
    try simp only [Act.put, List.setIfInBounds_toArray, List.set_cons_zero, List.set_cons_succ]
    refine wpAnyH_ready (rs := [22]) (by kernel_rfl) (by simp) ?_
    refine AllReadyH.cons (o := { dst := some 95, op := Op.call { callee := Callee.value (Operand.func 22), args := #[Operand.tmp 94], argTypes := #[50] }, type := 23, pos := "outright.go:47", after := #[{ on := 21, ground := Ground.data }, { on := 20, ground := Ground.chain }, { on := 15, ground := Ground.guard }], guard := some (15, true) }) rfl (fun K hK => ?_) AllReadyH.nil
    go_simp
    refine Calls.mono (join_at2 _ _ a b j1 j2 k1 k2 K1.out K2.out qr20_21) ?_
    rintro e qW21 ⟨rfl, hb⟩
    have qm21 := qm20.below hb
    have qr21_19 := qr20_19.stays hb (Nat.le_refl _)
    have qr21_26 := qr20_26.stays hb (Nat.le_refl _)
    have qr21_21 := qr20_21.stays hb (Nat.le_refl _)
    clear hb
    go_wp2_with fail
    refine hK.out _ _ (HK.out _ qm21) (fun hHeld => ?_)
    clear hK K
    try simp only [Act.put, List.setIfInBounds_toArray, List.set_cons_zero, List.set_cons_succ]
    refine wpAnyH_ready (rs := [27]) (by kernel_rfl) (by simp) ?_
    refine AllReadyH.cons (o := { dst := some 100, op := Op.call { callee := Callee.value (Operand.func 22), args := #[Operand.tmp 99], argTypes := #[50] }, type := 23, pos := "outright.go:47", after := #[{ on := 26, ground := Ground.data }, { on := 22, ground := Ground.chain }, { on := 15, ground := Ground.guard }], guard := some (15, true) }) rfl (fun K hK => ?_) AllReadyH.nil
    go_simp
    refine Calls.mono (join_at3 _ _ a b c d e f k1 k2 K3.out K4.out qr21_26) ?_
    rintro e qW22 ⟨rfl, hb⟩
    have qm22 := qm21.below hb
    have qr22_19 := qr21_19.stays hb (Nat.le_refl _)
    have qr22_26 := qr21_26.stays hb (Nat.le_refl _)
    have qr22_21 := qr21_21.stays hb (Nat.le_refl _)
    clear hb
    go_wp2_with fail
    refine hK.out _ _ (HK.out _ qm22) (fun hHeld => ?_)
    clear hK K
    try simp only [Act.put, List.setIfInBounds_toArray, List.set_cons_zero, List.set_cons_succ]
    exact seg2 _ _ _ qW4.heap.size qW19.heap.size qW5.heap.size rfl (by decide) qm22
  refine AllReadyH.cons (o := { dst := some 99, op := Op.buildSlice 50 3 #[(0, Operand.tmp 96), (1, Operand.tmp 97), (2, Operand.tmp 98)], type := 50, pos := "outright.go:47", after := #[{ on := 23, ground := Ground.data }, { on := 24, ground := Ground.data }, { on := 25, ground := Ground.data }, { on := 15, ground := Ground.guard }], guard := some (15, true) }) rfl (fun K hK => ?_) AllReadyH.nil
  go_simp
  obtain ⟨qW23, hX⟩ : ∃ Z, qW4.alloc (.cells #[.int .i64 a, .int .i64 b, .int .i64 c, .int .i64 d, .int .i64 e, .int .i64 f] 23) = Z := ⟨_, rfl⟩
  rw [hX]
  have hb : Below qW4.heap.size qW4 qW23 := by rw [← hX]; exact (Below.refl _ qW4).alloc (Nat.le_refl _) _
  have qm23 := qm4.below hb
  have qr23_26 := row_three qW4 a b c d e f _ rfl
  rw [hX] at qr23_26
  clear hX hb
  refine hK.out _ _ (HK.out _ qm23) (fun hHeld => ?_)
  clear hK K
  try simp only [Act.put, List.setIfInBounds_toArray, List.set_cons_zero, List.set_cons_succ]
  refine wpAnyH_ready (rs := [19]) (by kernel_rfl) (by simp) ?_
  refine AllReadyH.cons (o := { dst := some 92, op := Op.buildSlice 50 2 #[(0, Operand.tmp 90), (1, Operand.tmp 91)], type := 50, pos := "outright.go:47", after := #[{ on := 17, ground := Ground.data }, { on := 18, ground := Ground.data }, { on := 15, ground := Ground.guard }], guard := some (15, true) }) rfl (fun K hK => ?_) AllReadyH.nil
  go_simp
  obtain ⟨qW24, hX⟩ : ∃ Z, qW23.alloc (.cells #[.int .i64 c, .int .i64 d, .int .i64 e, .int .i64 f] 23) = Z := ⟨_, rfl⟩
  rw [hX]
  have hb : Below qW23.heap.size qW23 qW24 := by rw [← hX]; exact (Below.refl _ qW23).alloc (Nat.le_refl _) _
  have qm24 := qm23.below hb
  have qr24_26 := qr23_26.stays hb (Nat.le_refl _)
  have qr24_19 := row_two qW23 c d e f _ rfl
  rw [hX] at qr24_19
  clear hX hb
  refine hK.out _ _ (HK.out _ qm24) (fun hHeld => ?_)
  clear hK K
  try simp only [Act.put, List.setIfInBounds_toArray, List.set_cons_zero, List.set_cons_succ]
  refine wpAnyH_ready (rs := [20]) (by kernel_rfl) (by simp) ?_
  refine AllReadyH.cons (o := { dst := some 93, op := Op.call { callee := Callee.value (Operand.func 22), args := #[Operand.tmp 92], argTypes := #[50] }, type := 23, pos := "outright.go:47", after := #[{ on := 19, ground := Ground.data }, { on := 15, ground := Ground.chain }, { on := 15, ground := Ground.guard }], guard := some (15, true) }) rfl (fun K hK => ?_) AllReadyH.nil
  go_simp
  refine Calls.mono (join_at2 _ _ c d e f j1 j2 J1.out J2.out qr24_19) ?_
  rintro e qW25 ⟨rfl, hb⟩
  have qm25 := qm24.below hb
  have qr25_26 := qr24_26.stays hb (Nat.le_refl _)
  have qr25_19 := qr24_19.stays hb (Nat.le_refl _)
  clear hb
  go_wp2_with fail
  refine hK.out _ _ (HK.out _ qm25) (fun hHeld => ?_)
  clear hK K
  try simp only [Act.put, List.setIfInBounds_toArray, List.set_cons_zero, List.set_cons_succ]
  refine wpAnyH_ready (rs := [21]) (by kernel_rfl) (by simp) ?_
  refine AllReadyH.cons (o := { dst := some 94, op := Op.buildSlice 50 2 #[(0, Operand.tmp 89), (1, Operand.tmp 93)], type := 50, pos := "outright.go:47", after := #[{ on := 16, ground := Ground.data }, { on := 20, ground := Ground.data }, { on := 15, ground := Ground.guard }], guard := some (15, true) }) rfl (fun K hK => ?_) AllReadyH.nil
  go_simp
  obtain ⟨qW26, hX⟩ : ∃ Z, qW25.alloc (.cells #[.int .i64 a, .int .i64 b, .int .i64 j1, .int .i64 j2] 23) = Z := ⟨_, rfl⟩
  rw [hX]
  have hb : Below qW25.heap.size qW25 qW26 := by rw [← hX]; exact (Below.refl _ qW25).alloc (Nat.le_refl _) _
  have qm26 := qm25.below hb
  have qr26_26 := qr25_26.stays hb (Nat.le_refl _)
  have qr26_19 := qr25_19.stays hb (Nat.le_refl _)
  have qr26_21 := row_two qW25 a b j1 j2 _ rfl
  rw [hX] at qr26_21
  clear hX hb
  refine hK.out _ _ (HK.out _ qm26) (fun hHeld => ?_)
  clear hK K
  try simp only [Act.put, List.setIfInBounds_toArray, List.set_cons_zero, List.set_cons_succ]
  refine wpAnyH_ready (rs := [22]) (by kernel_rfl) (by simp) ?_
  refine AllReadyH.cons (o := { dst := some 95, op := Op.call { callee := Callee.value (Operand.func 22), args := #[Operand.tmp 94], argTypes := #[50] }, type := 23, pos := "outright.go:47", after := #[{ on := 21, ground := Ground.data }, { on := 20, ground := Ground.chain }, { on := 15, ground := Ground.guard }], guard := some (15, true) }) rfl (fun K hK => ?_) AllReadyH.nil
  go_simp
  refine Calls.mono (join_at2 _ _ a b j1 j2 k1 k2 K1.out K2.out qr26_21) ?_
  rintro e qW27 ⟨rfl, hb⟩
  have qm27 := qm26.below hb
  have qr27_26 := qr26_26.stays hb (Nat.le_refl _)
  have qr27_19 := qr26_19.stays hb (Nat.le_refl _)
  have qr27_21 := qr26_21.stays hb (Nat.le_refl _)
  clear hb
  go_wp2_with fail
  refine hK.out _ _ (HK.out _ qm27) (fun hHeld => ?_)
  clear hK K
  try simp only [Act.put, List.setIfInBounds_toArray, List.set_cons_zero, List.set_cons_succ]
  refine wpAnyH_ready (rs := [27]) (by kernel_rfl) (by simp) ?_
  refine AllReadyH.cons (o := { dst := some 100, op := Op.call { callee := Callee.value (Operand.func 22), args := #[Operand.tmp 99], argTypes := #[50] }, type := 23, pos := "outright.go:47", after := #[{ on := 26, ground := Ground.data }, { on := 22, ground := Ground.chain }, { on := 15, ground := Ground.guard }], guard := some (15, true) }) rfl (fun K hK => ?_) AllReadyH.nil
  go_simp
  refine Calls.mono (join_at3 _ _ a b c d e f k1 k2 K3.out K4.out qr27_26) ?_
  rintro e qW28 ⟨rfl, hb⟩
  have qm28 := qm27.below hb
  have qr28_26 := qr27_26.stays hb (Nat.le_refl _)
  have qr28_19 := qr27_19.stays hb (Nat.le_refl _)
  have qr28_21 := qr27_21.stays hb (Nat.le_refl _)
  clear hb
  go_wp2_with fail
  refine hK.out _ _ (HK.out _ qm28) (fun hHeld => ?_)
  clear hK K
  try simp only [Act.put, List.setIfInBounds_toArray, List.set_cons_zero, List.set_cons_succ]
  exact seg2 _ _ _ qW23.heap.size qW25.heap.size qW4.heap.size rfl (by decide) qm28
end Go.Proofs.Ythnhlgiibiephab
