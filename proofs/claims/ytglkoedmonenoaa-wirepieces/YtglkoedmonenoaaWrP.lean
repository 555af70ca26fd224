/- Wire's Next. Conditions: how many bytes there are. -/
import Derived.Test.YtglkoedmonenoaaWrO
import Derived.Deep.RegionHeld3
namespace Go.Proofs.Ytglkoedmonenoaa
open Go.RowKit
set_option linter.unusedVariables false
set_option maxRecDepth 100000

/-- A frame that was got, or none: its parts. -/
def GotV (b : Nat) (w' : World) (l : List UInt8) (k fr t N E : Int) (ga : Option Addr) (gn : Nat) (s : ByteArray) : Prop :=
  E = readE l ∧ ((E ≠ 0 ∧ k = 0 ∧ fr = 0 ∧ t = 0 ∧ ga = none ∧ gn = 0 ∧ s = ⟨#[]⟩ ∧ N = 0) ∨
    (E = 0 ∧ k = (readF l).k ∧ fr = (readF l).fr ∧ t = (readF l).t ∧ gn = (readF l).zs.length ∧ s = ⟨(readF l).d.toArray⟩ ∧ N = readN l ∧ ∃ g, ga = some ⟨g, 0, none⟩ ∧ IntRow w' ga (readF l).zs ∧ ZeroRow w' g gn ∧ b ≤ g))
theorem GotV.lower {b b' : Nat} {w' : World} {l : List UInt8} {k fr t N E : Int} {ga : Option Addr} {gn : Nat} {s : ByteArray} (h : GotV b w' l k fr t N E ga gn s) (hb : b' ≤ b) : GotV b' w' l k fr t N E ga gn s := by
  obtain ⟨h1, h2 | ⟨q1, q2, q3, q4, q5, q6, q7, g, q8, q9, q10, q11⟩⟩ := h
  · exact ⟨h1, .inl h2⟩
  · exact ⟨h1, .inr ⟨q1, q2, q3, q4, q5, q6, q7, g, q8, q9, q10, by omega⟩⟩
theorem GotV.mod {b : Nat} {w' w2 : World} {l : List UInt8} {k fr t N E : Int} {ga : Option Addr} {gn : Nat} {s : ByteArray} {S : List Nat} (h : GotV b w' l k fr t N E ga gn s) (m : Mod S w' w2) (hS : ∀ a, ga = some a → a.block ∉ S) : GotV b w2 l k fr t N E ga gn s := by
  obtain ⟨h1, h2 | ⟨q1, q2, q3, q4, q5, q6, q7, g, q8, q9, q10, q11⟩⟩ := h
  · exact ⟨h1, .inl h2⟩
  · exact ⟨h1, .inr ⟨q1, q2, q3, q4, q5, q6, q7, g, q8, q9.mod m (fun x hx => hS x hx), q10.mod m (hS _ q8), q11⟩⟩
theorem GotV.below {b : Nat} {w' w2 : World} {l : List UInt8} {k fr t N E : Int} {ga : Option Addr} {gn : Nat} {s : ByteArray} (h : GotV b w' l k fr t N E ga gn s) (m : Below w'.heap.size w' w2) : GotV b w2 l k fr t N E ga gn s :=
  h.mod (S := []) (Mod.of_below m) (by simp)
theorem GotV.lt {b : Nat} {w' : World} {l : List UInt8} {k fr t N E : Int} {ga : Option Addr} {gn : Nat} {s : ByteArray} (h : GotV b w' l k fr t N E ga gn s) : ∀ a, ga = some a → b ≤ a.block ∧ a.block < w'.heap.size := by
  intro a e
  obtain ⟨_, h2 | ⟨_, _, _, _, _, _, _, g, q8, _, q10, q11⟩⟩ := h
  · rw [h2.2.2.2.2.1] at e; cases e
  · rw [q8] at e; cases e; exact ⟨q11, q10.lt⟩
theorem read_v {w : World} {a : Option Addr} {cap : Nat} {l : List UInt8} (h : BS w a cap l) (n : Nat) (hn : n = l.length) (hl : l.length ≤ maxLen) :
    Calls Try.prog 18 #[.slice a n cap] w fun e w' => ∃ k fr t N E ga gn s, e = .returned (.tuple #[.agg #[.int .i64 k, .int .i64 fr, .int .i64 t, .slice ga gn gn, .string s], .int .i64 N, .int .i64 E]) ∧ GotV w.heap.size w' l k fr t N E ga gn s ∧ Below w.heap.size w w' := by
  refine Calls.mono (read_any h n hn hl) ?_
  rintro e w' ⟨v, rfl, hG, hb⟩
  rcases hG with ⟨h1, rfl⟩ | ⟨h1, g, rfl, h2, h3, h4⟩
  · exact ⟨0, 0, 0, 0, readE l, none, 0, ⟨#[]⟩, rfl, ⟨rfl, .inl ⟨h1, rfl, rfl, rfl, rfl, rfl, rfl, rfl⟩⟩, hb⟩
  · exact ⟨_, _, _, readN l, 0, some ⟨g, 0, none⟩, _, _, rfl, ⟨h1.symm, .inr ⟨rfl, rfl, rfl, rfl, rfl, rfl, rfl, g, rfl, h2, h3, h4⟩⟩, hb⟩
/-- The region of 'f, n, e := read(r.held[r.gone:])', in whatever order. -/
@[reducible] def nextOps : Array Oper := #[{ dst := some 11, op := Op.move (Operand.tmp 0), type := 38, pos := "reader.go:31", after := #[], guard := none }, { dst := some 12, op := Op.nilCheck (Operand.tmp 11), type := 0, pos := "reader.go:31", after := #[{ on := 0, ground := Ground.data }], guard := none }, { dst := some 13, op := Op.fieldAddr 40 (Operand.tmp 12) 0, type := 0, pos := "reader.go:31", after := #[{ on := 1, ground := Ground.data }], guard := none }, { dst := some 14, op := Op.load 35 (Operand.tmp 13), type := 35, pos := "reader.go:31", after := #[{ on := 2, ground := Ground.data }], guard := none }, { dst := some 15, op := Op.move (Operand.tmp 0), type := 38, pos := "reader.go:31", after := #[], guard := none }, { dst := some 16, op := Op.nilCheck (Operand.tmp 15), type := 0, pos := "reader.go:31", after := #[{ on := 4, ground := Ground.data }], guard := none }, { dst := some 17, op := Op.fieldAddr 40 (Operand.tmp 16) 1, type := 0, pos := "reader.go:31", after := #[{ on := 5, ground := Ground.data }], guard := none }, { dst := some 18, op := Op.load 3 (Operand.tmp 17), type := 3, pos := "reader.go:31", after := #[{ on := 6, ground := Ground.data }], guard := none }, { dst := some 19, op := Op.slice 35 (Operand.tmp 14) (some (Operand.tmp 18)) none none, type := 35, pos := "reader.go:31", after := #[{ on := 3, ground := Ground.data }, { on := 7, ground := Ground.data }], guard := none }, { dst := some 20, op := Op.call { callee := Callee.value (Operand.func 18), args := #[Operand.tmp 19], argTypes := #[35] }, type := 32, pos := "reader.go:31", after := #[{ on := 8, ground := Ground.data }], guard := none }, { dst := some 10, op := Op.move (Operand.tmp 20), type := 32, pos := "reader.go:31", after := #[{ on := 9, ground := Ground.data }], guard := none }, { dst := some 21, op := Op.extract (Operand.tmp 10) 0, type := 26, pos := "reader.go:31", after := #[{ on := 10, ground := Ground.data }], guard := none }, { dst := some 22, op := Op.extract (Operand.tmp 10) 1, type := 3, pos := "reader.go:31", after := #[{ on := 10, ground := Ground.data }, { on := 15, ground := Ground.gcOnly Departure.lateStores }], guard := none }, { dst := some 23, op := Op.extract (Operand.tmp 10) 2, type := 28, pos := "reader.go:31", after := #[{ on := 10, ground := Ground.data }, { on := 16, ground := Ground.gcOnly Departure.lateStores }], guard := none }, { dst := some 4, op := Op.alloc 26, type := 0, pos := "reader.go:31", after := #[], guard := none }, { dst := none, op := Op.store 26 (Operand.tmp 4) (Operand.tmp 21), type := 0, pos := "reader.go:31", after := #[{ on := 14, ground := Ground.data }, { on := 11, ground := Ground.data }, { on := 9, ground := Ground.chain }, { on := 0, ground := Ground.phase }, { on := 1, ground := Ground.phase }, { on := 2, ground := Ground.phase }, { on := 3, ground := Ground.phase }, { on := 4, ground := Ground.phase }, { on := 5, ground := Ground.phase }, { on := 6, ground := Ground.phase }, { on := 7, ground := Ground.phase }, { on := 8, ground := Ground.phase }, { on := 9, ground := Ground.phase }, { on := 10, ground := Ground.phase }, { on := 11, ground := Ground.phase }, { on := 12, ground := Ground.textOnly Departure.lateStores }, { on := 13, ground := Ground.textOnly Departure.lateStores }, { on := 14, ground := Ground.phase }], guard := none }, { dst := some 5, op := Op.assign (Operand.tmp 22), type := 3, pos := "reader.go:31", after := #[{ on := 12, ground := Ground.data }, { on := 15, ground := Ground.chain }, { on := 0, ground := Ground.phase }, { on := 1, ground := Ground.phase }, { on := 2, ground := Ground.phase }, { on := 3, ground := Ground.phase }, { on := 4, ground := Ground.phase }, { on := 5, ground := Ground.phase }, { on := 6, ground := Ground.phase }, { on := 7, ground := Ground.phase }, { on := 8, ground := Ground.phase }, { on := 9, ground := Ground.phase }, { on := 10, ground := Ground.phase }, { on := 11, ground := Ground.phase }, { on := 12, ground := Ground.phase }, { on := 13, ground := Ground.textOnly Departure.lateStores }, { on := 14, ground := Ground.phase }, { on := 15, ground := Ground.phase }], guard := none }, { dst := some 6, op := Op.assign (Operand.tmp 23), type := 28, pos := "reader.go:31", after := #[{ on := 13, ground := Ground.data }, { on := 16, ground := Ground.chain }, { on := 0, ground := Ground.phase }, { on := 1, ground := Ground.phase }, { on := 2, ground := Ground.phase }, { on := 3, ground := Ground.phase }, { on := 4, ground := Ground.phase }, { on := 5, ground := Ground.phase }, { on := 6, ground := Ground.phase }, { on := 7, ground := Ground.phase }, { on := 8, ground := Ground.phase }, { on := 9, ground := Ground.phase }, { on := 10, ground := Ground.phase }, { on := 11, ground := Ground.phase }, { on := 12, ground := Ground.phase }, { on := 13, ground := Ground.phase }, { on := 14, ground := Ground.phase }, { on := 15, ground := Ground.phase }, { on := 16, ground := Ground.phase }], guard := none }]
set_option maxHeartbeats 4000000 in
theorem next_tail (W : World) (r hl cap ml mc : Nat) (G : Int) (a a2 : Option Addr) (l : List UInt8) (t1 t2 t3 t4 t5 t6 t7 t8 t9 t10 t11 t12 t13 t14 t15 t16 t17 t18 t19 t20 t21 t22 t23 t24 t25 t26 t27 t28 t29 t30 t31 t32 t33 t34 t35 t36 t37 t38 t39 t40 t41 t42 t43 t44 : Value) (Q : Exit → Act → World → Prop)
    (h0 : W.cell? ⟨r, 0, none⟩ = some (.slice a hl cap)) (h1 : W.cell? ⟨r, 1, none⟩ = some (.int .i64 G))
    (hsl : ∀ X, (Instr.slice 35 (.slice a hl cap) (some (.int .i64 G)) none none).run Try.prog X = .ok (.slice a2 ml mc) X)
    (hrd : ∀ X, Below W.heap.size W X → Calls Try.prog 18 #[.slice a2 ml mc] X fun e X' => ∃ k fr t N E ga gn s, e = .returned (.tuple #[.agg #[.int .i64 k, .int .i64 fr, .int .i64 t, .slice ga gn gn, .string s], .int .i64 N, .int .i64 E]) ∧ GotV X.heap.size X' l k fr t N E ga gn s ∧ Below X.heap.size X X')
    (hp : ∀ c a (dd : Option Tmp) vv w, Q (.panic c) (a.put dd vv) w → Q (.panic c) a w)
    (hfin : ∀ (X : World) (x : Nat) (k fr t N E : Int) (ga : Option Addr) (gn : Nat) (s : ByteArray) (hB : Below W.heap.size W X) (hx : FrAt X x k fr t (.slice ga gn gn) (.string s)) (hG : GotV W.heap.size X l k fr t N E ga gn s) (hlo : W.heap.size ≤ x), Q .normal { tmps := #[Value.pointer (some ⟨r, 0, none⟩), t1, t2, t3, Value.pointer (some ⟨x, 0, none⟩), Value.int .i64 N, Value.int .i64 E, t7, t8, t9, Value.tuple #[.agg #[.int .i64 k, .int .i64 fr, .int .i64 t, .slice ga gn gn, .string s], .int .i64 N, .int .i64 E], Value.pointer (some ⟨r, 0, none⟩), Value.pointer (some ⟨r, 0, none⟩), Value.pointer (some ⟨r, 0, none⟩), Value.slice a hl cap, Value.pointer (some ⟨r, 0, none⟩), Value.pointer (some ⟨r, 0, none⟩), Value.pointer (some ⟨r, 1, none⟩), Value.int .i64 G, Value.slice a2 ml mc, Value.tuple #[.agg #[.int .i64 k, .int .i64 fr, .int .i64 t, .slice ga gn gn, .string s], .int .i64 N, .int .i64 E], Value.agg #[.int .i64 k, .int .i64 fr, .int .i64 t, .slice ga gn gn, .string s], Value.int .i64 N, Value.int .i64 E, t24, t25, t26, t27, t28, t29, t30, t31, t32, t33, t34, t35, t36, t37, t38, t39, t40, t41, t42, t43, t44], defers := [] } X) :
    Code.wp Try.prog (Code.region 3 nextOps true) Q { tmps := #[Value.pointer (some ⟨r, 0, none⟩), t1, t2, t3, t4, t5, t6, t7, t8, t9, t10, t11, t12, t13, t14, t15, t16, t17, t18, t19, t20, t21, t22, t23, t24, t25, t26, t27, t28, t29, t30, t31, t32, t33, t34, t35, t36, t37, t38, t39, t40, t41, t42, t43, t44], defers := [] } W := by
  obtain ⟨W0, hW0⟩ : ∃ Z, W.drew = Z := ⟨_, rfl⟩
  have hsz : W0.heap.size = W.heap.size := by rw [← hW0]; rfl
  have D0 : Below W.heap.size W W0 := by rw [← hW0]; exact (Below.refl _ _).drew
  have tr : ∀ X, Below W0.heap.size W0 X → Below W.heap.size W X := fun X h => D0.trans (by rw [← hsz]; exact h)
  have hC0 : ∀ X, Below W0.heap.size W0 X → X.cell? ⟨r, 0, none⟩ = some (.slice a hl cap) := fun X h => (Mod.of_below (S := []) (tr X h)).cell h0 (by simp)
  have hC1 : ∀ X, Below W0.heap.size W0 X → X.cell? ⟨r, 1, none⟩ = some (.int .i64 G) := fun X h => (Mod.of_below (S := []) (tr X h)).cell h1 (by simp)
  have hRd : Hid (∀ X, Below W0.heap.size W0 X → Calls Try.prog 18 #[.slice a2 ml mc] X fun e X' => ∃ k fr t N E ga gn s, e = .returned (.tuple #[.agg #[.int .i64 k, .int .i64 fr, .int .i64 t, .slice ga gn gn, .string s], .int .i64 N, .int .i64 E]) ∧ GotV X.heap.size X' l k fr t N E ga gn s ∧ Below X.heap.size X X') := fun X h => hrd X (tr X h)
  have hfin : Hid (∀ (X : World) (x : Nat) (k fr t N E : Int) (ga : Option Addr) (gn : Nat) (s : ByteArray) (hB : Below W0.heap.size W0 X) (hx : FrAt X x k fr t (.slice ga gn gn) (.string s)) (hG : GotV W0.heap.size X l k fr t N E ga gn s) (hlo : W0.heap.size ≤ x), Q .normal { tmps := #[Value.pointer (some ⟨r, 0, none⟩), t1, t2, t3, Value.pointer (some ⟨x, 0, none⟩), Value.int .i64 N, Value.int .i64 E, t7, t8, t9, Value.tuple #[.agg #[.int .i64 k, .int .i64 fr, .int .i64 t, .slice ga gn gn, .string s], .int .i64 N, .int .i64 E], Value.pointer (some ⟨r, 0, none⟩), Value.pointer (some ⟨r, 0, none⟩), Value.pointer (some ⟨r, 0, none⟩), Value.slice a hl cap, Value.pointer (some ⟨r, 0, none⟩), Value.pointer (some ⟨r, 0, none⟩), Value.pointer (some ⟨r, 1, none⟩), Value.int .i64 G, Value.slice a2 ml mc, Value.tuple #[.agg #[.int .i64 k, .int .i64 fr, .int .i64 t, .slice ga gn gn, .string s], .int .i64 N, .int .i64 E], Value.agg #[.int .i64 k, .int .i64 fr, .int .i64 t, .slice ga gn gn, .string s], Value.int .i64 N, Value.int .i64 E, t24, t25, t26, t27, t28, t29, t30, t31, t32, t33, t34, t35, t36, t37, t38, t39, t40, t41, t42, t43, t44], defers := [] } X) := fun X x k fr t N E ga gn s q1 q2 q3 q4 => hfin X x k fr t N E ga gn s (tr X q1) q2 (by rw [← hsz]; exact q3) (by rw [← hsz]; exact q4)
  have B0 : Below W0.heap.size W0 W0 := Below.refl _ _
  refine wp_region_held_drew (S := fun X => Below W0.heap.size W0 X) (by kernel_rfl) (by rw [hW0]; exact B0) (fun hHeld => ?_)
  rw [hW0] at hHeld ⊢
  clear hW0 D0 hsz tr h0 h1 hrd
  refine wpAnyH_take (i := 0) (oi := { dst := some 11, op := Op.move (Operand.tmp 0), type := 38, pos := "reader.go:31", after := #[], guard := none }) (v := ?_) rfl (by kernel_rfl) (by kernel_rfl) (by kernel_rfl) (fun c a w h => hp c _ _ _ w h) (Or.inl ⟨by rfl, ?_⟩) hHeld ?_
  rotate_left
  · (intro w hSw; (try dsimp only at hSw); go_simp; all_goals (try with_reducible rfl))
  try simp only [Act.put, List.setIfInBounds_toArray, List.set_cons_zero, List.set_cons_succ]
  refine wpAnyH_take (i := 1) (oi := { dst := some 12, op := Op.nilCheck (Operand.tmp 11), type := 0, pos := "reader.go:31", after := #[{ on := 0, ground := Ground.data }], guard := none }) (v := ?_) rfl (by kernel_rfl) (by kernel_rfl) (by kernel_rfl) (fun c a w h => hp c _ _ _ w h) (Or.inl ⟨by rfl, ?_⟩) hHeld ?_
  rotate_left
  · (intro w hSw; (try dsimp only at hSw); go_simp; all_goals (try with_reducible rfl))
  try simp only [Act.put, List.setIfInBounds_toArray, List.set_cons_zero, List.set_cons_succ]
  refine wpAnyH_take (i := 2) (oi := { dst := some 13, op := Op.fieldAddr 40 (Operand.tmp 12) 0, type := 0, pos := "reader.go:31", after := #[{ on := 1, ground := Ground.data }], guard := none }) (v := ?_) rfl (by kernel_rfl) (by kernel_rfl) (by kernel_rfl) (fun c a w h => hp c _ _ _ w h) (Or.inl ⟨by rfl, ?_⟩) hHeld ?_
  rotate_left
  · (intro w hSw; (try dsimp only at hSw); go_simp; all_goals (try with_reducible rfl))
  try simp only [Act.put, List.setIfInBounds_toArray, List.set_cons_zero, List.set_cons_succ]
  refine wpAnyH_take (i := 3) (oi := { dst := some 14, op := Op.load 35 (Operand.tmp 13), type := 35, pos := "reader.go:31", after := #[{ on := 2, ground := Ground.data }], guard := none }) (v := ?_) rfl (by kernel_rfl) (by kernel_rfl) (by kernel_rfl) (fun c a w h => hp c _ _ _ w h) (Or.inl ⟨by rfl, ?_⟩) hHeld ?_
  rotate_left
  · (intro w hSw; (try dsimp only at hSw); have k0 := hC0 _ hSw; go_simp; all_goals (try with_reducible rfl))
  try simp only [Act.put, List.setIfInBounds_toArray, List.set_cons_zero, List.set_cons_succ]
  refine wpAnyH_take (i := 4) (oi := { dst := some 15, op := Op.move (Operand.tmp 0), type := 38, pos := "reader.go:31", after := #[], guard := none }) (v := ?_) rfl (by kernel_rfl) (by kernel_rfl) (by kernel_rfl) (fun c a w h => hp c _ _ _ w h) (Or.inl ⟨by rfl, ?_⟩) hHeld ?_
  rotate_left
  · (intro w hSw; (try dsimp only at hSw); go_simp; all_goals (try with_reducible rfl))
  try simp only [Act.put, List.setIfInBounds_toArray, List.set_cons_zero, List.set_cons_succ]
  refine wpAnyH_take (i := 5) (oi := { dst := some 16, op := Op.nilCheck (Operand.tmp 15), type := 0, pos := "reader.go:31", after := #[{ on := 4, ground := Ground.data }], guard := none }) (v := ?_) rfl (by kernel_rfl) (by kernel_rfl) (by kernel_rfl) (fun c a w h => hp c _ _ _ w h) (Or.inl ⟨by rfl, ?_⟩) hHeld ?_
  rotate_left
  · (intro w hSw; (try dsimp only at hSw); go_simp; all_goals (try with_reducible rfl))
  try simp only [Act.put, List.setIfInBounds_toArray, List.set_cons_zero, List.set_cons_succ]
  refine wpAnyH_take (i := 6) (oi := { dst := some 17, op := Op.fieldAddr 40 (Operand.tmp 16) 1, type := 0, pos := "reader.go:31", after := #[{ on := 5, ground := Ground.data }], guard := none }) (v := ?_) rfl (by kernel_rfl) (by kernel_rfl) (by kernel_rfl) (fun c a w h => hp c _ _ _ w h) (Or.inl ⟨by rfl, ?_⟩) hHeld ?_
  rotate_left
  · (intro w hSw; (try dsimp only at hSw); go_simp; all_goals (try with_reducible rfl))
  try simp only [Act.put, List.setIfInBounds_toArray, List.set_cons_zero, List.set_cons_succ]
  refine wpAnyH_take (i := 7) (oi := { dst := some 18, op := Op.load 3 (Operand.tmp 17), type := 3, pos := "reader.go:31", after := #[{ on := 6, ground := Ground.data }], guard := none }) (v := ?_) rfl (by kernel_rfl) (by kernel_rfl) (by kernel_rfl) (fun c a w h => hp c _ _ _ w h) (Or.inl ⟨by rfl, ?_⟩) hHeld ?_
  rotate_left
  · (intro w hSw; (try dsimp only at hSw); have k1 := hC1 _ hSw; go_simp; all_goals (try with_reducible rfl))
  try simp only [Act.put, List.setIfInBounds_toArray, List.set_cons_zero, List.set_cons_succ]
  refine wpAnyH_take (i := 8) (oi := { dst := some 19, op := Op.slice 35 (Operand.tmp 14) (some (Operand.tmp 18)) none none, type := 35, pos := "reader.go:31", after := #[{ on := 3, ground := Ground.data }, { on := 7, ground := Ground.data }], guard := none }) (v := ?_) rfl (by kernel_rfl) (by kernel_rfl) (by kernel_rfl) (fun c a w h => hp c _ _ _ w h) (Or.inl ⟨by rfl, ?_⟩) hHeld ?_
  rotate_left
  · (intro w hSw; (try dsimp only at hSw); go_simp; all_goals (try with_reducible rfl))
  try simp only [Act.put, List.setIfInBounds_toArray, List.set_cons_zero, List.set_cons_succ]
  refine wpAnyH_ready (rs := [9, 14]) (by kernel_rfl) (by simp) ?_
  refine AllReadyH.cons (o := { dst := some 20, op := Op.call { callee := Callee.value (Operand.func 18), args := #[Operand.tmp 19], argTypes := #[35] }, type := 32, pos := "reader.go:31", after := #[{ on := 8, ground := Ground.data }], guard := none }) rfl (fun K hK => ?_) ?_
  · go_simp
    refine Calls.mono (hRd.out _ B0) ?_
    rintro e X1 ⟨k, fr, t, N, E, ga, gn, s, rfl, hG, hb⟩
    have B1 : Below W0.heap.size W0 X1 := B0.trans (hb.mono B0.size)
    have hG1 := hG.lower (b' := W0.heap.size) B0.size
    clear hb hG
    go_wp2_with fail
    refine hK.out _ _ B1 (fun hHeld => ?_)
    clear hK K
    try simp only [Act.put, List.setIfInBounds_toArray, List.set_cons_zero, List.set_cons_succ]
    refine wpAnyH_take (i := 10) (oi := { dst := some 10, op := Op.move (Operand.tmp 20), type := 32, pos := "reader.go:31", after := #[{ on := 9, ground := Ground.data }], guard := none }) (v := ?_) rfl (by kernel_rfl) (by kernel_rfl) (by kernel_rfl) (fun c a w h => hp c _ _ _ w h) (Or.inl ⟨by rfl, ?_⟩) hHeld ?_
    rotate_left
    · (intro w hSw; (try dsimp only at hSw); go_simp; all_goals (try with_reducible rfl))
    try simp only [Act.put, List.setIfInBounds_toArray, List.set_cons_zero, List.set_cons_succ]
    refine wpAnyH_take (i := 11) (oi := { dst := some 21, op := Op.extract (Operand.tmp 10) 0, type := 26, pos := "reader.go:31", after := #[{ on := 10, ground := Ground.data }], guard := none }) (v := ?_) rfl (by kernel_rfl) (by kernel_rfl) (by kernel_rfl) (fun c a w h => hp c _ _ _ w h) (Or.inl ⟨by rfl, ?_⟩) hHeld ?_
    rotate_left
    · (intro w hSw; (try dsimp only at hSw); go_simp; all_goals (try with_reducible rfl))
    try simp only [Act.put, List.setIfInBounds_toArray, List.set_cons_zero, List.set_cons_succ]
    refine wpAnyH_take (i := 12) (oi := { dst := some 22, op := Op.extract (Operand.tmp 10) 1, type := 3, pos := "reader.go:31", after := #[{ on := 10, ground := Ground.data }, { on := 15, ground := Ground.gcOnly Departure.lateStores }], guard := none }) (v := ?_) rfl (by kernel_rfl) (by kernel_rfl) (by kernel_rfl) (fun c a w h => hp c _ _ _ w h) (Or.inl ⟨by rfl, ?_⟩) hHeld ?_
    rotate_left
    · (intro w hSw; (try dsimp only at hSw); go_simp; all_goals (try with_reducible rfl))
    try simp only [Act.put, List.setIfInBounds_toArray, List.set_cons_zero, List.set_cons_succ]
    refine wpAnyH_take (i := 13) (oi := { dst := some 23, op := Op.extract (Operand.tmp 10) 2, type := 28, pos := "reader.go:31", after := #[{ on := 10, ground := Ground.data }, { on := 16, ground := Ground.gcOnly Departure.lateStores }], guard := none }) (v := ?_) rfl (by kernel_rfl) (by kernel_rfl) (by kernel_rfl) (fun c a w h => hp c _ _ _ w h) (Or.inl ⟨by rfl, ?_⟩) hHeld ?_
    rotate_left
    · (intro w hSw; (try dsimp only at hSw); go_simp; all_goals (try with_reducible rfl))
    try simp only [Act.put, List.setIfInBounds_toArray, List.set_cons_zero, List.set_cons_succ]
    refine wpAnyH_ready (rs := [14]) (by kernel_rfl) (by simp) ?_
    refine AllReadyH.cons (o := { dst := some 4, op := Op.alloc 26, type := 0, pos := "reader.go:31", after := #[], guard := none }) rfl (fun K hK => ?_) AllReadyH.nil
    go_simp
    obtain ⟨X2, hX⟩ : ∃ Z, X1.alloc (.cells #[.int .i64 0, .int .i64 0, .int .i64 0, .slice none 0 0, .string ⟨#[]⟩] 26) = Z := ⟨_, rfl⟩
    rw [hX]
    have hb : Below X1.heap.size X1 X2 := by rw [← hX]; exact (Below.refl _ _).alloc (Nat.le_refl _) _
    have y2 : FrAt X2 X1.heap.size 0 0 0 (.slice none 0 0) (.string ⟨#[]⟩) := by rw [← hX]; exact frAt_new _ _ _ _ _ _
    have B2 : Below W0.heap.size W0 X2 := B1.trans (hb.mono B1.size)
    have hG2 := hG1.below hb
    clear hX hb
    refine hK.out _ _ B2 (fun hHeld => ?_)
    clear hK K
    try simp only [Act.put, List.setIfInBounds_toArray, List.set_cons_zero, List.set_cons_succ]
    refine wpAnyH_ready (rs := [15]) (by kernel_rfl) (by simp) ?_
    refine AllReadyH.cons (o := { dst := none, op := Op.store 26 (Operand.tmp 4) (Operand.tmp 21), type := 0, pos := "reader.go:31", after := #[{ on := 14, ground := Ground.data }, { on := 11, ground := Ground.data }, { on := 9, ground := Ground.chain }, { on := 0, ground := Ground.phase }, { on := 1, ground := Ground.phase }, { on := 2, ground := Ground.phase }, { on := 3, ground := Ground.phase }, { on := 4, ground := Ground.phase }, { on := 5, ground := Ground.phase }, { on := 6, ground := Ground.phase }, { on := 7, ground := Ground.phase }, { on := 8, ground := Ground.phase }, { on := 9, ground := Ground.phase }, { on := 10, ground := Ground.phase }, { on := 11, ground := Ground.phase }, { on := 12, ground := Ground.textOnly Departure.lateStores }, { on := 13, ground := Ground.textOnly Departure.lateStores }, { on := 14, ground := Ground.phase }], guard := none }) rfl (fun K hK => ?_) AllReadyH.nil
    have hxB : W0.heap.size ≤ X1.heap.size := B1.size
    have u0 := y2.c0
    have u1 := y2.c1
    have u2 := y2.c2
    have u3 := y2.c3
    have u4 := y2.c4
    have uf := y2.f
    go_simp
    refine hK.out _ _ (frSet_below B2 hxB) (fun hHeld => ?_)
    clear hK K u0 u1 u2 u3 u4 uf
    try simp only [Act.put, List.setIfInBounds_toArray, List.set_cons_zero, List.set_cons_succ]
    refine wpAnyH_take (i := 16) (oi := { dst := some 5, op := Op.assign (Operand.tmp 22), type := 3, pos := "reader.go:31", after := #[{ on := 12, ground := Ground.data }, { on := 15, ground := Ground.chain }, { on := 0, ground := Ground.phase }, { on := 1, ground := Ground.phase }, { on := 2, ground := Ground.phase }, { on := 3, ground := Ground.phase }, { on := 4, ground := Ground.phase }, { on := 5, ground := Ground.phase }, { on := 6, ground := Ground.phase }, { on := 7, ground := Ground.phase }, { on := 8, ground := Ground.phase }, { on := 9, ground := Ground.phase }, { on := 10, ground := Ground.phase }, { on := 11, ground := Ground.phase }, { on := 12, ground := Ground.phase }, { on := 13, ground := Ground.textOnly Departure.lateStores }, { on := 14, ground := Ground.phase }, { on := 15, ground := Ground.phase }], guard := none }) (v := ?_) rfl (by kernel_rfl) (by kernel_rfl) (by kernel_rfl) (fun c a w h => hp c _ _ _ w h) (Or.inl ⟨by rfl, ?_⟩) hHeld ?_
    rotate_left
    · (intro w hSw; (try dsimp only at hSw); go_simp; all_goals (try with_reducible rfl))
    try simp only [Act.put, List.setIfInBounds_toArray, List.set_cons_zero, List.set_cons_succ]
    refine wpAnyH_take (i := 17) (oi := { dst := some 6, op := Op.assign (Operand.tmp 23), type := 28, pos := "reader.go:31", after := #[{ on := 13, ground := Ground.data }, { on := 16, ground := Ground.chain }, { on := 0, ground := Ground.phase }, { on := 1, ground := Ground.phase }, { on := 2, ground := Ground.phase }, { on := 3, ground := Ground.phase }, { on := 4, ground := Ground.phase }, { on := 5, ground := Ground.phase }, { on := 6, ground := Ground.phase }, { on := 7, ground := Ground.phase }, { on := 8, ground := Ground.phase }, { on := 9, ground := Ground.phase }, { on := 10, ground := Ground.phase }, { on := 11, ground := Ground.phase }, { on := 12, ground := Ground.phase }, { on := 13, ground := Ground.phase }, { on := 14, ground := Ground.phase }, { on := 15, ground := Ground.phase }, { on := 16, ground := Ground.phase }], guard := none }) (v := ?_) rfl (by kernel_rfl) (by kernel_rfl) (by kernel_rfl) (fun c a w h => hp c _ _ _ w h) (Or.inl ⟨by rfl, ?_⟩) hHeld ?_
    rotate_left
    · (intro w hSw; (try dsimp only at hSw); go_simp; all_goals (try with_reducible rfl))
    try simp only [Act.put, List.setIfInBounds_toArray, List.set_cons_zero, List.set_cons_succ]
    refine wpAnyH_done (by kernel_rfl) ?_ _
    have hne : ∀ a, ga = some a → a.block ∉ [X1.heap.size] := fun a e => by have := (hG1.lt a e); simp; omega
    exact hfin.out _ _ _ _ _ _ _ _ _ _ (frSet_below B2 hxB) (y2.stored _ _ _ _ _) (hG2.mod (frSet_mod _ _ _ _ _ _ _) hne) hxB
  refine AllReadyH.cons (o := { dst := some 4, op := Op.alloc 26, type := 0, pos := "reader.go:31", after := #[], guard := none }) rfl (fun K hK => ?_) AllReadyH.nil
  go_simp
  obtain ⟨X1, hX⟩ : ∃ Z, W0.alloc (.cells #[.int .i64 0, .int .i64 0, .int .i64 0, .slice none 0 0, .string ⟨#[]⟩] 26) = Z := ⟨_, rfl⟩
  rw [hX]
  have hb : Below W0.heap.size W0 X1 := by rw [← hX]; exact (Below.refl _ _).alloc (Nat.le_refl _) _
  have y1 : FrAt X1 W0.heap.size 0 0 0 (.slice none 0 0) (.string ⟨#[]⟩) := by rw [← hX]; exact frAt_new _ _ _ _ _ _
  have B1 : Below W0.heap.size W0 X1 := B0.trans (hb.mono B0.size)
  clear hX hb
  refine hK.out _ _ B1 (fun hHeld => ?_)
  clear hK K
  try simp only [Act.put, List.setIfInBounds_toArray, List.set_cons_zero, List.set_cons_succ]
  refine wpAnyH_ready (rs := [9]) (by kernel_rfl) (by simp) ?_
  refine AllReadyH.cons (o := { dst := some 20, op := Op.call { callee := Callee.value (Operand.func 18), args := #[Operand.tmp 19], argTypes := #[35] }, type := 32, pos := "reader.go:31", after := #[{ on := 8, ground := Ground.data }], guard := none }) rfl (fun K hK => ?_) AllReadyH.nil
  go_simp
  refine Calls.mono (hRd.out _ B1) ?_
  rintro e X2 ⟨k, fr, t, N, E, ga, gn, s, rfl, hG, hb⟩
  have B2 : Below W0.heap.size W0 X2 := B1.trans (hb.mono B1.size)
  have hG2 := hG.lower (b' := W0.heap.size) B1.size
  have y2 := y1.below hb
  have hQ : ∀ a, ga = some a → W0.heap.size + 1 ≤ a.block := fun a e => by have h1 := (hG.lt a e).1; have h2 := y1.lt; omega
  clear hb hG
  go_wp2_with fail
  refine hK.out _ _ B2 (fun hHeld => ?_)
  clear hK K
  try simp only [Act.put, List.setIfInBounds_toArray, List.set_cons_zero, List.set_cons_succ]
  refine wpAnyH_take (i := 10) (oi := { dst := some 10, op := Op.move (Operand.tmp 20), type := 32, pos := "reader.go:31", after := #[{ on := 9, ground := Ground.data }], guard := none }) (v := ?_) rfl (by kernel_rfl) (by kernel_rfl) (by kernel_rfl) (fun c a w h => hp c _ _ _ w h) (Or.inl ⟨by rfl, ?_⟩) hHeld ?_
  rotate_left
  · (intro w hSw; (try dsimp only at hSw); go_simp; all_goals (try with_reducible rfl))
  try simp only [Act.put, List.setIfInBounds_toArray, List.set_cons_zero, List.set_cons_succ]
  refine wpAnyH_take (i := 11) (oi := { dst := some 21, op := Op.extract (Operand.tmp 10) 0, type := 26, pos := "reader.go:31", after := #[{ on := 10, ground := Ground.data }], guard := none }) (v := ?_) rfl (by kernel_rfl) (by kernel_rfl) (by kernel_rfl) (fun c a w h => hp c _ _ _ w h) (Or.inl ⟨by rfl, ?_⟩) hHeld ?_
  rotate_left
  · (intro w hSw; (try dsimp only at hSw); go_simp; all_goals (try with_reducible rfl))
  try simp only [Act.put, List.setIfInBounds_toArray, List.set_cons_zero, List.set_cons_succ]
  refine wpAnyH_take (i := 12) (oi := { dst := some 22, op := Op.extract (Operand.tmp 10) 1, type := 3, pos := "reader.go:31", after := #[{ on := 10, ground := Ground.data }, { on := 15, ground := Ground.gcOnly Departure.lateStores }], guard := none }) (v := ?_) rfl (by kernel_rfl) (by kernel_rfl) (by kernel_rfl) (fun c a w h => hp c _ _ _ w h) (Or.inl ⟨by rfl, ?_⟩) hHeld ?_
  rotate_left
  · (intro w hSw; (try dsimp only at hSw); go_simp; all_goals (try with_reducible rfl))
  try simp only [Act.put, List.setIfInBounds_toArray, List.set_cons_zero, List.set_cons_succ]
  refine wpAnyH_take (i := 13) (oi := { dst := some 23, op := Op.extract (Operand.tmp 10) 2, type := 28, pos := "reader.go:31", after := #[{ on := 10, ground := Ground.data }, { on := 16, ground := Ground.gcOnly Departure.lateStores }], guard := none }) (v := ?_) rfl (by kernel_rfl) (by kernel_rfl) (by kernel_rfl) (fun c a w h => hp c _ _ _ w h) (Or.inl ⟨by rfl, ?_⟩) hHeld ?_
  rotate_left
  · (intro w hSw; (try dsimp only at hSw); go_simp; all_goals (try with_reducible rfl))
  try simp only [Act.put, List.setIfInBounds_toArray, List.set_cons_zero, List.set_cons_succ]
  refine wpAnyH_ready (rs := [15]) (by kernel_rfl) (by simp) ?_
  refine AllReadyH.cons (o := { dst := none, op := Op.store 26 (Operand.tmp 4) (Operand.tmp 21), type := 0, pos := "reader.go:31", after := #[{ on := 14, ground := Ground.data }, { on := 11, ground := Ground.data }, { on := 9, ground := Ground.chain }, { on := 0, ground := Ground.phase }, { on := 1, ground := Ground.phase }, { on := 2, ground := Ground.phase }, { on := 3, ground := Ground.phase }, { on := 4, ground := Ground.phase }, { on := 5, ground := Ground.phase }, { on := 6, ground := Ground.phase }, { on := 7, ground := Ground.phase }, { on := 8, ground := Ground.phase }, { on := 9, ground := Ground.phase }, { on := 10, ground := Ground.phase }, { on := 11, ground := Ground.phase }, { on := 12, ground := Ground.textOnly Departure.lateStores }, { on := 13, ground := Ground.textOnly Departure.lateStores }, { on := 14, ground := Ground.phase }], guard := none }) rfl (fun K hK => ?_) AllReadyH.nil
  have hxB : W0.heap.size ≤ W0.heap.size := B0.size
  have u0 := y2.c0
  have u1 := y2.c1
  have u2 := y2.c2
  have u3 := y2.c3
  have u4 := y2.c4
  have uf := y2.f
  go_simp
  refine hK.out _ _ (frSet_below B2 hxB) (fun hHeld => ?_)
  clear hK K u0 u1 u2 u3 u4 uf
  try simp only [Act.put, List.setIfInBounds_toArray, List.set_cons_zero, List.set_cons_succ]
  refine wpAnyH_take (i := 16) (oi := { dst := some 5, op := Op.assign (Operand.tmp 22), type := 3, pos := "reader.go:31", after := #[{ on := 12, ground := Ground.data }, { on := 15, ground := Ground.chain }, { on := 0, ground := Ground.phase }, { on := 1, ground := Ground.phase }, { on := 2, ground := Ground.phase }, { on := 3, ground := Ground.phase }, { on := 4, ground := Ground.phase }, { on := 5, ground := Ground.phase }, { on := 6, ground := Ground.phase }, { on := 7, ground := Ground.phase }, { on := 8, ground := Ground.phase }, { on := 9, ground := Ground.phase }, { on := 10, ground := Ground.phase }, { on := 11, ground := Ground.phase }, { on := 12, ground := Ground.phase }, { on := 13, ground := Ground.textOnly Departure.lateStores }, { on := 14, ground := Ground.phase }, { on := 15, ground := Ground.phase }], guard := none }) (v := ?_) rfl (by kernel_rfl) (by kernel_rfl) (by kernel_rfl) (fun c a w h => hp c _ _ _ w h) (Or.inl ⟨by rfl, ?_⟩) hHeld ?_
  rotate_left
  · (intro w hSw; (try dsimp only at hSw); go_simp; all_goals (try with_reducible rfl))
  try simp only [Act.put, List.setIfInBounds_toArray, List.set_cons_zero, List.set_cons_succ]
  refine wpAnyH_take (i := 17) (oi := { dst := some 6, op := Op.assign (Operand.tmp 23), type := 28, pos := "reader.go:31", after := #[{ on := 13, ground := Ground.data }, { on := 16, ground := Ground.chain }, { on := 0, ground := Ground.phase }, { on := 1, ground := Ground.phase }, { on := 2, ground := Ground.phase }, { on := 3, ground := Ground.phase }, { on := 4, ground := Ground.phase }, { on := 5, ground := Ground.phase }, { on := 6, ground := Ground.phase }, { on := 7, ground := Ground.phase }, { on := 8, ground := Ground.phase }, { on := 9, ground := Ground.phase }, { on := 10, ground := Ground.phase }, { on := 11, ground := Ground.phase }, { on := 12, ground := Ground.phase }, { on := 13, ground := Ground.phase }, { on := 14, ground := Ground.phase }, { on := 15, ground := Ground.phase }, { on := 16, ground := Ground.phase }], guard := none }) (v := ?_) rfl (by kernel_rfl) (by kernel_rfl) (by kernel_rfl) (fun c a w h => hp c _ _ _ w h) (Or.inl ⟨by rfl, ?_⟩) hHeld ?_
  rotate_left
  · (intro w hSw; (try dsimp only at hSw); go_simp; all_goals (try with_reducible rfl))
  try simp only [Act.put, List.setIfInBounds_toArray, List.set_cons_zero, List.set_cons_succ]
  refine wpAnyH_done (by kernel_rfl) ?_ _
  have hne : ∀ a, ga = some a → a.block ∉ [W0.heap.size] := fun a e => by have := (hQ a e); simp; omega
  exact hfin.out _ _ _ _ _ _ _ _ _ _ (frSet_below B2 hxB) (y2.stored _ _ _ _ _) (hG2.mod (frSet_mod _ _ _ _ _ _ _) hne) hxB
end Go.Proofs.Ytglkoedmonenoaa
