/- Wire's drop. Conditions: how many bytes there are. -/
import Derived.Test.YtglkoedmonenoaaWrN
import Derived.Deep.RegionHeld3
namespace Go.Proofs.Ytglkoedmonenoaa
open Go.RowKit
set_option linter.unusedVariables false
set_option maxRecDepth 100000

/-- The region of 'r.held, r.gone = append([]byte(nil), r.held[r.gone:]...), 0', in whatever order. -/
@[reducible] def dropOps : Array Oper := #[{ dst := some 23, op := Op.move (Operand.tmp 0), type := 38, pos := "reader.go:58", after := #[], guard := none }, { dst := some 24, op := Op.move (Operand.tmp 0), type := 38, pos := "reader.go:58", after := #[{ on := 14, ground := Ground.gcOnly Departure.lateStores }], guard := none }, { dst := some 25, op := Op.move (Operand.tmp 0), type := 38, pos := "reader.go:58", after := #[], guard := none }, { dst := some 26, op := Op.nilCheck (Operand.tmp 25), type := 0, pos := "reader.go:58", after := #[{ on := 2, ground := Ground.data }], guard := none }, { dst := some 27, op := Op.fieldAddr 40 (Operand.tmp 26) 0, type := 0, pos := "reader.go:58", after := #[{ on := 3, ground := Ground.data }], guard := none }, { dst := some 28, op := Op.load 35 (Operand.tmp 27), type := 35, pos := "reader.go:58", after := #[{ on := 4, ground := Ground.data }], guard := none }, { dst := some 29, op := Op.move (Operand.tmp 0), type := 38, pos := "reader.go:58", after := #[], guard := none }, { dst := some 30, op := Op.nilCheck (Operand.tmp 29), type := 0, pos := "reader.go:58", after := #[{ on := 6, ground := Ground.data }], guard := none }, { dst := some 31, op := Op.fieldAddr 40 (Operand.tmp 30) 1, type := 0, pos := "reader.go:58", after := #[{ on := 7, ground := Ground.data }], guard := none }, { dst := some 32, op := Op.load 3 (Operand.tmp 31), type := 3, pos := "reader.go:58", after := #[{ on := 8, ground := Ground.data }], guard := none }, { dst := some 33, op := Op.slice 35 (Operand.tmp 28) (some (Operand.tmp 32)) none none, type := 35, pos := "reader.go:58", after := #[{ on := 5, ground := Ground.data }, { on := 9, ground := Ground.data }], guard := none }, { dst := some 34, op := Op.call { callee := Callee.builtin Builtin.append, args := #[Operand.const (Value.slice none 0 0), Operand.tmp 33], argTypes := #[35, 35] }, type := 35, pos := "reader.go:58", after := #[{ on := 10, ground := Ground.data }], guard := none }, { dst := some 35, op := Op.nilCheck (Operand.tmp 23), type := 0, pos := "reader.go:58", after := #[{ on := 0, ground := Ground.data }, { on := 0, ground := Ground.phase }, { on := 1, ground := Ground.textOnly Departure.lateStores }, { on := 2, ground := Ground.phase }, { on := 3, ground := Ground.phase }, { on := 4, ground := Ground.phase }, { on := 5, ground := Ground.phase }, { on := 6, ground := Ground.phase }, { on := 7, ground := Ground.phase }, { on := 8, ground := Ground.phase }, { on := 9, ground := Ground.phase }, { on := 10, ground := Ground.phase }, { on := 11, ground := Ground.phase }], guard := none }, { dst := some 36, op := Op.fieldAddr 40 (Operand.tmp 35) 0, type := 0, pos := "reader.go:58", after := #[{ on := 12, ground := Ground.data }, { on := 0, ground := Ground.phase }, { on := 1, ground := Ground.textOnly Departure.lateStores }, { on := 2, ground := Ground.phase }, { on := 3, ground := Ground.phase }, { on := 4, ground := Ground.phase }, { on := 5, ground := Ground.phase }, { on := 6, ground := Ground.phase }, { on := 7, ground := Ground.phase }, { on := 8, ground := Ground.phase }, { on := 9, ground := Ground.phase }, { on := 10, ground := Ground.phase }, { on := 11, ground := Ground.phase }], guard := none }, { dst := none, op := Op.store 35 (Operand.tmp 36) (Operand.tmp 34), type := 0, pos := "reader.go:58", after := #[{ on := 13, ground := Ground.data }, { on := 11, ground := Ground.data }, { on := 11, ground := Ground.chain }, { on := 0, ground := Ground.phase }, { on := 1, ground := Ground.textOnly Departure.lateStores }, { on := 2, ground := Ground.phase }, { on := 3, ground := Ground.phase }, { on := 4, ground := Ground.phase }, { on := 5, ground := Ground.phase }, { on := 6, ground := Ground.phase }, { on := 7, ground := Ground.phase }, { on := 8, ground := Ground.phase }, { on := 9, ground := Ground.phase }, { on := 10, ground := Ground.phase }, { on := 11, ground := Ground.phase }], guard := none }, { dst := some 37, op := Op.nilCheck (Operand.tmp 24), type := 0, pos := "reader.go:58", after := #[{ on := 1, ground := Ground.data }, { on := 0, ground := Ground.phase }, { on := 1, ground := Ground.phase }, { on := 2, ground := Ground.phase }, { on := 3, ground := Ground.phase }, { on := 4, ground := Ground.phase }, { on := 5, ground := Ground.phase }, { on := 6, ground := Ground.phase }, { on := 7, ground := Ground.phase }, { on := 8, ground := Ground.phase }, { on := 9, ground := Ground.phase }, { on := 10, ground := Ground.phase }, { on := 11, ground := Ground.phase }, { on := 12, ground := Ground.phase }, { on := 13, ground := Ground.phase }, { on := 14, ground := Ground.phase }], guard := none }, { dst := some 38, op := Op.fieldAddr 40 (Operand.tmp 37) 1, type := 0, pos := "reader.go:58", after := #[{ on := 15, ground := Ground.data }, { on := 0, ground := Ground.phase }, { on := 1, ground := Ground.phase }, { on := 2, ground := Ground.phase }, { on := 3, ground := Ground.phase }, { on := 4, ground := Ground.phase }, { on := 5, ground := Ground.phase }, { on := 6, ground := Ground.phase }, { on := 7, ground := Ground.phase }, { on := 8, ground := Ground.phase }, { on := 9, ground := Ground.phase }, { on := 10, ground := Ground.phase }, { on := 11, ground := Ground.phase }, { on := 12, ground := Ground.phase }, { on := 13, ground := Ground.phase }, { on := 14, ground := Ground.phase }], guard := none }, { dst := none, op := Op.store 3 (Operand.tmp 38) (Operand.const (Value.int IntKind.i64 0)), type := 0, pos := "reader.go:58", after := #[{ on := 16, ground := Ground.data }, { on := 14, ground := Ground.chain }, { on := 0, ground := Ground.phase }, { on := 1, ground := Ground.phase }, { on := 2, ground := Ground.phase }, { on := 3, ground := Ground.phase }, { on := 4, ground := Ground.phase }, { on := 5, ground := Ground.phase }, { on := 6, ground := Ground.phase }, { on := 7, ground := Ground.phase }, { on := 8, ground := Ground.phase }, { on := 9, ground := Ground.phase }, { on := 10, ground := Ground.phase }, { on := 11, ground := Ground.phase }, { on := 12, ground := Ground.phase }, { on := 13, ground := Ground.phase }, { on := 14, ground := Ground.phase }], guard := none }]
set_option maxHeartbeats 4000000 in
theorem drop_tail (W : World) (r hl cap ml mc : Nat) (G : Int) (a a2 : Option Addr) (M : List UInt8) (t1 t2 t3 t4 t5 t6 t7 t8 t9 t10 t11 t12 t13 t14 t15 t16 t17 t18 t19 t20 t21 t22 t23 t24 t25 t26 t27 t28 t29 t30 t31 t32 t33 t34 t35 t36 t37 t38 : Value) (Q : Exit → Act → World → Prop)
    (h0 : W.cell? ⟨r, 0, none⟩ = some (.slice a hl cap)) (h1 : W.cell? ⟨r, 1, none⟩ = some (.int .i64 G)) (hf : ∀ i, W.frozen? ⟨r, i, none⟩ = false)
    (hsl : ∀ X, (Instr.slice 35 (.slice a hl cap) (some (.int .i64 G)) none none).run Try.prog X = .ok (.slice a2 ml mc) X)
    (happ : ∀ X, Below W.heap.size W X → ∃ v' X', (Builtin.append_ #[35, 35] 35 #[.slice none 0 0, .slice a2 ml mc]).run Try.prog X = .ok v' X' ∧ OB X' X.heap.size v' M ∧ Below X.heap.size X X' ∧ (M = [] → v' = .slice none 0 0))
    (hp : ∀ c a (dd : Option Tmp) vv w, Q (.panic c) (a.put dd vv) w → Q (.panic c) a w)
    (hfin : ∀ (X : World) (v' : Value) (hB : Below W.heap.size W X) (ho : OB X W.heap.size v' M) (hn : M = [] → v' = .slice none 0 0), Q .normal { tmps := #[Value.pointer (some ⟨r, 0, none⟩), t1, t2, t3, t4, t5, t6, t7, t8, t9, t10, t11, t12, t13, t14, t15, t16, t17, t18, t19, t20, t21, t22, Value.pointer (some ⟨r, 0, none⟩), Value.pointer (some ⟨r, 0, none⟩), Value.pointer (some ⟨r, 0, none⟩), Value.pointer (some ⟨r, 0, none⟩), Value.pointer (some ⟨r, 0, none⟩), Value.slice a hl cap, Value.pointer (some ⟨r, 0, none⟩), Value.pointer (some ⟨r, 0, none⟩), Value.pointer (some ⟨r, 1, none⟩), Value.int .i64 G, Value.slice a2 ml mc, v', Value.pointer (some ⟨r, 0, none⟩), Value.pointer (some ⟨r, 0, none⟩), Value.pointer (some ⟨r, 0, none⟩), Value.pointer (some ⟨r, 1, none⟩)], defers := [] } ((X.setCell ⟨r, 0, none⟩ v').setCell ⟨r, 1, none⟩ (.int .i64 0))) :
    Code.wp Try.prog (Code.region 2 dropOps true) Q { tmps := #[Value.pointer (some ⟨r, 0, none⟩), t1, t2, t3, t4, t5, t6, t7, t8, t9, t10, t11, t12, t13, t14, t15, t16, t17, t18, t19, t20, t21, t22, t23, t24, t25, t26, t27, t28, t29, t30, t31, t32, t33, t34, t35, t36, t37, t38], defers := [] } W := by
  obtain ⟨W0, hW0⟩ : ∃ Z, W.drew = Z := ⟨_, rfl⟩
  have hsz : W0.heap.size = W.heap.size := by rw [← hW0]; rfl
  have D0 : Below W.heap.size W W0 := by rw [← hW0]; exact (Below.refl _ _).drew
  have tr : ∀ X, Below W0.heap.size W0 X → Below W.heap.size W X := fun X h => D0.trans (by rw [← hsz]; exact h)
  have hlt : r < W.heap.size := World.block_lt_of_cell? W _ h0
  have hC0 : ∀ X, Below W0.heap.size W0 X → X.cell? ⟨r, 0, none⟩ = some (.slice a hl cap) := fun X h => (Mod.of_below (S := []) (tr X h)).cell h0 (by simp)
  have hC1 : ∀ X, Below W0.heap.size W0 X → X.cell? ⟨r, 1, none⟩ = some (.int .i64 G) := fun X h => (Mod.of_below (S := []) (tr X h)).cell h1 (by simp)
  have hF : ∀ X, Below W0.heap.size W0 X → ∀ i, X.frozen? ⟨r, i, none⟩ = false := fun X h i => ((Mod.of_below (S := []) (tr X h)).frozen hlt (by simp)).trans (hf i)
  have hApp : Hid (∀ X, Below W0.heap.size W0 X → ∃ v' X', (Builtin.append_ #[35, 35] 35 #[.slice none 0 0, .slice a2 ml mc]).run Try.prog X = .ok v' X' ∧ OB X' X.heap.size v' M ∧ Below X.heap.size X X' ∧ (M = [] → v' = .slice none 0 0)) := fun X h => happ X (tr X h)
  have hfin : Hid (∀ (X : World) (v' : Value) (hB : Below W0.heap.size W0 X) (ho : OB X W0.heap.size v' M) (hn : M = [] → v' = .slice none 0 0), Q .normal { tmps := #[Value.pointer (some ⟨r, 0, none⟩), t1, t2, t3, t4, t5, t6, t7, t8, t9, t10, t11, t12, t13, t14, t15, t16, t17, t18, t19, t20, t21, t22, Value.pointer (some ⟨r, 0, none⟩), Value.pointer (some ⟨r, 0, none⟩), Value.pointer (some ⟨r, 0, none⟩), Value.pointer (some ⟨r, 0, none⟩), Value.pointer (some ⟨r, 0, none⟩), Value.slice a hl cap, Value.pointer (some ⟨r, 0, none⟩), Value.pointer (some ⟨r, 0, none⟩), Value.pointer (some ⟨r, 1, none⟩), Value.int .i64 G, Value.slice a2 ml mc, v', Value.pointer (some ⟨r, 0, none⟩), Value.pointer (some ⟨r, 0, none⟩), Value.pointer (some ⟨r, 0, none⟩), Value.pointer (some ⟨r, 1, none⟩)], defers := [] } ((X.setCell ⟨r, 0, none⟩ v').setCell ⟨r, 1, none⟩ (.int .i64 0))) := fun X v' h1 h2 h3 => hfin X v' (tr X h1) (by rw [← hsz]; exact h2) h3
  have B0 : Below W0.heap.size W0 W0 := Below.refl _ _
  refine wp_region_held_drew (S := fun _ => True) (by kernel_rfl) trivial (fun hHeld => ?_)
  rw [hW0]
  clear hW0 D0 hsz tr h0 h1 hf happ hlt
  refine wpAnyH_take (i := 0) (oi := { dst := some 23, op := Op.move (Operand.tmp 0), type := 38, pos := "reader.go:58", after := #[], guard := none }) (v := ?_) rfl (by kernel_rfl) (by kernel_rfl) (by kernel_rfl) (fun c a w h => hp c _ _ _ w h) (Or.inl ⟨by rfl, ?_⟩) hHeld ?_
  rotate_left
  · (intro w hSw; (try dsimp only at hSw); go_simp; all_goals (try with_reducible rfl))
  try simp only [Act.put, List.setIfInBounds_toArray, List.set_cons_zero, List.set_cons_succ]
  refine wpAnyH_take (i := 1) (oi := { dst := some 24, op := Op.move (Operand.tmp 0), type := 38, pos := "reader.go:58", after := #[{ on := 14, ground := Ground.gcOnly Departure.lateStores }], guard := none }) (v := ?_) rfl (by kernel_rfl) (by kernel_rfl) (by kernel_rfl) (fun c a w h => hp c _ _ _ w h) (Or.inl ⟨by rfl, ?_⟩) hHeld ?_
  rotate_left
  · (intro w hSw; (try dsimp only at hSw); go_simp; all_goals (try with_reducible rfl))
  try simp only [Act.put, List.setIfInBounds_toArray, List.set_cons_zero, List.set_cons_succ]
  refine wpAnyH_take (i := 2) (oi := { dst := some 25, op := Op.move (Operand.tmp 0), type := 38, pos := "reader.go:58", after := #[], guard := none }) (v := ?_) rfl (by kernel_rfl) (by kernel_rfl) (by kernel_rfl) (fun c a w h => hp c _ _ _ w h) (Or.inl ⟨by rfl, ?_⟩) hHeld ?_
  rotate_left
  · (intro w hSw; (try dsimp only at hSw); go_simp; all_goals (try with_reducible rfl))
  try simp only [Act.put, List.setIfInBounds_toArray, List.set_cons_zero, List.set_cons_succ]
  refine wpAnyH_take (i := 3) (oi := { dst := some 26, op := Op.nilCheck (Operand.tmp 25), type := 0, pos := "reader.go:58", after := #[{ on := 2, ground := Ground.data }], guard := none }) (v := ?_) rfl (by kernel_rfl) (by kernel_rfl) (by kernel_rfl) (fun c a w h => hp c _ _ _ w h) (Or.inl ⟨by rfl, ?_⟩) hHeld ?_
  rotate_left
  · (intro w hSw; (try dsimp only at hSw); go_simp; all_goals (try with_reducible rfl))
  try simp only [Act.put, List.setIfInBounds_toArray, List.set_cons_zero, List.set_cons_succ]
  refine wpAnyH_take (i := 4) (oi := { dst := some 27, op := Op.fieldAddr 40 (Operand.tmp 26) 0, type := 0, pos := "reader.go:58", after := #[{ on := 3, ground := Ground.data }], guard := none }) (v := ?_) rfl (by kernel_rfl) (by kernel_rfl) (by kernel_rfl) (fun c a w h => hp c _ _ _ w h) (Or.inl ⟨by rfl, ?_⟩) hHeld ?_
  rotate_left
  · (intro w hSw; (try dsimp only at hSw); go_simp; all_goals (try with_reducible rfl))
  try simp only [Act.put, List.setIfInBounds_toArray, List.set_cons_zero, List.set_cons_succ]
  refine wpAnyH_take (i := 6) (oi := { dst := some 29, op := Op.move (Operand.tmp 0), type := 38, pos := "reader.go:58", after := #[], guard := none }) (v := ?_) rfl (by kernel_rfl) (by kernel_rfl) (by kernel_rfl) (fun c a w h => hp c _ _ _ w h) (Or.inl ⟨by rfl, ?_⟩) hHeld ?_
  rotate_left
  · (intro w hSw; (try dsimp only at hSw); go_simp; all_goals (try with_reducible rfl))
  try simp only [Act.put, List.setIfInBounds_toArray, List.set_cons_zero, List.set_cons_succ]
  refine wpAnyH_take (i := 7) (oi := { dst := some 30, op := Op.nilCheck (Operand.tmp 29), type := 0, pos := "reader.go:58", after := #[{ on := 6, ground := Ground.data }], guard := none }) (v := ?_) rfl (by kernel_rfl) (by kernel_rfl) (by kernel_rfl) (fun c a w h => hp c _ _ _ w h) (Or.inl ⟨by rfl, ?_⟩) hHeld ?_
  rotate_left
  · (intro w hSw; (try dsimp only at hSw); go_simp; all_goals (try with_reducible rfl))
  try simp only [Act.put, List.setIfInBounds_toArray, List.set_cons_zero, List.set_cons_succ]
  refine wpAnyH_take (i := 8) (oi := { dst := some 31, op := Op.fieldAddr 40 (Operand.tmp 30) 1, type := 0, pos := "reader.go:58", after := #[{ on := 7, ground := Ground.data }], guard := none }) (v := ?_) rfl (by kernel_rfl) (by kernel_rfl) (by kernel_rfl) (fun c a w h => hp c _ _ _ w h) (Or.inl ⟨by rfl, ?_⟩) hHeld ?_
  rotate_left
  · (intro w hSw; (try dsimp only at hSw); go_simp; all_goals (try with_reducible rfl))
  try simp only [Act.put, List.setIfInBounds_toArray, List.set_cons_zero, List.set_cons_succ]
  refine wpAnyH_ready (rs := [5, 9]) (by kernel_rfl) (by simp) ?_
  refine AllReadyH.cons (o := { dst := some 28, op := Op.load 35 (Operand.tmp 27), type := 35, pos := "reader.go:58", after := #[{ on := 4, ground := Ground.data }], guard := none }) rfl (fun K hK => ?_) ?_
  · have k0 := hC0 _ B0
    go_simp
    clear k0
    refine hK.out _ _ trivial (fun hHeld => ?_)
    clear hK K
    try simp only [Act.put, List.setIfInBounds_toArray, List.set_cons_zero, List.set_cons_succ]
    refine wpAnyH_ready (rs := [9]) (by kernel_rfl) (by simp) ?_
    refine AllReadyH.cons (o := { dst := some 32, op := Op.load 3 (Operand.tmp 31), type := 3, pos := "reader.go:58", after := #[{ on := 8, ground := Ground.data }], guard := none }) rfl (fun K hK => ?_) AllReadyH.nil
    have k1 := hC1 _ B0
    go_simp
    clear k1
    refine hK.out _ _ trivial (fun hHeld => ?_)
    clear hK K
    try simp only [Act.put, List.setIfInBounds_toArray, List.set_cons_zero, List.set_cons_succ]
    refine wpAnyH_take (i := 10) (oi := { dst := some 33, op := Op.slice 35 (Operand.tmp 28) (some (Operand.tmp 32)) none none, type := 35, pos := "reader.go:58", after := #[{ on := 5, ground := Ground.data }, { on := 9, ground := Ground.data }], guard := none }) (v := ?_) rfl (by kernel_rfl) (by kernel_rfl) (by kernel_rfl) (fun c a w h => hp c _ _ _ w h) (Or.inl ⟨by rfl, ?_⟩) hHeld ?_
    rotate_left
    · (intro w hSw; (try dsimp only at hSw); go_simp; all_goals (try with_reducible rfl))
    try simp only [Act.put, List.setIfInBounds_toArray, List.set_cons_zero, List.set_cons_succ]
    refine wpAnyH_ready (rs := [11]) (by kernel_rfl) (by simp) ?_
    refine AllReadyH.cons (o := { dst := some 34, op := Op.call { callee := Callee.builtin Builtin.append, args := #[Operand.const (Value.slice none 0 0), Operand.tmp 33], argTypes := #[35, 35] }, type := 35, pos := "reader.go:58", after := #[{ on := 10, ground := Ground.data }], guard := none }) rfl (fun K hK => ?_) AllReadyH.nil
    obtain ⟨v', X1, hr, ho, hb, hn⟩ := hApp.out _ B0
    have B1 : Below W0.heap.size W0 X1 := hb
    obtain ⟨a3, c3, rfl, _, _⟩ := ho.bs
    refine append_stepB (by rfl) _ _ (by rfl) (by rfl) _ _ _ _ (by rfl) (by rfl) hr ?_
    refine hK.out _ _ trivial (fun hHeld => ?_)
    clear hK K
    try simp only [Act.put, List.setIfInBounds_toArray, List.set_cons_zero, List.set_cons_succ]
    refine wpAnyH_take (i := 12) (oi := { dst := some 35, op := Op.nilCheck (Operand.tmp 23), type := 0, pos := "reader.go:58", after := #[{ on := 0, ground := Ground.data }, { on := 0, ground := Ground.phase }, { on := 1, ground := Ground.textOnly Departure.lateStores }, { on := 2, ground := Ground.phase }, { on := 3, ground := Ground.phase }, { on := 4, ground := Ground.phase }, { on := 5, ground := Ground.phase }, { on := 6, ground := Ground.phase }, { on := 7, ground := Ground.phase }, { on := 8, ground := Ground.phase }, { on := 9, ground := Ground.phase }, { on := 10, ground := Ground.phase }, { on := 11, ground := Ground.phase }], guard := none }) (v := ?_) rfl (by kernel_rfl) (by kernel_rfl) (by kernel_rfl) (fun c a w h => hp c _ _ _ w h) (Or.inl ⟨by rfl, ?_⟩) hHeld ?_
    rotate_left
    · (intro w hSw; (try dsimp only at hSw); go_simp; all_goals (try with_reducible rfl))
    try simp only [Act.put, List.setIfInBounds_toArray, List.set_cons_zero, List.set_cons_succ]
    refine wpAnyH_take (i := 13) (oi := { dst := some 36, op := Op.fieldAddr 40 (Operand.tmp 35) 0, type := 0, pos := "reader.go:58", after := #[{ on := 12, ground := Ground.data }, { on := 0, ground := Ground.phase }, { on := 1, ground := Ground.textOnly Departure.lateStores }, { on := 2, ground := Ground.phase }, { on := 3, ground := Ground.phase }, { on := 4, ground := Ground.phase }, { on := 5, ground := Ground.phase }, { on := 6, ground := Ground.phase }, { on := 7, ground := Ground.phase }, { on := 8, ground := Ground.phase }, { on := 9, ground := Ground.phase }, { on := 10, ground := Ground.phase }, { on := 11, ground := Ground.phase }], guard := none }) (v := ?_) rfl (by kernel_rfl) (by kernel_rfl) (by kernel_rfl) (fun c a w h => hp c _ _ _ w h) (Or.inl ⟨by rfl, ?_⟩) hHeld ?_
    rotate_left
    · (intro w hSw; (try dsimp only at hSw); go_simp; all_goals (try with_reducible rfl))
    try simp only [Act.put, List.setIfInBounds_toArray, List.set_cons_zero, List.set_cons_succ]
    refine wpAnyH_ready (rs := [14]) (by kernel_rfl) (by simp) ?_
    refine AllReadyH.cons (o := { dst := none, op := Op.store 35 (Operand.tmp 36) (Operand.tmp 34), type := 0, pos := "reader.go:58", after := #[{ on := 13, ground := Ground.data }, { on := 11, ground := Ground.data }, { on := 11, ground := Ground.chain }, { on := 0, ground := Ground.phase }, { on := 1, ground := Ground.textOnly Departure.lateStores }, { on := 2, ground := Ground.phase }, { on := 3, ground := Ground.phase }, { on := 4, ground := Ground.phase }, { on := 5, ground := Ground.phase }, { on := 6, ground := Ground.phase }, { on := 7, ground := Ground.phase }, { on := 8, ground := Ground.phase }, { on := 9, ground := Ground.phase }, { on := 10, ground := Ground.phase }, { on := 11, ground := Ground.phase }], guard := none }) rfl (fun K hK => ?_) AllReadyH.nil
    have k0 := hC0 _ B1
    have kf := hF _ B1
    go_simp
    clear k0 kf
    refine hK.out _ _ trivial (fun hHeld => ?_)
    clear hK K
    try simp only [Act.put, List.setIfInBounds_toArray, List.set_cons_zero, List.set_cons_succ]
    refine wpAnyH_take (i := 15) (oi := { dst := some 37, op := Op.nilCheck (Operand.tmp 24), type := 0, pos := "reader.go:58", after := #[{ on := 1, ground := Ground.data }, { on := 0, ground := Ground.phase }, { on := 1, ground := Ground.phase }, { on := 2, ground := Ground.phase }, { on := 3, ground := Ground.phase }, { on := 4, ground := Ground.phase }, { on := 5, ground := Ground.phase }, { on := 6, ground := Ground.phase }, { on := 7, ground := Ground.phase }, { on := 8, ground := Ground.phase }, { on := 9, ground := Ground.phase }, { on := 10, ground := Ground.phase }, { on := 11, ground := Ground.phase }, { on := 12, ground := Ground.phase }, { on := 13, ground := Ground.phase }, { on := 14, ground := Ground.phase }], guard := none }) (v := ?_) rfl (by kernel_rfl) (by kernel_rfl) (by kernel_rfl) (fun c a w h => hp c _ _ _ w h) (Or.inl ⟨by rfl, ?_⟩) hHeld ?_
    rotate_left
    · (intro w hSw; (try dsimp only at hSw); go_simp; all_goals (try with_reducible rfl))
    try simp only [Act.put, List.setIfInBounds_toArray, List.set_cons_zero, List.set_cons_succ]
    refine wpAnyH_take (i := 16) (oi := { dst := some 38, op := Op.fieldAddr 40 (Operand.tmp 37) 1, type := 0, pos := "reader.go:58", after := #[{ on := 15, ground := Ground.data }, { on := 0, ground := Ground.phase }, { on := 1, ground := Ground.phase }, { on := 2, ground := Ground.phase }, { on := 3, ground := Ground.phase }, { on := 4, ground := Ground.phase }, { on := 5, ground := Ground.phase }, { on := 6, ground := Ground.phase }, { on := 7, ground := Ground.phase }, { on := 8, ground := Ground.phase }, { on := 9, ground := Ground.phase }, { on := 10, ground := Ground.phase }, { on := 11, ground := Ground.phase }, { on := 12, ground := Ground.phase }, { on := 13, ground := Ground.phase }, { on := 14, ground := Ground.phase }], guard := none }) (v := ?_) rfl (by kernel_rfl) (by kernel_rfl) (by kernel_rfl) (fun c a w h => hp c _ _ _ w h) (Or.inl ⟨by rfl, ?_⟩) hHeld ?_
    rotate_left
    · (intro w hSw; (try dsimp only at hSw); go_simp; all_goals (try with_reducible rfl))
    try simp only [Act.put, List.setIfInBounds_toArray, List.set_cons_zero, List.set_cons_succ]
    refine wpAnyH_ready (rs := [17]) (by kernel_rfl) (by simp) ?_
    refine AllReadyH.cons (o := { dst := none, op := Op.store 3 (Operand.tmp 38) (Operand.const (Value.int IntKind.i64 0)), type := 0, pos := "reader.go:58", after := #[{ on := 16, ground := Ground.data }, { on := 14, ground := Ground.chain }, { on := 0, ground := Ground.phase }, { on := 1, ground := Ground.phase }, { on := 2, ground := Ground.phase }, { on := 3, ground := Ground.phase }, { on := 4, ground := Ground.phase }, { on := 5, ground := Ground.phase }, { on := 6, ground := Ground.phase }, { on := 7, ground := Ground.phase }, { on := 8, ground := Ground.phase }, { on := 9, ground := Ground.phase }, { on := 10, ground := Ground.phase }, { on := 11, ground := Ground.phase }, { on := 12, ground := Ground.phase }, { on := 13, ground := Ground.phase }, { on := 14, ground := Ground.phase }], guard := none }) rfl (fun K hK => ?_) AllReadyH.nil
    have k1 := hC1 _ B1
    have kf := hF _ B1
    go_simp
    clear k1 kf
    refine hK.out _ _ trivial (fun hHeld => ?_)
    clear hK K
    try simp only [Act.put, List.setIfInBounds_toArray, List.set_cons_zero, List.set_cons_succ]
    refine wpAnyH_done (by kernel_rfl) ?_ _
    exact hfin.out _ _ B1 ho hn
  refine AllReadyH.cons (o := { dst := some 32, op := Op.load 3 (Operand.tmp 31), type := 3, pos := "reader.go:58", after := #[{ on := 8, ground := Ground.data }], guard := none }) rfl (fun K hK => ?_) AllReadyH.nil
  have k1 := hC1 _ B0
  go_simp
  clear k1
  refine hK.out _ _ trivial (fun hHeld => ?_)
  clear hK K
  try simp only [Act.put, List.setIfInBounds_toArray, List.set_cons_zero, List.set_cons_succ]
  refine wpAnyH_ready (rs := [5]) (by kernel_rfl) (by simp) ?_
  refine AllReadyH.cons (o := { dst := some 28, op := Op.load 35 (Operand.tmp 27), type := 35, pos := "reader.go:58", after := #[{ on := 4, ground := Ground.data }], guard := none }) rfl (fun K hK => ?_) AllReadyH.nil
  have k0 := hC0 _ B0
  go_simp
  clear k0
  refine hK.out _ _ trivial (fun hHeld => ?_)
  clear hK K
  try simp only [Act.put, List.setIfInBounds_toArray, List.set_cons_zero, List.set_cons_succ]
  refine wpAnyH_take (i := 10) (oi := { dst := some 33, op := Op.slice 35 (Operand.tmp 28) (some (Operand.tmp 32)) none none, type := 35, pos := "reader.go:58", after := #[{ on := 5, ground := Ground.data }, { on := 9, ground := Ground.data }], guard := none }) (v := ?_) rfl (by kernel_rfl) (by kernel_rfl) (by kernel_rfl) (fun c a w h => hp c _ _ _ w h) (Or.inl ⟨by rfl, ?_⟩) hHeld ?_
  rotate_left
  · (intro w hSw; (try dsimp only at hSw); go_simp; all_goals (try with_reducible rfl))
  try simp only [Act.put, List.setIfInBounds_toArray, List.set_cons_zero, List.set_cons_succ]
  refine wpAnyH_ready (rs := [11]) (by kernel_rfl) (by simp) ?_
  refine AllReadyH.cons (o := { dst := some 34, op := Op.call { callee := Callee.builtin Builtin.append, args := #[Operand.const (Value.slice none 0 0), Operand.tmp 33], argTypes := #[35, 35] }, type := 35, pos := "reader.go:58", after := #[{ on := 10, ground := Ground.data }], guard := none }) rfl (fun K hK => ?_) AllReadyH.nil
  obtain ⟨v', X1, hr, ho, hb, hn⟩ := hApp.out _ B0
  have B1 : Below W0.heap.size W0 X1 := hb
  obtain ⟨a3, c3, rfl, _, _⟩ := ho.bs
  refine append_stepB (by rfl) _ _ (by rfl) (by rfl) _ _ _ _ (by rfl) (by rfl) hr ?_
  refine hK.out _ _ trivial (fun hHeld => ?_)
  clear hK K
  try simp only [Act.put, List.setIfInBounds_toArray, List.set_cons_zero, List.set_cons_succ]
  refine wpAnyH_take (i := 12) (oi := { dst := some 35, op := Op.nilCheck (Operand.tmp 23), type := 0, pos := "reader.go:58", after := #[{ on := 0, ground := Ground.data }, { on := 0, ground := Ground.phase }, { on := 1, ground := Ground.textOnly Departure.lateStores }, { on := 2, ground := Ground.phase }, { on := 3, ground := Ground.phase }, { on := 4, ground := Ground.phase }, { on := 5, ground := Ground.phase }, { on := 6, ground := Ground.phase }, { on := 7, ground := Ground.phase }, { on := 8, ground := Ground.phase }, { on := 9, ground := Ground.phase }, { on := 10, ground := Ground.phase }, { on := 11, ground := Ground.phase }], guard := none }) (v := ?_) rfl (by kernel_rfl) (by kernel_rfl) (by kernel_rfl) (fun c a w h => hp c _ _ _ w h) (Or.inl ⟨by rfl, ?_⟩) hHeld ?_
  rotate_left
  · (intro w hSw; (try dsimp only at hSw); go_simp; all_goals (try with_reducible rfl))
  try simp only [Act.put, List.setIfInBounds_toArray, List.set_cons_zero, List.set_cons_succ]
  refine wpAnyH_take (i := 13) (oi := { dst := some 36, op := Op.fieldAddr 40 (Operand.tmp 35) 0, type := 0, pos := "reader.go:58", after := #[{ on := 12, ground := Ground.data }, { on := 0, ground := Ground.phase }, { on := 1, ground := Ground.textOnly Departure.lateStores }, { on := 2, ground := Ground.phase }, { on := 3, ground := Ground.phase }, { on := 4, ground := Ground.phase }, { on := 5, ground := Ground.phase }, { on := 6, ground := Ground.phase }, { on := 7, ground := Ground.phase }, { on := 8, ground := Ground.phase }, { on := 9, ground := Ground.phase }, { on := 10, ground := Ground.phase }, { on := 11, ground := Ground.phase }], guard := none }) (v := ?_) rfl (by kernel_rfl) (by kernel_rfl) (by kernel_rfl) (fun c a w h => hp c _ _ _ w h) (Or.inl ⟨by rfl, ?_⟩) hHeld ?_
  rotate_left
  · (intro w hSw; (try dsimp only at hSw); go_simp; all_goals (try with_reducible rfl))
  try simp only [Act.put, List.setIfInBounds_toArray, List.set_cons_zero, List.set_cons_succ]
  refine wpAnyH_ready (rs := [14]) (by kernel_rfl) (by simp) ?_
  refine AllReadyH.cons (o := { dst := none, op := Op.store 35 (Operand.tmp 36) (Operand.tmp 34), type := 0, pos := "reader.go:58", after := #[{ on := 13, ground := Ground.data }, { on := 11, ground := Ground.data }, { on := 11, ground := Ground.chain }, { on := 0, ground := Ground.phase }, { on := 1, ground := Ground.textOnly Departure.lateStores }, { on := 2, ground := Ground.phase }, { on := 3, ground := Ground.phase }, { on := 4, ground := Ground.phase }, { on := 5, ground := Ground.phase }, { on := 6, ground := Ground.phase }, { on := 7, ground := Ground.phase }, { on := 8, ground := Ground.phase }, { on := 9, ground := Ground.phase }, { on := 10, ground := Ground.phase }, { on := 11, ground := Ground.phase }], guard := none }) rfl (fun K hK => ?_) AllReadyH.nil
  have k0 := hC0 _ B1
  have kf := hF _ B1
  go_simp
  clear k0 kf
  refine hK.out _ _ trivial (fun hHeld => ?_)
  clear hK K
  try simp only [Act.put, List.setIfInBounds_toArray, List.set_cons_zero, List.set_cons_succ]
  refine wpAnyH_take (i := 15) (oi := { dst := some 37, op := Op.nilCheck (Operand.tmp 24), type := 0, pos := "reader.go:58", after := #[{ on := 1, ground := Ground.data }, { on := 0, ground := Ground.phase }, { on := 1, ground := Ground.phase }, { on := 2, ground := Ground.phase }, { on := 3, ground := Ground.phase }, { on := 4, ground := Ground.phase }, { on := 5, ground := Ground.phase }, { on := 6, ground := Ground.phase }, { on := 7, ground := Ground.phase }, { on := 8, ground := Ground.phase }, { on := 9, ground := Ground.phase }, { on := 10, ground := Ground.phase }, { on := 11, ground := Ground.phase }, { on := 12, ground := Ground.phase }, { on := 13, ground := Ground.phase }, { on := 14, ground := Ground.phase }], guard := none }) (v := ?_) rfl (by kernel_rfl) (by kernel_rfl) (by kernel_rfl) (fun c a w h => hp c _ _ _ w h) (Or.inl ⟨by rfl, ?_⟩) hHeld ?_
  rotate_left
  · (intro w hSw; (try dsimp only at hSw); go_simp; all_goals (try with_reducible rfl))
  try simp only [Act.put, List.setIfInBounds_toArray, List.set_cons_zero, List.set_cons_succ]
  refine wpAnyH_take (i := 16) (oi := { dst := some 38, op := Op.fieldAddr 40 (Operand.tmp 37) 1, type := 0, pos := "reader.go:58", after := #[{ on := 15, ground := Ground.data }, { on := 0, ground := Ground.phase }, { on := 1, ground := Ground.phase }, { on := 2, ground := Ground.phase }, { on := 3, ground := Ground.phase }, { on := 4, ground := Ground.phase }, { on := 5, ground := Ground.phase }, { on := 6, ground := Ground.phase }, { on := 7, ground := Ground.phase }, { on := 8, ground := Ground.phase }, { on := 9, ground := Ground.phase }, { on := 10, ground := Ground.phase }, { on := 11, ground := Ground.phase }, { on := 12, ground := Ground.phase }, { on := 13, ground := Ground.phase }, { on := 14, ground := Ground.phase }], guard := none }) (v := ?_) rfl (by kernel_rfl) (by kernel_rfl) (by kernel_rfl) (fun c a w h => hp c _ _ _ w h) (Or.inl ⟨by rfl, ?_⟩) hHeld ?_
  rotate_left
  · (intro w hSw; (try dsimp only at hSw); go_simp; all_goals (try with_reducible rfl))
  try simp only [Act.put, List.setIfInBounds_toArray, List.set_cons_zero, List.set_cons_succ]
  refine wpAnyH_ready (rs := [17]) (by kernel_rfl) (by simp) ?_
  refine AllReadyH.cons (o := { dst := none, op := Op.store 3 (Operand.tmp 38) (Operand.const (Value.int IntKind.i64 0)), type := 0, pos := "reader.go:58", after := #[{ on := 16, ground := Ground.data }, { on := 14, ground := Ground.chain }, { on := 0, ground := Ground.phase }, { on := 1, ground := Ground.phase }, { on := 2, ground := Ground.phase }, { on := 3, ground := Ground.phase }, { on := 4, ground := Ground.phase }, { on := 5, ground := Ground.phase }, { on := 6, ground := Ground.phase }, { on := 7, ground := Ground.phase }, { on := 8, ground := Ground.phase }, { on := 9, ground := Ground.phase }, { on := 10, ground := Ground.phase }, { on := 11, ground := Ground.phase }, { on := 12, ground := Ground.phase }, { on := 13, ground := Ground.phase }, { on := 14, ground := Ground.phase }], guard := none }) rfl (fun K hK => ?_) AllReadyH.nil
  have k1 := hC1 _ B1
  have kf := hF _ B1
  go_simp
  clear k1 kf
  refine hK.out _ _ trivial (fun hHeld => ?_)
  clear hK K
  try simp only [Act.put, List.setIfInBounds_toArray, List.set_cons_zero, List.set_cons_succ]
  refine wpAnyH_done (by kernel_rfl) ?_ _
  exact hfin.out _ _ B1 ho hn

/-- What a drop leaves. -/
structure Dropped (W W' : World) (B r : Nat) (v : Value) (l : List UInt8) (lost : Int) (v' : Value) (H' : List UInt8) (G' : Nat) : Prop where
  rd : RdAt W' B r v' H' G' lost
  rest : H'.drop G' = l
  half : 2 * G' ≤ H'.length
  mod : Mod [r] W W'
  new : ∀ g, v'.ownBlock = some g → v.ownBlock = some g ∨ W.heap.size ≤ g
set_option maxHeartbeats 1000000 in
theorem drop_any {W : World} {B r : Nat} {v : Value} {H : List UInt8} {G : Nat} {lost : Int} (h : RdAt W B r v H G lost) (n : Nat) (hn : G + n ≤ H.length) (hB : B ≤ W.heap.size) :
    Calls Try.prog 19 #[.pointer (some ⟨r, 0, none⟩), .int .i64 n] W fun e w' => e = .returned (.tuple #[]) ∧ ∃ v' H' G', Dropped W w' B r v (H.drop (G + n)) lost v' H' G' := by
  have hlen := h.len
  obtain ⟨a, cap, rfl, hbs, _, hcap⟩ := h.ob.bs
  have hle := hbs.le
  have hR1 := h.set1 (G + n) hn
  have HM1 : Hid (Mod [r] W (W.setCell ⟨r, 1, none⟩ (.int .i64 ((G + n : Nat) : Int)))) := (Mod.refl _ _).setCell _ _ _ (by simp)
  have HR1 : Hid (RdAt (W.setCell ⟨r, 1, none⟩ (.int .i64 ((G + n : Nat) : Int))) B r (.slice a H.length cap) H (G + n) lost) := hR1
  have hcast : ((G + n : Nat) : Int) = (G : Int) + (n : Int) := by omega
  rw [hcast] at HM1 HR1
  have c1 := h.c1
  have uf := h.f
  have HLT : Hid (r < W.heap.size) := h.lt
  obtain ⟨L, hL⟩ : ∃ L, H.length = L := ⟨_, rfl⟩
  have hLb : L ≤ 500000000 := by omega
  by_cases c : G + n ≤ H.length / 2
  · have HF : Hid (2 * (G + n) ≤ H.length) := by show _ ≤ _; omega
    have c' : decide ((L : Int) / 2 < (G : Int) + (n : Int)) = false := by simp; omega
    clear h hbs hcap hR1 hcast
    have k0 := HR1.out.c0
    have k1 := HR1.out.c1
    rw [hL] at k0
    have HL : Hid (H.length = L) := hL
    clear hL
    go_enter Try.func19, Try.ntmps19
    go_wp2
    go_region
    all_goals
      go_wp2
      first | go_end0 | refine bodyPost_ret (results_none rfl _ _ _) rfl ?_
      refine ⟨rfl, _, H, G + n, ?_, rfl, HF.out, HM1.out.drew, fun g hg => .inl hg⟩
      exact HR1.out.mod (S := []) ((Mod.refl _ _).drew) (by simp)
  · have c' : decide ((L : Int) / 2 < (G : Int) + (n : Int)) = true := by simp; omega
    obtain ⟨a2, hsl, hbs2⟩ := hbs.from (G + n) hn
    rw [hcast, hL] at hsl
    have HBS : Hid (BS W a2 (cap - (G + n)) (H.drop (G + n)) ∧ L - (G + n) = (H.drop (G + n)).length) := ⟨hbs2, by rw [List.length_drop, hL]⟩
    have HSL : Hid (∀ X, (Instr.slice 35 (.slice a L cap) (some (.int .i64 ((G : Int) + (n : Int)))) none none).run Try.prog X = .ok (.slice a2 (L - (G + n)) (cap - (G + n))) X) := hsl
    clear h hbs hcap hR1 hbs2 hsl
    have k0 := HR1.out.c0
    have k1 := HR1.out.c1
    rw [hL] at k0
    have HL : Hid (H.length = L) := hL
    clear hL
    go_enter Try.func19, Try.ntmps19
    go_wp2
    go_region
    all_goals
      go_wp2_with fail
      obtain ⟨Y, hY⟩ : ∃ Z, (W.setCell ⟨r, 1, none⟩ (.int .i64 ((G : Int) + (n : Int)))).drew = Z := ⟨_, rfl⟩
      have HRY : Hid (RdAt Y B r (.slice a H.length cap) H (G + n) lost ∧ Mod [r] W Y ∧ Y.heap.size = W.heap.size) := by
        subst hY; exact ⟨HR1.out.mod (S := []) ((Mod.refl _ _).drew) (by simp), HM1.out.drew, by simp⟩
      have HBY : Hid (∀ X, Below Y.heap.size Y X → BS X a2 (cap - (G + n)) (H.drop (G + n))) := fun X hX => by
        obtain ⟨a', cap', e, hb', _⟩ := (HRY.out.1.below hX).ob.bs
        simp only [Value.slice.injEq, true_and] at e
        obtain ⟨rfl, rfl⟩ := e
        obtain ⟨a3, hs3, hb3⟩ := hb'.from (G + n) hn
        have e1 := HSL.out X
        have e2 := hs3 X
        rw [hcast, HL.out] at e2
        rw [e1] at e2
        simp only [Result.ok.injEq, Value.slice.injEq, and_true] at e2
        subst e2
        exact hb3
      rw [hY]
      clear hY HM1 HR1 k0 k1
      have y0 := HRY.out.1.c0
      rw [HL.out] at y0
      refine drop_tail Y r L cap (L - (G + n)) (cap - (G + n)) ((G : Int) + (n : Int)) a a2 (H.drop (G + n)) _ _ _ _ _ _ _ _ _ _ _ _ _ _ _ _ _ _ _ _ _ _ _ _ _ _ _ _ _ _ _ _ _ _ _ _ _ _ _ y0 (by have := HRY.out.1.c1; rw [hcast] at this; exact this) HRY.out.1.f HSL.out (fun X hX => OB.copied (HBY.out X hX) _ HBS.out.2 (by rw [List.length_drop]; omega)) (fun c a dd vv w h => by cases dd <;> exact h) ?_
      intro X v' hb ho hnil
      clear y0
      have hX := HRY.out.1.below hb
      have HD : Hid (Dropped W ((X.setCell ⟨r, 0, none⟩ v').setCell ⟨r, 1, none⟩ (.int .i64 0)) B r (.slice a H.length cap) (H.drop (G + n)) lost v' (H.drop (G + n)) 0) := by
        have hsz := HRY.out.2.2
        have hlt := HRY.out.1.lt
        have hm : Mod [r] X ((X.setCell ⟨r, 0, none⟩ v').setCell ⟨r, 1, none⟩ (.int .i64 0)) := ((Mod.refl _ _).setCell _ _ _ (by simp)).setCell _ _ _ (by simp)
        refine ⟨⟨?_, ?_, ?_, fun i => by simp [hX.f], (ho.mono (by omega)).mod hm (fun g e => ?_), hnil, Nat.zero_le _, by rw [List.length_drop]; omega, hX.lo⟩, rfl, by omega, HRY.out.2.1.trans ((Mod.of_below (S := [r]) hb).trans hm), fun g e => .inr ?_⟩
        · rw [cell_oo _ _ _ _ _ _ (by omega)]; exact World.cell?_setCell_same _ _ _ hX.c0
        · exact World.cell?_setCell_same _ _ _ ((cell_oo _ _ _ _ _ _ (by omega)).trans hX.c1)
        · rw [cell_oo _ _ _ _ _ _ (by omega), cell_oo _ _ _ _ _ _ (by omega)]; exact hX.c2
        · have := (ho.lt g e).1; simp; omega
        · have := (ho.lt g e).1; omega
      clear hb ho hnil hX HRY HBY HBS HSL
      go_wp2
      first | go_end0 | refine bodyPost_ret (results_none rfl _ _ _) rfl ?_
      exact ⟨rfl, _, _, _, HD.out⟩
end Go.Proofs.Ytglkoedmonenoaa
