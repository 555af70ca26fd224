/- The contract of trace's compare. Conditions: none but the model's numbers. -/
import Derived.Test.YtipbjoeekbgnbaaBz7
import Derived.Deep.RegionHeld3
namespace Go.Proofs.Ytipbjoeekbgnbaa
open Go.RowKit
set_option linter.unusedVariables false
set_option maxRecDepth 100000

theorem tsum_one (v : Int) (hv : PrFit v) (X : World) : Calls Try.prog 21 #[.slice (some ⟨X.heap.size, 0, none⟩) 1 1] (X.alloc (.cells #[.int .i64 (v / 18446744073709551616), .int .u64 (v % 18446744073709551616)] 63)) fun e W' => e = .returned (toV v) ∧ Below X.heap.size X W' := by
  have := tsum_any (some ⟨X.heap.size, 0, none⟩) 1 [v] (X.alloc (.cells #[.int .i64 (v / 18446744073709551616), .int .u64 (v % 18446744073709551616)] 63)) (fun i hi => by
    obtain rfl : i = 0 := by simpa using hi
    exact ⟨_, _, rfl, by simp [go_sem], by simp [go_sem]⟩) (by simp) (fun w hw => by simp at hw; subst hw; exact hv)
  refine this.mono ?_
  rintro e W' ⟨rfl, hb⟩
  exact ⟨by simp, ((Below.refl _ X).alloc (Nat.le_refl _) _).trans (hb.mono (by simp))⟩
theorem or_three (a b c : Int) (g : Nat) (X : World) (h0 : X.cell? ⟨g, 0, none⟩ = some (.int .i64 a)) (h1 : X.cell? ⟨g, 1, none⟩ = some (.int .i64 b)) (h2 : X.cell? ⟨g, 2, none⟩ = some (.int .i64 c)) : Calls Try.prog 36 #[.slice (some ⟨g, 0, none⟩) 3 3] X fun e W' => e = .returned (.int .i64 (orN [a, b, c])) ∧ W' = X :=
  orInt_any (some ⟨g, 0, none⟩) 3 [a, b, c] X (fun i hi => by
    have : i = 0 ∨ i = 1 ∨ i = 2 := by simp at hi; omega
    rcases this with rfl | rfl | rfl
    · exact ⟨_, _, rfl, by simpa using h0⟩
    · exact ⟨_, _, rfl, by simpa using h1⟩
    · exact ⟨_, _, rfl, by simpa using h2⟩) (by simp)
set_option maxHeartbeats 8000000 in
theorem tcompare_any (S x : Int) (W : World) (hx : B64 x) :
    Calls Try.prog 22 #[toV S, .int .i64 x] W fun e W' => e = .returned (.int .i64 (cmpT S (x * 4294967296))) ∧ Below W.heap.size W W' := by
  have HT : Hid (∀ X, Calls Try.prog 20 #[.int .i64 x, .int .i64 4294967296] X fun e W' => e = .returned (.agg #[.int .i64 (x * 4294967296 / 18446744073709551616), .int .u64 (x * 4294967296 % 18446744073709551616)]) ∧ Below X.heap.size X W') := fun X => ttimes_any x 4294967296 X hx (by unfold B64; omega)
  have hfit : PrFit (x * 4294967296) := by unfold PrFit; unfold B64 at hx; omega
  have HS : Hid (∀ X, Calls Try.prog 21 #[.slice (some ⟨X.heap.size, 0, none⟩) 1 1] (X.alloc (.cells #[.int .i64 (x * 4294967296 / 18446744073709551616), .int .u64 (x * 4294967296 % 18446744073709551616)] 63)) fun e W' => e = .returned (toV (x * 4294967296)) ∧ Below X.heap.size X W') := fun X => tsum_one _ hfit X
  have HC := cmp3 S (x * 4294967296)
  unfold toV at HS ⊢
  generalize x * 4294967296 = T at *
  generalize T / 18446744073709551616 % 18446744073709551616 = t1 at *
  generalize T / 18446744073709551616 = th at *
  generalize T % 18446744073709551616 = t2 at *
  generalize T / 340282366920938463463374607431768211456 = t0 at *
  generalize S / 18446744073709551616 % 18446744073709551616 = s1 at *
  generalize S % 18446744073709551616 = s2 at *
  generalize S / 340282366920938463463374607431768211456 = s0 at *
  have HC2 : Hid (orN [cmpT s0 t0, cmpT s1 t1, cmpT s2 t2] = cmpT S T) := HC
  clear HC hfit
  generalize cmpT S T = res at *
  have HB : Hid (Below W.heap.size W (W.alloc (.cells #[.int .i64 s0, .int .u64 s1, .int .u64 s2] 66))) := (Below.refl _ _).alloc (Nat.le_refl _) _
  go_enter Try.func22, Try.ntmps22
  go_wp2_with fail
  refine Calls.mono (HT.out _) ?_
  rintro e W2 ⟨rfl, hb2⟩
  have HB2 : Hid (Below W.heap.size W W2) := HB.out.trans (hb2.mono HB.out.size)
  have c0 : W2.cell? ⟨W.heap.size, 0, none⟩ = some (.int .i64 s0) := by rw [hb2.cell (p := ⟨W.heap.size, 0, none⟩) (by simp)]; simp [go_sem]
  have c1 : W2.cell? ⟨W.heap.size, 1, none⟩ = some (.int .u64 s1) := by rw [hb2.cell (p := ⟨W.heap.size, 1, none⟩) (by simp)]; simp [go_sem]
  have c2 : W2.cell? ⟨W.heap.size, 2, none⟩ = some (.int .u64 s2) := by rw [hb2.cell (p := ⟨W.heap.size, 2, none⟩) (by simp)]; simp [go_sem]
  clear hb2
  go_wp2_with fail
  refine Calls.mono (HS.out _) ?_
  rintro e W3 ⟨rfl, hb3⟩
  have HB3 : Hid (Below W.heap.size W W3) := HB2.out.trans (hb3.mono HB2.out.size)
  have d0 := cell_up hb3 c0
  have d1 := cell_up hb3 c1
  have d2 := cell_up hb3 c2
  have hlt : W.heap.size < W3.heap.size := World.block_lt_of_cell? _ _ d0
  have hne : W.heap.size ≠ W3.heap.size := by omega
  clear hb3 c0 c1 c2
  go_wp2_with fail
  have HALL : Hid (∀ X, Below (W3.alloc (.cells #[.int .i64 t0, .int .u64 t1, .int .u64 t2] 66)).heap.size (W3.alloc (.cells #[.int .i64 t0, .int .u64 t1, .int .u64 t2] 66)) X → X.cell? ⟨W.heap.size, 0, none⟩ = some (.int .i64 s0) ∧ X.cell? ⟨W.heap.size, 1, none⟩ = some (.int .u64 s1) ∧ X.cell? ⟨W.heap.size, 2, none⟩ = some (.int .u64 s2) ∧ X.cell? ⟨W3.heap.size, 0, none⟩ = some (.int .i64 t0) ∧ X.cell? ⟨W3.heap.size, 1, none⟩ = some (.int .u64 t1) ∧ X.cell? ⟨W3.heap.size, 2, none⟩ = some (.int .u64 t2)) := fun X hX =>
    ⟨cell_up hX (by rw [cell_alloc_lt _ _ _ _ hlt]; exact d0), cell_up hX (by rw [cell_alloc_lt _ _ _ _ hlt]; exact d1), cell_up hX (by rw [cell_alloc_lt _ _ _ _ hlt]; exact d2), cell_up hX (by simp [go_sem]), cell_up hX (by simp [go_sem]), cell_up hX (by simp [go_sem])⟩
  have HBF : Hid (Below W.heap.size W (((W3.alloc (.cells #[.int .i64 t0, .int .u64 t1, .int .u64 t2] 66)).alloc (.cells #[.int .i64 (cmpT s0 t0), .int .i64 (cmpT s1 t1), .int .i64 (cmpT s2 t2)] 3)).drew)) := ((HB3.out.alloc (by omega) _).alloc (by simp; omega) _).drew
  have HBC : Hid (Below (W3.alloc (.cells #[.int .i64 t0, .int .u64 t1, .int .u64 t2] 66)).heap.size (W3.alloc (.cells #[.int .i64 t0, .int .u64 t1, .int .u64 t2] 66)) (W3.alloc (.cells #[.int .i64 t0, .int .u64 t1, .int .u64 t2] 66)).drew) := (Below.refl _ _).drew
  have HOR : Hid (Calls Try.prog 36 #[.slice (some ⟨W3.heap.size + 1, 0, none⟩) 3 3] (((W3.alloc (.cells #[.int .i64 t0, .int .u64 t1, .int .u64 t2] 66)).alloc (.cells #[.int .i64 (cmpT s0 t0), .int .i64 (cmpT s1 t1), .int .i64 (cmpT s2 t2)] 3)).drew) fun e W' => e = .returned (.int .i64 (orN [cmpT s0 t0, cmpT s1 t1, cmpT s2 t2])) ∧ W' = ((W3.alloc (.cells #[.int .i64 t0, .int .u64 t1, .int .u64 t2] 66)).alloc (.cells #[.int .i64 (cmpT s0 t0), .int .i64 (cmpT s1 t1), .int .i64 (cmpT s2 t2)] 3)).drew) := or_three _ _ _ _ _ (by simp [go_sem]) (by simp [go_sem]) (by simp [go_sem])
  clear d0 d1 d2 hne hlt
  refine wp_region_held_drew (S := fun W' => W'.cell? ⟨W.heap.size, 0, none⟩ = some (.int .i64 s0) ∧ W'.cell? ⟨W.heap.size, 1, none⟩ = some (.int .u64 s1) ∧ W'.cell? ⟨W.heap.size, 2, none⟩ = some (.int .u64 s2) ∧ W'.cell? ⟨W3.heap.size, 0, none⟩ = some (.int .i64 t0) ∧ W'.cell? ⟨W3.heap.size, 1, none⟩ = some (.int .u64 t1) ∧ W'.cell? ⟨W3.heap.size, 2, none⟩ = some (.int .u64 t2)) (by kernel_rfl) (HALL.out _ HBC.out) (fun hHeld => ?_)
  refine wpAnyH_take (i := 0) (oi := { dst := some 10, op := Op.fieldAddr 66 (Operand.tmp 2) 0, type := 0, pos := "sum.go:66", after := #[], guard := none }) (v := ?_) rfl (by kernel_rfl) (by kernel_rfl) (by kernel_rfl) (fun _ _ _ h => h) (Or.inl ⟨by rfl, ?_⟩) hHeld ?_
  rotate_left
  · (intro w hSw; (try dsimp only at hSw); go_simp; all_goals (try with_reducible rfl))
  try simp only [Act.put, List.setIfInBounds_toArray, List.set_cons_zero, List.set_cons_succ]
  refine wpAnyH_take (i := 1) (oi := { dst := some 11, op := Op.load 3 (Operand.tmp 10), type := 3, pos := "sum.go:66", after := #[{ on := 0, ground := Ground.data }], guard := none }) (v := ?_) rfl (by kernel_rfl) (by kernel_rfl) (by kernel_rfl) (fun _ _ _ h => h) (Or.inl ⟨by rfl, ?_⟩) hHeld ?_
  rotate_left
  · (intro w hSw; (try dsimp only at hSw); go_simp; all_goals (try with_reducible rfl))
  try simp only [Act.put, List.setIfInBounds_toArray, List.set_cons_zero, List.set_cons_succ]
  refine wpAnyH_take (i := 2) (oi := { dst := some 12, op := Op.fieldAddr 66 (Operand.tmp 5) 0, type := 0, pos := "sum.go:66", after := #[], guard := none }) (v := ?_) rfl (by kernel_rfl) (by kernel_rfl) (by kernel_rfl) (fun _ _ _ h => h) (Or.inl ⟨by rfl, ?_⟩) hHeld ?_
  rotate_left
  · (intro w hSw; (try dsimp only at hSw); go_simp; all_goals (try with_reducible rfl))
  try simp only [Act.put, List.setIfInBounds_toArray, List.set_cons_zero, List.set_cons_succ]
  refine wpAnyH_take (i := 3) (oi := { dst := some 13, op := Op.load 3 (Operand.tmp 12), type := 3, pos := "sum.go:66", after := #[{ on := 2, ground := Ground.data }], guard := none }) (v := ?_) rfl (by kernel_rfl) (by kernel_rfl) (by kernel_rfl) (fun _ _ _ h => h) (Or.inl ⟨by rfl, ?_⟩) hHeld ?_
  rotate_left
  · (intro w hSw; (try dsimp only at hSw); go_simp; all_goals (try with_reducible rfl))
  try simp only [Act.put, List.setIfInBounds_toArray, List.set_cons_zero, List.set_cons_succ]
  refine wpAnyH_take (i := 5) (oi := { dst := some 15, op := Op.fieldAddr 66 (Operand.tmp 2) 1, type := 0, pos := "sum.go:66", after := #[], guard := none }) (v := ?_) rfl (by kernel_rfl) (by kernel_rfl) (by kernel_rfl) (fun _ _ _ h => h) (Or.inl ⟨by rfl, ?_⟩) hHeld ?_
  rotate_left
  · (intro w hSw; (try dsimp only at hSw); go_simp; all_goals (try with_reducible rfl))
  try simp only [Act.put, List.setIfInBounds_toArray, List.set_cons_zero, List.set_cons_succ]
  refine wpAnyH_take (i := 6) (oi := { dst := some 16, op := Op.load 61 (Operand.tmp 15), type := 61, pos := "sum.go:66", after := #[{ on := 5, ground := Ground.data }], guard := none }) (v := ?_) rfl (by kernel_rfl) (by kernel_rfl) (by kernel_rfl) (fun _ _ _ h => h) (Or.inl ⟨by rfl, ?_⟩) hHeld ?_
  rotate_left
  · (intro w hSw; (try dsimp only at hSw); go_simp; all_goals (try with_reducible rfl))
  try simp only [Act.put, List.setIfInBounds_toArray, List.set_cons_zero, List.set_cons_succ]
  refine wpAnyH_take (i := 7) (oi := { dst := some 17, op := Op.fieldAddr 66 (Operand.tmp 5) 1, type := 0, pos := "sum.go:66", after := #[], guard := none }) (v := ?_) rfl (by kernel_rfl) (by kernel_rfl) (by kernel_rfl) (fun _ _ _ h => h) (Or.inl ⟨by rfl, ?_⟩) hHeld ?_
  rotate_left
  · (intro w hSw; (try dsimp only at hSw); go_simp; all_goals (try with_reducible rfl))
  try simp only [Act.put, List.setIfInBounds_toArray, List.set_cons_zero, List.set_cons_succ]
  refine wpAnyH_take (i := 8) (oi := { dst := some 18, op := Op.load 61 (Operand.tmp 17), type := 61, pos := "sum.go:66", after := #[{ on := 7, ground := Ground.data }], guard := none }) (v := ?_) rfl (by kernel_rfl) (by kernel_rfl) (by kernel_rfl) (fun _ _ _ h => h) (Or.inl ⟨by rfl, ?_⟩) hHeld ?_
  rotate_left
  · (intro w hSw; (try dsimp only at hSw); go_simp; all_goals (try with_reducible rfl))
  try simp only [Act.put, List.setIfInBounds_toArray, List.set_cons_zero, List.set_cons_succ]
  refine wpAnyH_take (i := 10) (oi := { dst := some 20, op := Op.fieldAddr 66 (Operand.tmp 2) 2, type := 0, pos := "sum.go:66", after := #[], guard := none }) (v := ?_) rfl (by kernel_rfl) (by kernel_rfl) (by kernel_rfl) (fun _ _ _ h => h) (Or.inl ⟨by rfl, ?_⟩) hHeld ?_
  rotate_left
  · (intro w hSw; (try dsimp only at hSw); go_simp; all_goals (try with_reducible rfl))
  try simp only [Act.put, List.setIfInBounds_toArray, List.set_cons_zero, List.set_cons_succ]
  refine wpAnyH_take (i := 11) (oi := { dst := some 21, op := Op.load 61 (Operand.tmp 20), type := 61, pos := "sum.go:66", after := #[{ on := 10, ground := Ground.data }], guard := none }) (v := ?_) rfl (by kernel_rfl) (by kernel_rfl) (by kernel_rfl) (fun _ _ _ h => h) (Or.inl ⟨by rfl, ?_⟩) hHeld ?_
  rotate_left
  · (intro w hSw; (try dsimp only at hSw); go_simp; all_goals (try with_reducible rfl))
  try simp only [Act.put, List.setIfInBounds_toArray, List.set_cons_zero, List.set_cons_succ]
  refine wpAnyH_take (i := 12) (oi := { dst := some 22, op := Op.fieldAddr 66 (Operand.tmp 5) 2, type := 0, pos := "sum.go:66", after := #[], guard := none }) (v := ?_) rfl (by kernel_rfl) (by kernel_rfl) (by kernel_rfl) (fun _ _ _ h => h) (Or.inl ⟨by rfl, ?_⟩) hHeld ?_
  rotate_left
  · (intro w hSw; (try dsimp only at hSw); go_simp; all_goals (try with_reducible rfl))
  try simp only [Act.put, List.setIfInBounds_toArray, List.set_cons_zero, List.set_cons_succ]
  refine wpAnyH_take (i := 13) (oi := { dst := some 23, op := Op.load 61 (Operand.tmp 22), type := 61, pos := "sum.go:66", after := #[{ on := 12, ground := Ground.data }], guard := none }) (v := ?_) rfl (by kernel_rfl) (by kernel_rfl) (by kernel_rfl) (fun _ _ _ h => h) (Or.inl ⟨by rfl, ?_⟩) hHeld ?_
  rotate_left
  · (intro w hSw; (try dsimp only at hSw); go_simp; all_goals (try with_reducible rfl))
  try simp only [Act.put, List.setIfInBounds_toArray, List.set_cons_zero, List.set_cons_succ]
  refine wpAnyH_ready (rs := [4]) (by kernel_rfl) (by simp) ?_
  refine AllReadyH.cons (o := { dst := some 14, op := Op.call { callee := Callee.value (Operand.func 37), args := #[Operand.tmp 11, Operand.tmp 13], argTypes := #[3, 3] }, type := 3, pos := "sum.go:66", after := #[{ on := 1, ground := Ground.data }, { on := 3, ground := Ground.data }], guard := none }) rfl (fun K hK => ?_) AllReadyH.nil
  go_simp
  refine Calls.mono (compI_any _ _ _) ?_
  rintro e W4 ⟨rfl, rfl⟩
  go_wp2_with fail
  refine hK.out _ _ (HALL.out _ HBC.out) (fun hHeld => ?_)
  clear hK K
  try simp only [Act.put, List.setIfInBounds_toArray, List.set_cons_zero, List.set_cons_succ]
  refine wpAnyH_ready (rs := [9]) (by kernel_rfl) (by simp) ?_
  refine AllReadyH.cons (o := { dst := some 19, op := Op.call { callee := Callee.value (Operand.func 38), args := #[Operand.tmp 16, Operand.tmp 18], argTypes := #[61, 61] }, type := 3, pos := "sum.go:66", after := #[{ on := 6, ground := Ground.data }, { on := 8, ground := Ground.data }, { on := 4, ground := Ground.chain }], guard := none }) rfl (fun K hK => ?_) AllReadyH.nil
  go_simp
  refine Calls.mono (compU_any _ _ _) ?_
  rintro e W4 ⟨rfl, rfl⟩
  go_wp2_with fail
  refine hK.out _ _ (HALL.out _ HBC.out) (fun hHeld => ?_)
  clear hK K
  try simp only [Act.put, List.setIfInBounds_toArray, List.set_cons_zero, List.set_cons_succ]
  refine wpAnyH_ready (rs := [14]) (by kernel_rfl) (by simp) ?_
  refine AllReadyH.cons (o := { dst := some 24, op := Op.call { callee := Callee.value (Operand.func 38), args := #[Operand.tmp 21, Operand.tmp 23], argTypes := #[61, 61] }, type := 3, pos := "sum.go:66", after := #[{ on := 11, ground := Ground.data }, { on := 13, ground := Ground.data }, { on := 9, ground := Ground.chain }], guard := none }) rfl (fun K hK => ?_) AllReadyH.nil
  go_simp
  refine Calls.mono (compU_any _ _ _) ?_
  rintro e W4 ⟨rfl, rfl⟩
  go_wp2_with fail
  refine hK.out _ _ (HALL.out _ HBC.out) (fun hHeld => ?_)
  clear hK K
  try simp only [Act.put, List.setIfInBounds_toArray, List.set_cons_zero, List.set_cons_succ]
  refine wpAnyH_ready (rs := [15]) (by kernel_rfl) (by simp) ?_
  refine AllReadyH.cons (o := { dst := some 25, op := Op.buildSlice 26 3 #[(0, Operand.tmp 14), (1, Operand.tmp 19), (2, Operand.tmp 24)], type := 26, pos := "sum.go:66", after := #[{ on := 4, ground := Ground.data }, { on := 9, ground := Ground.data }, { on := 14, ground := Ground.data }], guard := none }) rfl (fun K hK => ?_) AllReadyH.nil
  go_simp
  have HBC : Hid (Below (W3.alloc (.cells #[.int .i64 t0, .int .u64 t1, .int .u64 t2] 66)).heap.size (W3.alloc (.cells #[.int .i64 t0, .int .u64 t1, .int .u64 t2] 66)) (((W3.alloc (.cells #[.int .i64 t0, .int .u64 t1, .int .u64 t2] 66)).alloc (.cells #[.int .i64 (cmpT s0 t0), .int .i64 (cmpT s1 t1), .int .i64 (cmpT s2 t2)] 3)).drew)) := ((Below.refl _ _).alloc (Nat.le_refl _) _).drew
  refine hK.out _ _ (HALL.out _ HBC.out) (fun hHeld => ?_)
  clear hK K
  try simp only [Act.put, List.setIfInBounds_toArray, List.set_cons_zero, List.set_cons_succ]
  refine wpAnyH_ready (rs := [16]) (by kernel_rfl) (by simp) ?_
  refine AllReadyH.cons (o := { dst := some 26, op := Op.call { callee := Callee.value (Operand.func 36), args := #[Operand.tmp 25], argTypes := #[26] }, type := 3, pos := "sum.go:66", after := #[{ on := 15, ground := Ground.data }, { on := 14, ground := Ground.chain }], guard := none }) rfl (fun K hK => ?_) AllReadyH.nil
  go_simp
  refine Calls.mono HOR.out ?_
  rintro e W4 ⟨rfl, rfl⟩
  go_wp2_with fail
  refine hK.out _ _ (HALL.out _ HBC.out) (fun hHeld => ?_)
  clear hK K
  try simp only [Act.put, List.setIfInBounds_toArray, List.set_cons_zero, List.set_cons_succ]
  refine wpAnyH_take (i := 17) (oi := { dst := some 4, op := Op.assign (Operand.tmp 26), type := 3, pos := "sum.go:66", after := #[{ on := 16, ground := Ground.data }, { on := 16, ground := Ground.chain }, { on := 0, ground := Ground.phase }, { on := 1, ground := Ground.phase }, { on := 2, ground := Ground.phase }, { on := 3, ground := Ground.phase }, { on := 4, ground := Ground.phase }, { on := 5, ground := Ground.phase }, { on := 6, ground := Ground.phase }, { on := 7, ground := Ground.phase }, { on := 8, ground := Ground.phase }, { on := 9, ground := Ground.phase }, { on := 10, ground := Ground.phase }, { on := 11, ground := Ground.phase }, { on := 12, ground := Ground.phase }, { on := 13, ground := Ground.phase }, { on := 14, ground := Ground.phase }, { on := 15, ground := Ground.phase }, { on := 16, ground := Ground.phase }], guard := none }) (v := ?_) rfl (by kernel_rfl) (by kernel_rfl) (by kernel_rfl) (fun _ _ _ h => h) (Or.inl ⟨by rfl, ?_⟩) hHeld ?_
  rotate_left
  · (intro w hSw; (try dsimp only at hSw); go_simp; all_goals (try with_reducible rfl))
  try simp only [Act.put, List.setIfInBounds_toArray, List.set_cons_zero, List.set_cons_succ]
  refine wpAnyH_done (by kernel_rfl) ?_ _
  go_wp2
  go_ret
  exact ⟨ret_int HC2.out, HBF.out⟩
end Go.Proofs.Ytipbjoeekbgnbaa
