/- SpanHolds: the law's walk. Conditions: none but the numbers' own ranges. -/
import Derived.Test.YthnhlgiibiephabLoc2
namespace Go.Proofs.Ythnhlgiibiephab
open Go.RowKit
set_option linter.unusedVariables false
set_option maxRecDepth 100000

set_option maxHeartbeats 8000000 in
theorem holds_nx (a b c d k i j : Int) (w : World) (h1 : b < a) : Calls Try.prog 5 #[(.agg #[.int .i64 a, .int .i64 b]), (.agg #[.int .i64 c, .int .i64 d]), .int .i64 k, .int .i64 i, .int .i64 j] w fun e w' => e = .returned (.bool true) ∧ Below w.heap.size w w' := by
  go_enter Try.func5, Try.ntmps5
  go_wp2_with fail
  refine Calls.mono (sempty_any a b true _ (by simp; omega)) ?_
  rintro e w1 ⟨rfl, hb⟩
  have B1 : Below (w.heap.size + 1 + 1) ((w.alloc (.cells #[.int .i64 a, .int .i64 b] 23)).alloc (.cells #[.int .i64 c, .int .i64 d] 23)) w1 := by simpa using hb
  have HB1 : Hid (Below (w.heap.size + 1 + 1) ((w.alloc (.cells #[.int .i64 a, .int .i64 b] 23)).alloc (.cells #[.int .i64 c, .int .i64 d] 23)) w1) := B1
  have HW1 : Hid (Below w.heap.size w w1) := (((Below.refl _ w).alloc (Nat.le_refl _) _).alloc (by simp) _).trans (B1.mono (by omega))
  have q3 : w1.cell? ⟨w.heap.size + 1, 0, none⟩ = some (.int .i64 c) := (B1.cell (p := ⟨w.heap.size + 1, 0, none⟩) (by simp)).trans (by simp [go_sem])
  have q4 : w1.cell? ⟨w.heap.size + 1, 1, none⟩ = some (.int .i64 d) := (B1.cell (p := ⟨w.heap.size + 1, 1, none⟩) (by simp)).trans (by simp [go_sem])
  clear hb B1
  have p1 : w1.cell? ⟨w.heap.size, 0, none⟩ = some (.int .i64 a) := (HB1.out.cell (p := ⟨w.heap.size, 0, none⟩) (by simp; omega)).trans (by simp [go_sem])
  have p2 : w1.cell? ⟨w.heap.size, 1, none⟩ = some (.int .i64 b) := (HB1.out.cell (p := ⟨w.heap.size, 1, none⟩) (by simp; omega)).trans (by simp [go_sem])
  have p3 := q3
  have p4 := q4
  have z2 : w.heap.size + 1 < w1.heap.size := by have := HB1.out.size; simp at this; omega
  have z1 : w.heap.size < w1.heap.size := by omega
  have la := (Live.sacc w w1 false 30 HW1.out).alloc (.cells #[.int .i64 0, .int .i64 (-1)] 23)
  obtain ⟨v, hv⟩ : ∃ v, w1.heap.size = v := ⟨_, rfl⟩
  rw [hv] at la
  have HV : Hid (w1.heap.size = v) := hv
  have HK : Hid (∀ W', Kept2 v v ((w1.alloc (.cells #[.bool false] 30)).alloc (.cells #[.int .i64 0, .int .i64 (-1)] 23)) W' → W'.cell? ⟨w.heap.size, 0, none⟩ = some (.int .i64 a) ∧ W'.cell? ⟨w.heap.size, 1, none⟩ = some (.int .i64 b) ∧ W'.cell? ⟨w.heap.size + 1, 0, none⟩ = some (.int .i64 c) ∧ W'.cell? ⟨w.heap.size + 1, 1, none⟩ = some (.int .i64 d) ∧ W'.cell? ⟨w1.heap.size + 1, 0, none⟩ = some (.int .i64 0) ∧ W'.cell? ⟨w1.heap.size + 1, 1, none⟩ = some (.int .i64 (-1))) := fun W' kk => by
    have f1 : w.heap.size < w1.heap.size := by omega
    have f2 : w.heap.size < w1.heap.size + 1 := by omega
    have f3 : w.heap.size + 1 < w1.heap.size := by omega
    have f4 : w.heap.size + 1 < w1.heap.size + 1 := by omega
    exact ⟨kk.cell (by simp [go_sem, f1, f2, p1]) (by omega) (by omega), kk.cell (by simp [go_sem, f1, f2, p2]) (by omega) (by omega), kk.cell (by simp [go_sem, f3, f4, p3]) (by omega) (by omega), kk.cell (by simp [go_sem, f3, f4, p4]) (by omega) (by omega), kk.cell (by simp [go_sem]) (by omega) (by omega), kk.cell (by simp [go_sem]) (by omega) (by omega)⟩
  have l0 : Live w v ((w1.alloc (.cells #[.bool false] 30)).alloc (.cells #[.int .i64 0, .int .i64 (-1)] 23)).drew false := la.drew
  have m0 : Kept2 v v ((w1.alloc (.cells #[.bool false] 30)).alloc (.cells #[.int .i64 0, .int .i64 (-1)] 23)) ((w1.alloc (.cells #[.bool false] 30)).alloc (.cells #[.int .i64 0, .int .i64 (-1)] 23)).drew := Kept2.drew v v _
  rw [hv] at HK
  clear p1 p2 p3 p4 hv la
  go_wp2_with fail
  rw [HV.out]
  refine wp_region_held_drew (S := fun W' => W'.cell? ⟨w.heap.size, 0, none⟩ = some (.int .i64 a) ∧ W'.cell? ⟨w.heap.size, 1, none⟩ = some (.int .i64 b) ∧ W'.cell? ⟨w.heap.size + 1, 0, none⟩ = some (.int .i64 c) ∧ W'.cell? ⟨w.heap.size + 1, 1, none⟩ = some (.int .i64 d) ∧ W'.cell? ⟨v + 1, 0, none⟩ = some (.int .i64 0) ∧ W'.cell? ⟨v + 1, 1, none⟩ = some (.int .i64 (-1))) (by kernel_rfl) (HK.out _ m0) (fun hHeld => ?_)
  refine wpAnyH_ready (rs := [0]) (by kernel_rfl) (by simp) ?_
  refine AllReadyH.cons (o := { dst := some 30, op := Op.call { callee := Callee.value (Operand.func 10), args := #[], argTypes := #[] }, type := 4, pos := "outright.go:16", after := #[], guard := none }) rfl (fun K hK => ?_) AllReadyH.nil
  go_simp
  refine Calls.mono (salive_any _) ?_
  rintro e qW1 ⟨rfl, hb⟩
  have ql1_0 := l0.stays hb
  have qm1 := m0.below hb
  clear hb
  go_wp2_with fail
  refine hK.out _ _ (HK.out _ qm1) (fun hHeld => ?_)
  clear hK K
  try simp only [Act.put, List.setIfInBounds_toArray, List.set_cons_zero, List.set_cons_succ]
  refine wpAnyH_take (i := 1) (oi := { dst := some 31, op := Op.move (Operand.tmp 30), type := 4, pos := "outright.go:16", after := #[{ on := 0, ground := Ground.data }, { on := 0, ground := Ground.chain }], guard := none }) (v := ?_) rfl (by kernel_rfl) (by kernel_rfl) (by kernel_rfl) (fun _ _ _ h => h) (Or.inl ⟨by rfl, ?_⟩) hHeld ?_
  rotate_left
  · (intro w hSw; (try dsimp only at hSw); go_simp; all_goals (try with_reducible rfl))
  try simp only [Act.put, List.setIfInBounds_toArray, List.set_cons_zero, List.set_cons_succ]
  refine wpAnyH_take (i := 2) (oi := { dst := some 32, op := Op.move (Operand.tmp 11), type := 26, pos := "outright.go:16", after := #[{ on := 1, ground := Ground.guard }], guard := some (1, true) }) (v := ?_) rfl (by kernel_rfl) (by kernel_rfl) (by kernel_rfl) (fun _ _ _ h => h) (Or.inl ⟨by rfl, ?_⟩) hHeld ?_
  rotate_left
  · (intro w hSw; (try dsimp only at hSw); go_simp; all_goals (try with_reducible rfl))
  try simp only [Act.put, List.setIfInBounds_toArray, List.set_cons_zero, List.set_cons_succ]
  refine wpAnyH_take (i := 3) (oi := { dst := some 33, op := Op.load 23 (Operand.tmp 5), type := 23, pos := "outright.go:16", after := #[{ on := 1, ground := Ground.guard }], guard := some (1, true) }) (v := ?_) rfl (by kernel_rfl) (by kernel_rfl) (by kernel_rfl) (fun _ _ _ h => h) (Or.inl ⟨by rfl, ?_⟩) hHeld ?_
  rotate_left
  · (intro w hSw; (try dsimp only at hSw); go_simp; all_goals (try with_reducible rfl))
  try simp only [Act.put, List.setIfInBounds_toArray, List.set_cons_zero, List.set_cons_succ]
  refine wpAnyH_take (i := 4) (oi := { dst := some 34, op := Op.load 23 (Operand.tmp 6), type := 23, pos := "outright.go:16", after := #[{ on := 1, ground := Ground.guard }], guard := some (1, true) }) (v := ?_) rfl (by kernel_rfl) (by kernel_rfl) (by kernel_rfl) (fun _ _ _ h => h) (Or.inl ⟨by rfl, ?_⟩) hHeld ?_
  rotate_left
  · (intro w hSw; (try dsimp only at hSw); go_simp; all_goals (try with_reducible rfl))
  try simp only [Act.put, List.setIfInBounds_toArray, List.set_cons_zero, List.set_cons_succ]
  refine wpAnyH_take (i := 7) (oi := { dst := some 37, op := Op.load 23 (Operand.tmp 12), type := 23, pos := "outright.go:16", after := #[{ on := 1, ground := Ground.guard }], guard := some (1, true) }) (v := ?_) rfl (by kernel_rfl) (by kernel_rfl) (by kernel_rfl) (fun _ _ _ h => h) (Or.inl ⟨by rfl, ?_⟩) hHeld ?_
  rotate_left
  · (intro w hSw; (try dsimp only at hSw); go_simp; all_goals (try with_reducible rfl))
  try simp only [Act.put, List.setIfInBounds_toArray, List.set_cons_zero, List.set_cons_succ]
  refine wpAnyH_ready (rs := [5]) (by kernel_rfl) (by simp) ?_
  refine AllReadyH.cons (o := { dst := some 35, op := Op.buildSlice 50 2 #[(0, Operand.tmp 33), (1, Operand.tmp 34)], type := 50, pos := "outright.go:16", after := #[{ on := 3, ground := Ground.data }, { on := 4, ground := Ground.data }, { on := 1, ground := Ground.guard }], guard := some (1, true) }) rfl (fun K hK => ?_) AllReadyH.nil
  go_simp
  obtain ⟨qW2, hX⟩ : ∃ Z, qW1.alloc (.cells #[.int .i64 a, .int .i64 b, .int .i64 c, .int .i64 d] 23) = Z := ⟨_, rfl⟩
  rw [hX]
  have hb : Below qW1.heap.size qW1 qW2 := by rw [← hX]; exact (Below.refl _ qW1).alloc (Nat.le_refl _) _
  have ql2_0 := ql1_0.stays hb
  have qm2 := qm1.below hb
  have qr2_5 := row_two qW1 a b c d _ rfl
  rw [hX] at qr2_5
  have qn2_5_0 : qW1.heap.size ≠ v := by have := ql1_0.old; omega
  clear hX hb
  refine hK.out _ _ (HK.out _ qm2) (fun hHeld => ?_)
  clear hK K
  try simp only [Act.put, List.setIfInBounds_toArray, List.set_cons_zero, List.set_cons_succ]
  refine wpAnyH_ready (rs := [6]) (by kernel_rfl) (by simp) ?_
  refine AllReadyH.cons (o := { dst := some 36, op := Op.call { callee := Callee.value (Operand.func 14), args := #[Operand.tmp 32, Operand.tmp 35], argTypes := #[26, 50] }, type := 23, pos := "outright.go:16", after := #[{ on := 2, ground := Ground.data }, { on := 5, ground := Ground.data }, { on := 1, ground := Ground.chain }, { on := 1, ground := Ground.guard }], guard := some (1, true) }) rfl (fun K hK => ?_) AllReadyH.nil
  go_simp
  refine Calls.mono (plus_at_none ql2_0 a b c d (.inl h1) _ qr2_5) ?_
  rintro e qW3 ⟨rfl, lx, kx⟩
  have ql3_0 := lx
  have qm3 := qm2.left kx
  have qr3_5 := qr2_5.kept kx (blk_ne qn2_5_0)
  clear kx lx
  go_wp2_with fail
  refine hK.out _ _ (HK.out _ qm3) (fun hHeld => ?_)
  clear hK K
  try simp only [Act.put, List.setIfInBounds_toArray, List.set_cons_zero, List.set_cons_succ]
  refine wpAnyH_take (i := 8) (oi := { dst := some 38, op := Op.binOp BinOp.eql 23 (Operand.tmp 36) (Operand.tmp 37) 23, type := 4, pos := "outright.go:16", after := #[{ on := 6, ground := Ground.data }, { on := 7, ground := Ground.data }, { on := 1, ground := Ground.guard }], guard := some (1, true) }) (v := ?_) rfl (by kernel_rfl) (by kernel_rfl) (by kernel_rfl) (fun _ _ _ h => h) (Or.inl ⟨by rfl, ?_⟩) hHeld ?_
  rotate_left
  · (intro w hSw; (try dsimp only at hSw); go_simp; all_goals (try with_reducible rfl))
  try simp only [Act.put, List.setIfInBounds_toArray, List.set_cons_zero, List.set_cons_succ]
  refine wpAnyH_take (i := 9) (oi := { dst := some 39, op := Op.pick (Operand.tmp 31) (Operand.tmp 38) (Operand.const (Value.bool false)), type := 4, pos := "outright.go:16", after := #[{ on := 1, ground := Ground.data }, { on := 8, ground := Ground.data }], guard := none }) (v := ?_) rfl (by kernel_rfl) (by kernel_rfl) (by kernel_rfl) (fun _ _ _ h => h) (Or.inl ⟨by rfl, ?_⟩) hHeld ?_
  rotate_left
  · (intro w hSw; (try dsimp only at hSw); go_simp; all_goals (try with_reducible rfl))
  try simp only [Act.put, List.setIfInBounds_toArray, List.set_cons_zero, List.set_cons_succ]
  refine wpAnyH_take (i := 10) (oi := { dst := some 40, op := Op.move (Operand.tmp 39), type := 4, pos := "outright.go:16", after := #[{ on := 9, ground := Ground.data }, { on := 6, ground := Ground.chain }], guard := none }) (v := ?_) rfl (by kernel_rfl) (by kernel_rfl) (by kernel_rfl) (fun _ _ _ h => h) (Or.inl ⟨by rfl, ?_⟩) hHeld ?_
  rotate_left
  · (intro w hSw; (try dsimp only at hSw); go_simp; all_goals (try with_reducible rfl))
  try simp only [Act.put, List.setIfInBounds_toArray, List.set_cons_zero, List.set_cons_succ]
  refine wpAnyH_take (i := 11) (oi := { dst := some 41, op := Op.move (Operand.tmp 11), type := 26, pos := "outright.go:16", after := #[{ on := 10, ground := Ground.guard }], guard := some (10, true) }) (v := ?_) rfl (by kernel_rfl) (by kernel_rfl) (by kernel_rfl) (fun _ _ _ h => h) (Or.inl ⟨by rfl, ?_⟩) hHeld ?_
  rotate_left
  · (intro w hSw; (try dsimp only at hSw); go_simp; all_goals (try with_reducible rfl))
  try simp only [Act.put, List.setIfInBounds_toArray, List.set_cons_zero, List.set_cons_succ]
  refine wpAnyH_take (i := 12) (oi := { dst := some 42, op := Op.load 23 (Operand.tmp 5), type := 23, pos := "outright.go:16", after := #[{ on := 10, ground := Ground.guard }], guard := some (10, true) }) (v := ?_) rfl (by kernel_rfl) (by kernel_rfl) (by kernel_rfl) (fun _ _ _ h => h) (Or.inl ⟨by rfl, ?_⟩) hHeld ?_
  rotate_left
  · (intro w hSw; (try dsimp only at hSw); go_simp; all_goals (try with_reducible rfl))
  try simp only [Act.put, List.setIfInBounds_toArray, List.set_cons_zero, List.set_cons_succ]
  refine wpAnyH_take (i := 13) (oi := { dst := some 43, op := Op.load 23 (Operand.tmp 6), type := 23, pos := "outright.go:16", after := #[{ on := 10, ground := Ground.guard }], guard := some (10, true) }) (v := ?_) rfl (by kernel_rfl) (by kernel_rfl) (by kernel_rfl) (fun _ _ _ h => h) (Or.inl ⟨by rfl, ?_⟩) hHeld ?_
  rotate_left
  · (intro w hSw; (try dsimp only at hSw); go_simp; all_goals (try with_reducible rfl))
  try simp only [Act.put, List.setIfInBounds_toArray, List.set_cons_zero, List.set_cons_succ]
  refine wpAnyH_take (i := 15) (oi := { dst := some 45, op := Op.load 23 (Operand.tmp 12), type := 23, pos := "outright.go:16", after := #[{ on := 10, ground := Ground.guard }], guard := some (10, true) }) (v := ?_) rfl (by kernel_rfl) (by kernel_rfl) (by kernel_rfl) (fun _ _ _ h => h) (Or.inl ⟨by rfl, ?_⟩) hHeld ?_
  rotate_left
  · (intro w hSw; (try dsimp only at hSw); go_simp; all_goals (try with_reducible rfl))
  try simp only [Act.put, List.setIfInBounds_toArray, List.set_cons_zero, List.set_cons_succ]
  refine wpAnyH_ready (rs := [14]) (by kernel_rfl) (by simp) ?_
  refine AllReadyH.cons (o := { dst := some 44, op := Op.call { callee := Callee.value (Operand.func 11), args := #[Operand.tmp 41, Operand.tmp 42, Operand.tmp 43], argTypes := #[26, 23, 23] }, type := 23, pos := "outright.go:16", after := #[{ on := 11, ground := Ground.data }, { on := 12, ground := Ground.data }, { on := 13, ground := Ground.data }, { on := 10, ground := Ground.chain }, { on := 10, ground := Ground.guard }], guard := some (10, true) }) rfl (fun K hK => ?_) AllReadyH.nil
  go_simp
  refine Calls.mono (sminus_none ql3_0 a b c d (.inl h1)) ?_
  rintro e qW4 ⟨rfl, lx, kx⟩
  have ql4_0 := lx
  have qm4 := qm3.left kx
  have qr4_5 := qr3_5.kept kx (blk_ne qn2_5_0)
  clear kx lx
  go_wp2_with fail
  refine hK.out _ _ (HK.out _ qm4) (fun hHeld => ?_)
  clear hK K
  try simp only [Act.put, List.setIfInBounds_toArray, List.set_cons_zero, List.set_cons_succ]
  refine wpAnyH_take (i := 16) (oi := { dst := some 46, op := Op.binOp BinOp.eql 23 (Operand.tmp 44) (Operand.tmp 45) 23, type := 4, pos := "outright.go:16", after := #[{ on := 14, ground := Ground.data }, { on := 15, ground := Ground.data }, { on := 10, ground := Ground.guard }], guard := some (10, true) }) (v := ?_) rfl (by kernel_rfl) (by kernel_rfl) (by kernel_rfl) (fun _ _ _ h => h) (Or.inl ⟨by rfl, ?_⟩) hHeld ?_
  rotate_left
  · (intro w hSw; (try dsimp only at hSw); go_simp; all_goals (try with_reducible rfl))
  try simp only [Act.put, List.setIfInBounds_toArray, List.set_cons_zero, List.set_cons_succ]
  refine wpAnyH_take (i := 17) (oi := { dst := some 47, op := Op.pick (Operand.tmp 40) (Operand.tmp 46) (Operand.const (Value.bool false)), type := 4, pos := "outright.go:16", after := #[{ on := 10, ground := Ground.data }, { on := 16, ground := Ground.data }], guard := none }) (v := ?_) rfl (by kernel_rfl) (by kernel_rfl) (by kernel_rfl) (fun _ _ _ h => h) (Or.inl ⟨by rfl, ?_⟩) hHeld ?_
  rotate_left
  · (intro w hSw; (try dsimp only at hSw); go_simp; all_goals (try with_reducible rfl))
  try simp only [Act.put, List.setIfInBounds_toArray, List.set_cons_zero, List.set_cons_succ]
  refine wpAnyH_take (i := 18) (oi := { dst := some 48, op := Op.move (Operand.tmp 47), type := 4, pos := "outright.go:16", after := #[{ on := 17, ground := Ground.data }, { on := 14, ground := Ground.chain }], guard := none }) (v := ?_) rfl (by kernel_rfl) (by kernel_rfl) (by kernel_rfl) (fun _ _ _ h => h) (Or.inl ⟨by rfl, ?_⟩) hHeld ?_
  rotate_left
  · (intro w hSw; (try dsimp only at hSw); go_simp; all_goals (try with_reducible rfl))
  try simp only [Act.put, List.setIfInBounds_toArray, List.set_cons_zero, List.set_cons_succ]
  refine wpAnyH_take (i := 19) (oi := { dst := some 49, op := Op.move (Operand.tmp 11), type := 26, pos := "outright.go:16", after := #[{ on := 18, ground := Ground.guard }], guard := some (18, true) }) (v := ?_) rfl (by kernel_rfl) (by kernel_rfl) (by kernel_rfl) (fun _ _ _ h => h) (Or.inl ⟨by rfl, ?_⟩) hHeld ?_
  rotate_left
  · (intro w hSw; (try dsimp only at hSw); go_simp; all_goals (try with_reducible rfl))
  try simp only [Act.put, List.setIfInBounds_toArray, List.set_cons_zero, List.set_cons_succ]
  refine wpAnyH_take (i := 20) (oi := { dst := some 50, op := Op.load 23 (Operand.tmp 5), type := 23, pos := "outright.go:16", after := #[{ on := 18, ground := Ground.guard }], guard := some (18, true) }) (v := ?_) rfl (by kernel_rfl) (by kernel_rfl) (by kernel_rfl) (fun _ _ _ h => h) (Or.inl ⟨by rfl, ?_⟩) hHeld ?_
  rotate_left
  · (intro w hSw; (try dsimp only at hSw); go_simp; all_goals (try with_reducible rfl))
  try simp only [Act.put, List.setIfInBounds_toArray, List.set_cons_zero, List.set_cons_succ]
  refine wpAnyH_take (i := 21) (oi := { dst := some 51, op := Op.load 23 (Operand.tmp 6), type := 23, pos := "outright.go:16", after := #[{ on := 18, ground := Ground.guard }], guard := some (18, true) }) (v := ?_) rfl (by kernel_rfl) (by kernel_rfl) (by kernel_rfl) (fun _ _ _ h => h) (Or.inl ⟨by rfl, ?_⟩) hHeld ?_
  rotate_left
  · (intro w hSw; (try dsimp only at hSw); go_simp; all_goals (try with_reducible rfl))
  try simp only [Act.put, List.setIfInBounds_toArray, List.set_cons_zero, List.set_cons_succ]
  refine wpAnyH_take (i := 23) (oi := { dst := some 53, op := Op.load 23 (Operand.tmp 12), type := 23, pos := "outright.go:16", after := #[{ on := 18, ground := Ground.guard }], guard := some (18, true) }) (v := ?_) rfl (by kernel_rfl) (by kernel_rfl) (by kernel_rfl) (fun _ _ _ h => h) (Or.inl ⟨by rfl, ?_⟩) hHeld ?_
  rotate_left
  · (intro w hSw; (try dsimp only at hSw); go_simp; all_goals (try with_reducible rfl))
  try simp only [Act.put, List.setIfInBounds_toArray, List.set_cons_zero, List.set_cons_succ]
  refine wpAnyH_ready (rs := [22]) (by kernel_rfl) (by simp) ?_
  refine AllReadyH.cons (o := { dst := some 52, op := Op.call { callee := Callee.value (Operand.func 17), args := #[Operand.tmp 49, Operand.tmp 50, Operand.tmp 51], argTypes := #[26, 23, 23] }, type := 23, pos := "outright.go:16", after := #[{ on := 19, ground := Ground.data }, { on := 20, ground := Ground.data }, { on := 21, ground := Ground.data }, { on := 18, ground := Ground.chain }, { on := 18, ground := Ground.guard }], guard := some (18, true) }) rfl (fun K hK => ?_) AllReadyH.nil
  go_simp
  refine Calls.mono (scross_none ql4_0 a b c d (.inl h1)) ?_
  rintro e qW5 ⟨rfl, lx, kx⟩
  have ql5_0 := lx
  have qm5 := qm4.left kx
  have qr5_5 := qr4_5.kept kx (blk_ne qn2_5_0)
  clear kx lx
  go_wp2_with fail
  refine hK.out _ _ (HK.out _ qm5) (fun hHeld => ?_)
  clear hK K
  try simp only [Act.put, List.setIfInBounds_toArray, List.set_cons_zero, List.set_cons_succ]
  refine wpAnyH_take (i := 24) (oi := { dst := some 54, op := Op.binOp BinOp.eql 23 (Operand.tmp 52) (Operand.tmp 53) 23, type := 4, pos := "outright.go:16", after := #[{ on := 22, ground := Ground.data }, { on := 23, ground := Ground.data }, { on := 18, ground := Ground.guard }], guard := some (18, true) }) (v := ?_) rfl (by kernel_rfl) (by kernel_rfl) (by kernel_rfl) (fun _ _ _ h => h) (Or.inl ⟨by rfl, ?_⟩) hHeld ?_
  rotate_left
  · (intro w hSw; (try dsimp only at hSw); go_simp; all_goals (try with_reducible rfl))
  try simp only [Act.put, List.setIfInBounds_toArray, List.set_cons_zero, List.set_cons_succ]
  refine wpAnyH_take (i := 25) (oi := { dst := some 55, op := Op.pick (Operand.tmp 48) (Operand.tmp 54) (Operand.const (Value.bool false)), type := 4, pos := "outright.go:16", after := #[{ on := 18, ground := Ground.data }, { on := 24, ground := Ground.data }], guard := none }) (v := ?_) rfl (by kernel_rfl) (by kernel_rfl) (by kernel_rfl) (fun _ _ _ h => h) (Or.inl ⟨by rfl, ?_⟩) hHeld ?_
  rotate_left
  · (intro w hSw; (try dsimp only at hSw); go_simp; all_goals (try with_reducible rfl))
  try simp only [Act.put, List.setIfInBounds_toArray, List.set_cons_zero, List.set_cons_succ]
  refine wpAnyH_take (i := 26) (oi := { dst := some 10, op := Op.assign (Operand.tmp 55), type := 4, pos := "outright.go:16", after := #[{ on := 25, ground := Ground.data }, { on := 22, ground := Ground.chain }, { on := 0, ground := Ground.phase }, { on := 1, ground := Ground.phase }, { on := 2, ground := Ground.phase }, { on := 3, ground := Ground.phase }, { on := 4, ground := Ground.phase }, { on := 5, ground := Ground.phase }, { on := 6, ground := Ground.phase }, { on := 7, ground := Ground.phase }, { on := 8, ground := Ground.phase }, { on := 9, ground := Ground.phase }, { on := 10, ground := Ground.phase }, { on := 11, ground := Ground.phase }, { on := 12, ground := Ground.phase }, { on := 13, ground := Ground.phase }, { on := 14, ground := Ground.phase }, { on := 15, ground := Ground.phase }, { on := 16, ground := Ground.phase }, { on := 17, ground := Ground.phase }, { on := 18, ground := Ground.phase }, { on := 19, ground := Ground.phase }, { on := 20, ground := Ground.phase }, { on := 21, ground := Ground.phase }, { on := 22, ground := Ground.phase }, { on := 23, ground := Ground.phase }, { on := 24, ground := Ground.phase }, { on := 25, ground := Ground.phase }], guard := none }) (v := ?_) rfl (by kernel_rfl) (by kernel_rfl) (by kernel_rfl) (fun _ _ _ h => h) (Or.inl ⟨by rfl, ?_⟩) hHeld ?_
  rotate_left
  · (intro w hSw; (try dsimp only at hSw); go_simp; all_goals (try with_reducible rfl))
  try simp only [Act.put, List.setIfInBounds_toArray, List.set_cons_zero, List.set_cons_succ]
  refine wpAnyH_done (by kernel_rfl) ?_ _
  go_wp2
  go_ret
  exact ⟨rfl, ql5_0.below⟩

set_option maxHeartbeats 8000000 in
theorem holds_ny (a b c d k i j : Int) (w : World) (h1 : a ≤ b) (h2 : d < c) : Calls Try.prog 5 #[(.agg #[.int .i64 a, .int .i64 b]), (.agg #[.int .i64 c, .int .i64 d]), .int .i64 k, .int .i64 i, .int .i64 j] w fun e w' => e = .returned (.bool true) ∧ Below w.heap.size w w' := by
  go_enter Try.func5, Try.ntmps5
  go_wp2_with fail
  refine Calls.mono (sempty_any a b false _ (by simp; omega)) ?_
  rintro e w1 ⟨rfl, hb⟩
  have B1 : Below (w.heap.size + 1 + 1) ((w.alloc (.cells #[.int .i64 a, .int .i64 b] 23)).alloc (.cells #[.int .i64 c, .int .i64 d] 23)) w1 := by simpa using hb
  have HB1 : Hid (Below (w.heap.size + 1 + 1) ((w.alloc (.cells #[.int .i64 a, .int .i64 b] 23)).alloc (.cells #[.int .i64 c, .int .i64 d] 23)) w1) := B1
  have HW1 : Hid (Below w.heap.size w w1) := (((Below.refl _ w).alloc (Nat.le_refl _) _).alloc (by simp) _).trans (B1.mono (by omega))
  have q3 : w1.cell? ⟨w.heap.size + 1, 0, none⟩ = some (.int .i64 c) := (B1.cell (p := ⟨w.heap.size + 1, 0, none⟩) (by simp)).trans (by simp [go_sem])
  have q4 : w1.cell? ⟨w.heap.size + 1, 1, none⟩ = some (.int .i64 d) := (B1.cell (p := ⟨w.heap.size + 1, 1, none⟩) (by simp)).trans (by simp [go_sem])
  clear hb B1
  go_wp2_with fail
  refine Calls.mono (sempty_any c d true _ (by simp; omega)) ?_
  rintro e w2 ⟨rfl, hb⟩
  have B2 : Below (w.heap.size + 1 + 1) ((w.alloc (.cells #[.int .i64 a, .int .i64 b] 23)).alloc (.cells #[.int .i64 c, .int .i64 d] 23)) w2 := HB1.out.trans (hb.mono (by have := HB1.out.size; simpa using this))
  have HB2 : Hid (Below (w.heap.size + 1 + 1) ((w.alloc (.cells #[.int .i64 a, .int .i64 b] 23)).alloc (.cells #[.int .i64 c, .int .i64 d] 23)) w2) := B2
  have HW2 : Hid (Below w.heap.size w w2) := HW1.out.trans (hb.mono HW1.out.size)
  have p1 : w2.cell? ⟨w.heap.size, 0, none⟩ = some (.int .i64 a) := (B2.cell (p := ⟨w.heap.size, 0, none⟩) (by simp; omega)).trans (by simp [go_sem])
  have p2 : w2.cell? ⟨w.heap.size, 1, none⟩ = some (.int .i64 b) := (B2.cell (p := ⟨w.heap.size, 1, none⟩) (by simp; omega)).trans (by simp [go_sem])
  have p3 : w2.cell? ⟨w.heap.size + 1, 0, none⟩ = some (.int .i64 c) := (B2.cell (p := ⟨w.heap.size + 1, 0, none⟩) (by simp)).trans (by simp [go_sem])
  have p4 : w2.cell? ⟨w.heap.size + 1, 1, none⟩ = some (.int .i64 d) := (B2.cell (p := ⟨w.heap.size + 1, 1, none⟩) (by simp)).trans (by simp [go_sem])
  have z2 : w.heap.size + 1 < w2.heap.size := by have := B2.size; simp at this; omega
  have z1 : w.heap.size < w2.heap.size := by omega
  clear hb B2 q3 q4
  have la := (Live.sacc w w2 false 30 HW2.out).alloc (.cells #[.int .i64 0, .int .i64 (-1)] 23)
  obtain ⟨v, hv⟩ : ∃ v, w2.heap.size = v := ⟨_, rfl⟩
  rw [hv] at la
  have HV : Hid (w2.heap.size = v) := hv
  have HK : Hid (∀ W', Kept2 v v ((w2.alloc (.cells #[.bool false] 30)).alloc (.cells #[.int .i64 0, .int .i64 (-1)] 23)) W' → W'.cell? ⟨w.heap.size, 0, none⟩ = some (.int .i64 a) ∧ W'.cell? ⟨w.heap.size, 1, none⟩ = some (.int .i64 b) ∧ W'.cell? ⟨w.heap.size + 1, 0, none⟩ = some (.int .i64 c) ∧ W'.cell? ⟨w.heap.size + 1, 1, none⟩ = some (.int .i64 d) ∧ W'.cell? ⟨w2.heap.size + 1, 0, none⟩ = some (.int .i64 0) ∧ W'.cell? ⟨w2.heap.size + 1, 1, none⟩ = some (.int .i64 (-1))) := fun W' kk => by
    have f1 : w.heap.size < w2.heap.size := by omega
    have f2 : w.heap.size < w2.heap.size + 1 := by omega
    have f3 : w.heap.size + 1 < w2.heap.size := by omega
    have f4 : w.heap.size + 1 < w2.heap.size + 1 := by omega
    exact ⟨kk.cell (by simp [go_sem, f1, f2, p1]) (by omega) (by omega), kk.cell (by simp [go_sem, f1, f2, p2]) (by omega) (by omega), kk.cell (by simp [go_sem, f3, f4, p3]) (by omega) (by omega), kk.cell (by simp [go_sem, f3, f4, p4]) (by omega) (by omega), kk.cell (by simp [go_sem]) (by omega) (by omega), kk.cell (by simp [go_sem]) (by omega) (by omega)⟩
  have l0 : Live w v ((w2.alloc (.cells #[.bool false] 30)).alloc (.cells #[.int .i64 0, .int .i64 (-1)] 23)).drew false := la.drew
  have m0 : Kept2 v v ((w2.alloc (.cells #[.bool false] 30)).alloc (.cells #[.int .i64 0, .int .i64 (-1)] 23)) ((w2.alloc (.cells #[.bool false] 30)).alloc (.cells #[.int .i64 0, .int .i64 (-1)] 23)).drew := Kept2.drew v v _
  rw [hv] at HK
  clear p1 p2 p3 p4 hv la
  go_wp2_with fail
  rw [HV.out]
  refine wp_region_held_drew (S := fun W' => W'.cell? ⟨w.heap.size, 0, none⟩ = some (.int .i64 a) ∧ W'.cell? ⟨w.heap.size, 1, none⟩ = some (.int .i64 b) ∧ W'.cell? ⟨w.heap.size + 1, 0, none⟩ = some (.int .i64 c) ∧ W'.cell? ⟨w.heap.size + 1, 1, none⟩ = some (.int .i64 d) ∧ W'.cell? ⟨v + 1, 0, none⟩ = some (.int .i64 0) ∧ W'.cell? ⟨v + 1, 1, none⟩ = some (.int .i64 (-1))) (by kernel_rfl) (HK.out _ m0) (fun hHeld => ?_)
  refine wpAnyH_ready (rs := [0]) (by kernel_rfl) (by simp) ?_
  refine AllReadyH.cons (o := { dst := some 30, op := Op.call { callee := Callee.value (Operand.func 10), args := #[], argTypes := #[] }, type := 4, pos := "outright.go:16", after := #[], guard := none }) rfl (fun K hK => ?_) AllReadyH.nil
  go_simp
  refine Calls.mono (salive_any _) ?_
  rintro e qW1 ⟨rfl, hb⟩
  have ql1_0 := l0.stays hb
  have qm1 := m0.below hb
  clear hb
  go_wp2_with fail
  refine hK.out _ _ (HK.out _ qm1) (fun hHeld => ?_)
  clear hK K
  try simp only [Act.put, List.setIfInBounds_toArray, List.set_cons_zero, List.set_cons_succ]
  refine wpAnyH_take (i := 1) (oi := { dst := some 31, op := Op.move (Operand.tmp 30), type := 4, pos := "outright.go:16", after := #[{ on := 0, ground := Ground.data }, { on := 0, ground := Ground.chain }], guard := none }) (v := ?_) rfl (by kernel_rfl) (by kernel_rfl) (by kernel_rfl) (fun _ _ _ h => h) (Or.inl ⟨by rfl, ?_⟩) hHeld ?_
  rotate_left
  · (intro w hSw; (try dsimp only at hSw); go_simp; all_goals (try with_reducible rfl))
  try simp only [Act.put, List.setIfInBounds_toArray, List.set_cons_zero, List.set_cons_succ]
  refine wpAnyH_take (i := 2) (oi := { dst := some 32, op := Op.move (Operand.tmp 11), type := 26, pos := "outright.go:16", after := #[{ on := 1, ground := Ground.guard }], guard := some (1, true) }) (v := ?_) rfl (by kernel_rfl) (by kernel_rfl) (by kernel_rfl) (fun _ _ _ h => h) (Or.inl ⟨by rfl, ?_⟩) hHeld ?_
  rotate_left
  · (intro w hSw; (try dsimp only at hSw); go_simp; all_goals (try with_reducible rfl))
  try simp only [Act.put, List.setIfInBounds_toArray, List.set_cons_zero, List.set_cons_succ]
  refine wpAnyH_take (i := 3) (oi := { dst := some 33, op := Op.load 23 (Operand.tmp 5), type := 23, pos := "outright.go:16", after := #[{ on := 1, ground := Ground.guard }], guard := some (1, true) }) (v := ?_) rfl (by kernel_rfl) (by kernel_rfl) (by kernel_rfl) (fun _ _ _ h => h) (Or.inl ⟨by rfl, ?_⟩) hHeld ?_
  rotate_left
  · (intro w hSw; (try dsimp only at hSw); go_simp; all_goals (try with_reducible rfl))
  try simp only [Act.put, List.setIfInBounds_toArray, List.set_cons_zero, List.set_cons_succ]
  refine wpAnyH_take (i := 4) (oi := { dst := some 34, op := Op.load 23 (Operand.tmp 6), type := 23, pos := "outright.go:16", after := #[{ on := 1, ground := Ground.guard }], guard := some (1, true) }) (v := ?_) rfl (by kernel_rfl) (by kernel_rfl) (by kernel_rfl) (fun _ _ _ h => h) (Or.inl ⟨by rfl, ?_⟩) hHeld ?_
  rotate_left
  · (intro w hSw; (try dsimp only at hSw); go_simp; all_goals (try with_reducible rfl))
  try simp only [Act.put, List.setIfInBounds_toArray, List.set_cons_zero, List.set_cons_succ]
  refine wpAnyH_take (i := 7) (oi := { dst := some 37, op := Op.load 23 (Operand.tmp 12), type := 23, pos := "outright.go:16", after := #[{ on := 1, ground := Ground.guard }], guard := some (1, true) }) (v := ?_) rfl (by kernel_rfl) (by kernel_rfl) (by kernel_rfl) (fun _ _ _ h => h) (Or.inl ⟨by rfl, ?_⟩) hHeld ?_
  rotate_left
  · (intro w hSw; (try dsimp only at hSw); go_simp; all_goals (try with_reducible rfl))
  try simp only [Act.put, List.setIfInBounds_toArray, List.set_cons_zero, List.set_cons_succ]
  refine wpAnyH_ready (rs := [5]) (by kernel_rfl) (by simp) ?_
  refine AllReadyH.cons (o := { dst := some 35, op := Op.buildSlice 50 2 #[(0, Operand.tmp 33), (1, Operand.tmp 34)], type := 50, pos := "outright.go:16", after := #[{ on := 3, ground := Ground.data }, { on := 4, ground := Ground.data }, { on := 1, ground := Ground.guard }], guard := some (1, true) }) rfl (fun K hK => ?_) AllReadyH.nil
  go_simp
  obtain ⟨qW2, hX⟩ : ∃ Z, qW1.alloc (.cells #[.int .i64 a, .int .i64 b, .int .i64 c, .int .i64 d] 23) = Z := ⟨_, rfl⟩
  rw [hX]
  have hb : Below qW1.heap.size qW1 qW2 := by rw [← hX]; exact (Below.refl _ qW1).alloc (Nat.le_refl _) _
  have ql2_0 := ql1_0.stays hb
  have qm2 := qm1.below hb
  have qr2_5 := row_two qW1 a b c d _ rfl
  rw [hX] at qr2_5
  have qn2_5_0 : qW1.heap.size ≠ v := by have := ql1_0.old; omega
  clear hX hb
  refine hK.out _ _ (HK.out _ qm2) (fun hHeld => ?_)
  clear hK K
  try simp only [Act.put, List.setIfInBounds_toArray, List.set_cons_zero, List.set_cons_succ]
  refine wpAnyH_ready (rs := [6]) (by kernel_rfl) (by simp) ?_
  refine AllReadyH.cons (o := { dst := some 36, op := Op.call { callee := Callee.value (Operand.func 14), args := #[Operand.tmp 32, Operand.tmp 35], argTypes := #[26, 50] }, type := 23, pos := "outright.go:16", after := #[{ on := 2, ground := Ground.data }, { on := 5, ground := Ground.data }, { on := 1, ground := Ground.chain }, { on := 1, ground := Ground.guard }], guard := some (1, true) }) rfl (fun K hK => ?_) AllReadyH.nil
  go_simp
  refine Calls.mono (plus_at_none ql2_0 a b c d (.inr h2) _ qr2_5) ?_
  rintro e qW3 ⟨rfl, lx, kx⟩
  have ql3_0 := lx
  have qm3 := qm2.left kx
  have qr3_5 := qr2_5.kept kx (blk_ne qn2_5_0)
  clear kx lx
  go_wp2_with fail
  refine hK.out _ _ (HK.out _ qm3) (fun hHeld => ?_)
  clear hK K
  try simp only [Act.put, List.setIfInBounds_toArray, List.set_cons_zero, List.set_cons_succ]
  refine wpAnyH_take (i := 8) (oi := { dst := some 38, op := Op.binOp BinOp.eql 23 (Operand.tmp 36) (Operand.tmp 37) 23, type := 4, pos := "outright.go:16", after := #[{ on := 6, ground := Ground.data }, { on := 7, ground := Ground.data }, { on := 1, ground := Ground.guard }], guard := some (1, true) }) (v := ?_) rfl (by kernel_rfl) (by kernel_rfl) (by kernel_rfl) (fun _ _ _ h => h) (Or.inl ⟨by rfl, ?_⟩) hHeld ?_
  rotate_left
  · (intro w hSw; (try dsimp only at hSw); go_simp; all_goals (try with_reducible rfl))
  try simp only [Act.put, List.setIfInBounds_toArray, List.set_cons_zero, List.set_cons_succ]
  refine wpAnyH_take (i := 9) (oi := { dst := some 39, op := Op.pick (Operand.tmp 31) (Operand.tmp 38) (Operand.const (Value.bool false)), type := 4, pos := "outright.go:16", after := #[{ on := 1, ground := Ground.data }, { on := 8, ground := Ground.data }], guard := none }) (v := ?_) rfl (by kernel_rfl) (by kernel_rfl) (by kernel_rfl) (fun _ _ _ h => h) (Or.inl ⟨by rfl, ?_⟩) hHeld ?_
  rotate_left
  · (intro w hSw; (try dsimp only at hSw); go_simp; all_goals (try with_reducible rfl))
  try simp only [Act.put, List.setIfInBounds_toArray, List.set_cons_zero, List.set_cons_succ]
  refine wpAnyH_take (i := 10) (oi := { dst := some 40, op := Op.move (Operand.tmp 39), type := 4, pos := "outright.go:16", after := #[{ on := 9, ground := Ground.data }, { on := 6, ground := Ground.chain }], guard := none }) (v := ?_) rfl (by kernel_rfl) (by kernel_rfl) (by kernel_rfl) (fun _ _ _ h => h) (Or.inl ⟨by rfl, ?_⟩) hHeld ?_
  rotate_left
  · (intro w hSw; (try dsimp only at hSw); go_simp; all_goals (try with_reducible rfl))
  try simp only [Act.put, List.setIfInBounds_toArray, List.set_cons_zero, List.set_cons_succ]
  refine wpAnyH_take (i := 11) (oi := { dst := some 41, op := Op.move (Operand.tmp 11), type := 26, pos := "outright.go:16", after := #[{ on := 10, ground := Ground.guard }], guard := some (10, true) }) (v := ?_) rfl (by kernel_rfl) (by kernel_rfl) (by kernel_rfl) (fun _ _ _ h => h) (Or.inl ⟨by rfl, ?_⟩) hHeld ?_
  rotate_left
  · (intro w hSw; (try dsimp only at hSw); go_simp; all_goals (try with_reducible rfl))
  try simp only [Act.put, List.setIfInBounds_toArray, List.set_cons_zero, List.set_cons_succ]
  refine wpAnyH_take (i := 12) (oi := { dst := some 42, op := Op.load 23 (Operand.tmp 5), type := 23, pos := "outright.go:16", after := #[{ on := 10, ground := Ground.guard }], guard := some (10, true) }) (v := ?_) rfl (by kernel_rfl) (by kernel_rfl) (by kernel_rfl) (fun _ _ _ h => h) (Or.inl ⟨by rfl, ?_⟩) hHeld ?_
  rotate_left
  · (intro w hSw; (try dsimp only at hSw); go_simp; all_goals (try with_reducible rfl))
  try simp only [Act.put, List.setIfInBounds_toArray, List.set_cons_zero, List.set_cons_succ]
  refine wpAnyH_take (i := 13) (oi := { dst := some 43, op := Op.load 23 (Operand.tmp 6), type := 23, pos := "outright.go:16", after := #[{ on := 10, ground := Ground.guard }], guard := some (10, true) }) (v := ?_) rfl (by kernel_rfl) (by kernel_rfl) (by kernel_rfl) (fun _ _ _ h => h) (Or.inl ⟨by rfl, ?_⟩) hHeld ?_
  rotate_left
  · (intro w hSw; (try dsimp only at hSw); go_simp; all_goals (try with_reducible rfl))
  try simp only [Act.put, List.setIfInBounds_toArray, List.set_cons_zero, List.set_cons_succ]
  refine wpAnyH_take (i := 15) (oi := { dst := some 45, op := Op.load 23 (Operand.tmp 12), type := 23, pos := "outright.go:16", after := #[{ on := 10, ground := Ground.guard }], guard := some (10, true) }) (v := ?_) rfl (by kernel_rfl) (by kernel_rfl) (by kernel_rfl) (fun _ _ _ h => h) (Or.inl ⟨by rfl, ?_⟩) hHeld ?_
  rotate_left
  · (intro w hSw; (try dsimp only at hSw); go_simp; all_goals (try with_reducible rfl))
  try simp only [Act.put, List.setIfInBounds_toArray, List.set_cons_zero, List.set_cons_succ]
  refine wpAnyH_ready (rs := [14]) (by kernel_rfl) (by simp) ?_
  refine AllReadyH.cons (o := { dst := some 44, op := Op.call { callee := Callee.value (Operand.func 11), args := #[Operand.tmp 41, Operand.tmp 42, Operand.tmp 43], argTypes := #[26, 23, 23] }, type := 23, pos := "outright.go:16", after := #[{ on := 11, ground := Ground.data }, { on := 12, ground := Ground.data }, { on := 13, ground := Ground.data }, { on := 10, ground := Ground.chain }, { on := 10, ground := Ground.guard }], guard := some (10, true) }) rfl (fun K hK => ?_) AllReadyH.nil
  go_simp
  refine Calls.mono (sminus_none ql3_0 a b c d (.inr h2)) ?_
  rintro e qW4 ⟨rfl, lx, kx⟩
  have ql4_0 := lx
  have qm4 := qm3.left kx
  have qr4_5 := qr3_5.kept kx (blk_ne qn2_5_0)
  clear kx lx
  go_wp2_with fail
  refine hK.out _ _ (HK.out _ qm4) (fun hHeld => ?_)
  clear hK K
  try simp only [Act.put, List.setIfInBounds_toArray, List.set_cons_zero, List.set_cons_succ]
  refine wpAnyH_take (i := 16) (oi := { dst := some 46, op := Op.binOp BinOp.eql 23 (Operand.tmp 44) (Operand.tmp 45) 23, type := 4, pos := "outright.go:16", after := #[{ on := 14, ground := Ground.data }, { on := 15, ground := Ground.data }, { on := 10, ground := Ground.guard }], guard := some (10, true) }) (v := ?_) rfl (by kernel_rfl) (by kernel_rfl) (by kernel_rfl) (fun _ _ _ h => h) (Or.inl ⟨by rfl, ?_⟩) hHeld ?_
  rotate_left
  · (intro w hSw; (try dsimp only at hSw); go_simp; all_goals (try with_reducible rfl))
  try simp only [Act.put, List.setIfInBounds_toArray, List.set_cons_zero, List.set_cons_succ]
  refine wpAnyH_take (i := 17) (oi := { dst := some 47, op := Op.pick (Operand.tmp 40) (Operand.tmp 46) (Operand.const (Value.bool false)), type := 4, pos := "outright.go:16", after := #[{ on := 10, ground := Ground.data }, { on := 16, ground := Ground.data }], guard := none }) (v := ?_) rfl (by kernel_rfl) (by kernel_rfl) (by kernel_rfl) (fun _ _ _ h => h) (Or.inl ⟨by rfl, ?_⟩) hHeld ?_
  rotate_left
  · (intro w hSw; (try dsimp only at hSw); go_simp; all_goals (try with_reducible rfl))
  try simp only [Act.put, List.setIfInBounds_toArray, List.set_cons_zero, List.set_cons_succ]
  refine wpAnyH_take (i := 18) (oi := { dst := some 48, op := Op.move (Operand.tmp 47), type := 4, pos := "outright.go:16", after := #[{ on := 17, ground := Ground.data }, { on := 14, ground := Ground.chain }], guard := none }) (v := ?_) rfl (by kernel_rfl) (by kernel_rfl) (by kernel_rfl) (fun _ _ _ h => h) (Or.inl ⟨by rfl, ?_⟩) hHeld ?_
  rotate_left
  · (intro w hSw; (try dsimp only at hSw); go_simp; all_goals (try with_reducible rfl))
  try simp only [Act.put, List.setIfInBounds_toArray, List.set_cons_zero, List.set_cons_succ]
  refine wpAnyH_take (i := 19) (oi := { dst := some 49, op := Op.move (Operand.tmp 11), type := 26, pos := "outright.go:16", after := #[{ on := 18, ground := Ground.guard }], guard := some (18, true) }) (v := ?_) rfl (by kernel_rfl) (by kernel_rfl) (by kernel_rfl) (fun _ _ _ h => h) (Or.inl ⟨by rfl, ?_⟩) hHeld ?_
  rotate_left
  · (intro w hSw; (try dsimp only at hSw); go_simp; all_goals (try with_reducible rfl))
  try simp only [Act.put, List.setIfInBounds_toArray, List.set_cons_zero, List.set_cons_succ]
  refine wpAnyH_take (i := 20) (oi := { dst := some 50, op := Op.load 23 (Operand.tmp 5), type := 23, pos := "outright.go:16", after := #[{ on := 18, ground := Ground.guard }], guard := some (18, true) }) (v := ?_) rfl (by kernel_rfl) (by kernel_rfl) (by kernel_rfl) (fun _ _ _ h => h) (Or.inl ⟨by rfl, ?_⟩) hHeld ?_
  rotate_left
  · (intro w hSw; (try dsimp only at hSw); go_simp; all_goals (try with_reducible rfl))
  try simp only [Act.put, List.setIfInBounds_toArray, List.set_cons_zero, List.set_cons_succ]
  refine wpAnyH_take (i := 21) (oi := { dst := some 51, op := Op.load 23 (Operand.tmp 6), type := 23, pos := "outright.go:16", after := #[{ on := 18, ground := Ground.guard }], guard := some (18, true) }) (v := ?_) rfl (by kernel_rfl) (by kernel_rfl) (by kernel_rfl) (fun _ _ _ h => h) (Or.inl ⟨by rfl, ?_⟩) hHeld ?_
  rotate_left
  · (intro w hSw; (try dsimp only at hSw); go_simp; all_goals (try with_reducible rfl))
  try simp only [Act.put, List.setIfInBounds_toArray, List.set_cons_zero, List.set_cons_succ]
  refine wpAnyH_take (i := 23) (oi := { dst := some 53, op := Op.load 23 (Operand.tmp 12), type := 23, pos := "outright.go:16", after := #[{ on := 18, ground := Ground.guard }], guard := some (18, true) }) (v := ?_) rfl (by kernel_rfl) (by kernel_rfl) (by kernel_rfl) (fun _ _ _ h => h) (Or.inl ⟨by rfl, ?_⟩) hHeld ?_
  rotate_left
  · (intro w hSw; (try dsimp only at hSw); go_simp; all_goals (try with_reducible rfl))
  try simp only [Act.put, List.setIfInBounds_toArray, List.set_cons_zero, List.set_cons_succ]
  refine wpAnyH_ready (rs := [22]) (by kernel_rfl) (by simp) ?_
  refine AllReadyH.cons (o := { dst := some 52, op := Op.call { callee := Callee.value (Operand.func 17), args := #[Operand.tmp 49, Operand.tmp 50, Operand.tmp 51], argTypes := #[26, 23, 23] }, type := 23, pos := "outright.go:16", after := #[{ on := 19, ground := Ground.data }, { on := 20, ground := Ground.data }, { on := 21, ground := Ground.data }, { on := 18, ground := Ground.chain }, { on := 18, ground := Ground.guard }], guard := some (18, true) }) rfl (fun K hK => ?_) AllReadyH.nil
  go_simp
  refine Calls.mono (scross_none ql4_0 a b c d (.inr h2)) ?_
  rintro e qW5 ⟨rfl, lx, kx⟩
  have ql5_0 := lx
  have qm5 := qm4.left kx
  have qr5_5 := qr4_5.kept kx (blk_ne qn2_5_0)
  clear kx lx
  go_wp2_with fail
  refine hK.out _ _ (HK.out _ qm5) (fun hHeld => ?_)
  clear hK K
  try simp only [Act.put, List.setIfInBounds_toArray, List.set_cons_zero, List.set_cons_succ]
  refine wpAnyH_take (i := 24) (oi := { dst := some 54, op := Op.binOp BinOp.eql 23 (Operand.tmp 52) (Operand.tmp 53) 23, type := 4, pos := "outright.go:16", after := #[{ on := 22, ground := Ground.data }, { on := 23, ground := Ground.data }, { on := 18, ground := Ground.guard }], guard := some (18, true) }) (v := ?_) rfl (by kernel_rfl) (by kernel_rfl) (by kernel_rfl) (fun _ _ _ h => h) (Or.inl ⟨by rfl, ?_⟩) hHeld ?_
  rotate_left
  · (intro w hSw; (try dsimp only at hSw); go_simp; all_goals (try with_reducible rfl))
  try simp only [Act.put, List.setIfInBounds_toArray, List.set_cons_zero, List.set_cons_succ]
  refine wpAnyH_take (i := 25) (oi := { dst := some 55, op := Op.pick (Operand.tmp 48) (Operand.tmp 54) (Operand.const (Value.bool false)), type := 4, pos := "outright.go:16", after := #[{ on := 18, ground := Ground.data }, { on := 24, ground := Ground.data }], guard := none }) (v := ?_) rfl (by kernel_rfl) (by kernel_rfl) (by kernel_rfl) (fun _ _ _ h => h) (Or.inl ⟨by rfl, ?_⟩) hHeld ?_
  rotate_left
  · (intro w hSw; (try dsimp only at hSw); go_simp; all_goals (try with_reducible rfl))
  try simp only [Act.put, List.setIfInBounds_toArray, List.set_cons_zero, List.set_cons_succ]
  refine wpAnyH_take (i := 26) (oi := { dst := some 10, op := Op.assign (Operand.tmp 55), type := 4, pos := "outright.go:16", after := #[{ on := 25, ground := Ground.data }, { on := 22, ground := Ground.chain }, { on := 0, ground := Ground.phase }, { on := 1, ground := Ground.phase }, { on := 2, ground := Ground.phase }, { on := 3, ground := Ground.phase }, { on := 4, ground := Ground.phase }, { on := 5, ground := Ground.phase }, { on := 6, ground := Ground.phase }, { on := 7, ground := Ground.phase }, { on := 8, ground := Ground.phase }, { on := 9, ground := Ground.phase }, { on := 10, ground := Ground.phase }, { on := 11, ground := Ground.phase }, { on := 12, ground := Ground.phase }, { on := 13, ground := Ground.phase }, { on := 14, ground := Ground.phase }, { on := 15, ground := Ground.phase }, { on := 16, ground := Ground.phase }, { on := 17, ground := Ground.phase }, { on := 18, ground := Ground.phase }, { on := 19, ground := Ground.phase }, { on := 20, ground := Ground.phase }, { on := 21, ground := Ground.phase }, { on := 22, ground := Ground.phase }, { on := 23, ground := Ground.phase }, { on := 24, ground := Ground.phase }, { on := 25, ground := Ground.phase }], guard := none }) (v := ?_) rfl (by kernel_rfl) (by kernel_rfl) (by kernel_rfl) (fun _ _ _ h => h) (Or.inl ⟨by rfl, ?_⟩) hHeld ?_
  rotate_left
  · (intro w hSw; (try dsimp only at hSw); go_simp; all_goals (try with_reducible rfl))
  try simp only [Act.put, List.setIfInBounds_toArray, List.set_cons_zero, List.set_cons_succ]
  refine wpAnyH_done (by kernel_rfl) ?_ _
  go_wp2
  go_ret
  exact ⟨rfl, ql5_0.below⟩

set_option maxHeartbeats 32000000 in
theorem holds_some (a b c d k i j : Int) (w : World) (ha : B64 a) (hb' : B64 b) (hc' : B64 c) (hd' : B64 d) (hk : B64 k) (h1 : a ≤ b) (h2 : c ≤ d) (fl : Bool)
    (hfl : (((overF (a + c) || overF (b + d)) || (overF (a - d) || overF (b - c)) || (crossOv a b k k false || crossOv a b k k true)) || (crossOv a b c d false || crossOv a b c d true)) = fl) :
    Calls Try.prog 5 #[(.agg #[.int .i64 a, .int .i64 b]), (.agg #[.int .i64 c, .int .i64 d]), .int .i64 k, .int .i64 i, .int .i64 j] w fun e w' => e = .returned (.bool true) ∧ Below w.heap.size w w' := by
  obtain ⟨U, hU⟩ : ∃ z, keepF i a b = z := ⟨_, rfl⟩
  obtain ⟨V, hV⟩ : ∃ z, keepF j c d = z := ⟨_, rfl⟩
  have u1 : a ≤ U ∧ U ≤ b := by rw [← hU]; unfold keepF; split; omega; split <;> omega
  have u2 : c ≤ V ∧ V ≤ d := by rw [← hV]; unfold keepF; split; omega; split <;> omega
  have bU : B64 U := by unfold B64 at *; omega
  have bV : B64 V := by unfold B64 at *; omega
  have HC1 : Hid (∀ w, Calls Try.prog 18 #[.int .i64 i, .int .i64 a, .int .i64 b] w fun e w' => e = .returned (.int .i64 U) ∧ Below w.heap.size w w') := fun w => by
    rw [← hU]; exact Calls.mono (clamp_any i a b w) fun e w' t => ⟨t.1, by rw [t.2]; exact Below.refl _ _⟩
  have HC2 : Hid (∀ w, Calls Try.prog 18 #[.int .i64 j, .int .i64 c, .int .i64 d] w fun e w' => e = .returned (.int .i64 V) ∧ Below w.heap.size w w') := fun w => by
    rw [← hV]; exact Calls.mono (clamp_any j c d w) fun e w' t => ⟨t.1, by rw [t.2]; exact Below.refl _ _⟩
  obtain ⟨o1, ho1⟩ : ∃ z, (overF (a + c) || overF (b + d)) = z := ⟨_, rfl⟩
  obtain ⟨o2, ho2⟩ : ∃ z, (overF (a - d) || overF (b - c)) = z := ⟨_, rfl⟩
  obtain ⟨o3, ho3⟩ : ∃ z, (crossOv a b k k false || crossOv a b k k true) = z := ⟨_, rfl⟩
  obtain ⟨o4, ho4⟩ : ∃ z, (crossOv a b c d false || crossOv a b c d true) = z := ⟨_, rfl⟩
  obtain ⟨x1, hx1⟩ : ∃ z, clampF (a + c) = z := ⟨_, rfl⟩
  obtain ⟨x2, hx2⟩ : ∃ z, clampF (b + d) = z := ⟨_, rfl⟩
  obtain ⟨y1, hy1⟩ : ∃ z, clampF (a - d) = z := ⟨_, rfl⟩
  obtain ⟨y2, hy2⟩ : ∃ z, clampF (b - c) = z := ⟨_, rfl⟩
  obtain ⟨t1, ht1⟩ : ∃ z, crossLo a b k k = z := ⟨_, rfl⟩
  obtain ⟨t2, ht2⟩ : ∃ z, crossHi a b k k = z := ⟨_, rfl⟩
  obtain ⟨s1, hs1⟩ : ∃ z, crossLo a b c d = z := ⟨_, rfl⟩
  obtain ⟨s2, hs2⟩ : ∃ z, crossHi a b c d = z := ⟨_, rfl⟩
  have HP' : Hid (∀ v W o g, Live w v W o → SpanRow W (some ⟨g, 0, none⟩) [(a, b), (c, d)] → g ≠ v → Calls Try.prog 14 #[.pointer (some ⟨v, 0, none⟩), .slice (some ⟨g, 0, none⟩) 2 2] W fun e W' => e = .returned ((.agg #[.int .i64 x1, .int .i64 x2])) ∧ Live w v W' (o || o1) ∧ Kept v W W') := fun v W o g l hr hg => by
    have t := plus_at l a b c d h1 h2 ha hb' hc' hd' g hr hg
    rw [hx1, hx2, ho1] at t
    exact Calls.mono t fun e W' t => ⟨t.1, t.2.1, t.2.2⟩
  have HMi' : Hid (∀ v W o, Live w v W o → Calls Try.prog 11 #[.pointer (some ⟨v, 0, none⟩), (.agg #[.int .i64 a, .int .i64 b]), (.agg #[.int .i64 c, .int .i64 d])] W fun e W' => e = .returned ((.agg #[.int .i64 y1, .int .i64 y2])) ∧ Live w v W' (o || o2) ∧ Kept v W W') := fun v W o l => by
    have t := sminus_some l a b c d h1 h2 ha hb' hc' hd'
    rw [hy1, hy2, ho2] at t
    exact Calls.mono t fun e W' t => ⟨t.1, t.2.1, t.2.2⟩
  have HT' : Hid (∀ v W o, Live w v W o → Calls Try.prog 13 #[.pointer (some ⟨v, 0, none⟩), (.agg #[.int .i64 a, .int .i64 b]), .int .i64 k] W fun e W' => e = .returned ((.agg #[.int .i64 t1, .int .i64 t2])) ∧ Live w v W' (o || o3) ∧ Kept v W W') := fun v W o l => by
    have t := stimes_some l a b k h1 ha hb' hk
    rw [ht1, ht2, ho3] at t
    exact Calls.mono t fun e W' t => ⟨t.1, t.2.1, t.2.2⟩
  have HX' : Hid (∀ v W o, Live w v W o → Calls Try.prog 17 #[.pointer (some ⟨v, 0, none⟩), (.agg #[.int .i64 a, .int .i64 b]), (.agg #[.int .i64 c, .int .i64 d])] W fun e W' => e = .returned ((.agg #[.int .i64 s1, .int .i64 s2])) ∧ Live w v W' (o || o4) ∧ Kept v W W') := fun v W o l => by
    have t := scross_some l a b c d h1 h2 ha hb' hc' hd'
    rw [hs1, hs2, ho4] at t
    exact Calls.mono t fun e W' t => ⟨t.1, t.2.1, t.2.2⟩
  rw [ho1, ho2, ho3, ho4] at hfl
  -- where nothing stayed: the exact numbers, and that they lie between
  have HN : Hid (fl = false → ∃ n1 n2 n3 n4 n5 n6 : Int, (clampF (U + V) = n1 ∧ overF (U + V) = false ∧ x1 ≤ n1 ∧ n1 ≤ x2) ∧ (clampF (U - V) = n2 ∧ overF (U - V) = false ∧ y1 ≤ n2 ∧ n2 ≤ y2) ∧ (clampF (mulF U k false) = n3 ∧ overF (mulF U k false) = false ∧ t1 ≤ n3 ∧ n3 ≤ t2) ∧ (clampF (mulF U k true) = n4 ∧ overF (mulF U k true) = false ∧ t1 ≤ n4 ∧ n4 ≤ t2) ∧ (clampF (mulF U V false) = n5 ∧ overF (mulF U V false) = false ∧ s1 ≤ n5 ∧ n5 ≤ s2) ∧ (clampF (mulF U V true) = n6 ∧ overF (mulF U V true) = false ∧ s1 ≤ n6 ∧ n6 ≤ s2)) := fun hf => by
    rw [hf] at hfl
    simp only [Bool.or_eq_false_iff] at hfl
    obtain ⟨⟨⟨g1, g2⟩, g3⟩, g4⟩ := hfl
    rw [g1] at ho1; rw [g2] at ho2; rw [g3] at ho3; rw [g4] at ho4
    simp only [Bool.or_eq_false_iff] at ho1 ho2 ho3 ho4
    have q1 := overF_false ho1.1; have q2 := overF_false ho1.2; have q3 := overF_false ho2.1; have q4 := overF_false ho2.2
    have k0 := Int.le_refl k
    refine ⟨_, _, _, _, _, _, ⟨rfl, overF_in (by omega) (by omega), ?_, ?_⟩, ⟨rfl, overF_in (by omega) (by omega), ?_, ?_⟩, ⟨rfl, cross_in u1.1 u1.2 k0 k0 ho3.1 ho3.2 false, ?_, ?_⟩, ⟨rfl, cross_in u1.1 u1.2 k0 k0 ho3.1 ho3.2 true, ?_, ?_⟩, ⟨rfl, cross_in u1.1 u1.2 u2.1 u2.2 ho4.1 ho4.2 false, ?_, ?_⟩, ⟨rfl, cross_in u1.1 u1.2 u2.1 u2.2 ho4.1 ho4.2 true, ?_, ?_⟩⟩
    · rw [← hx1]; exact clampF_mono (by omega)
    · rw [← hx2]; exact clampF_mono (by omega)
    · rw [← hy1]; exact clampF_mono (by omega)
    · rw [← hy2]; exact clampF_mono (by omega)
    · rw [← ht1]; exact cross_le u1.1 u1.2 k0 k0
    · rw [← ht2]; exact Int.le_trans (clamp_up U k) (cross_ge u1.1 u1.2 k0 k0)
    · rw [← ht1]; exact Int.le_trans (cross_le u1.1 u1.2 k0 k0) (clamp_up U k)
    · rw [← ht2]; exact cross_ge u1.1 u1.2 k0 k0
    · rw [← hs1]; exact cross_le u1.1 u1.2 u2.1 u2.2
    · rw [← hs2]; exact Int.le_trans (clamp_up U V) (cross_ge u1.1 u1.2 u2.1 u2.2)
    · rw [← hs1]; exact Int.le_trans (cross_le u1.1 u1.2 u2.1 u2.2) (clamp_up U V)
    · rw [← hs2]; exact cross_ge u1.1 u1.2 u2.1 u2.2
  have HBs : Hid (B64 U ∧ B64 V ∧ B64 k) := ⟨bU, bV, hk⟩
  have HF : Hid (((o1 || o2 || o3) || o4) = fl) := hfl
  clear ho1 ho2 ho3 ho4 hx1 hx2 hy1 hy2 ht1 ht2 hs1 hs2 hU hV bU bV ha hb' hc' hd' hk hfl u1 u2
  go_enter Try.func5, Try.ntmps5
  go_wp2_with fail
  refine Calls.mono (sempty_any a b false _ (by simp; omega)) ?_
  rintro e w1 ⟨rfl, hb⟩
  have B1 : Below (w.heap.size + 1 + 1) ((w.alloc (.cells #[.int .i64 a, .int .i64 b] 23)).alloc (.cells #[.int .i64 c, .int .i64 d] 23)) w1 := by simpa using hb
  have HB1 : Hid (Below (w.heap.size + 1 + 1) ((w.alloc (.cells #[.int .i64 a, .int .i64 b] 23)).alloc (.cells #[.int .i64 c, .int .i64 d] 23)) w1) := B1
  have HW1 : Hid (Below w.heap.size w w1) := (((Below.refl _ w).alloc (Nat.le_refl _) _).alloc (by simp) _).trans (B1.mono (by omega))
  have q3 : w1.cell? ⟨w.heap.size + 1, 0, none⟩ = some (.int .i64 c) := (B1.cell (p := ⟨w.heap.size + 1, 0, none⟩) (by simp)).trans (by simp [go_sem])
  have q4 : w1.cell? ⟨w.heap.size + 1, 1, none⟩ = some (.int .i64 d) := (B1.cell (p := ⟨w.heap.size + 1, 1, none⟩) (by simp)).trans (by simp [go_sem])
  clear hb B1
  go_wp2_with fail
  refine Calls.mono (sempty_any c d false _ (by simp; omega)) ?_
  rintro e w2 ⟨rfl, hb⟩
  have B2 : Below (w.heap.size + 1 + 1) ((w.alloc (.cells #[.int .i64 a, .int .i64 b] 23)).alloc (.cells #[.int .i64 c, .int .i64 d] 23)) w2 := HB1.out.trans (hb.mono (by have := HB1.out.size; simpa using this))
  have HB2 : Hid (Below (w.heap.size + 1 + 1) ((w.alloc (.cells #[.int .i64 a, .int .i64 b] 23)).alloc (.cells #[.int .i64 c, .int .i64 d] 23)) w2) := B2
  have HW2 : Hid (Below w.heap.size w w2) := HW1.out.trans (hb.mono HW1.out.size)
  have p1 : w2.cell? ⟨w.heap.size, 0, none⟩ = some (.int .i64 a) := (B2.cell (p := ⟨w.heap.size, 0, none⟩) (by simp; omega)).trans (by simp [go_sem])
  have p2 : w2.cell? ⟨w.heap.size, 1, none⟩ = some (.int .i64 b) := (B2.cell (p := ⟨w.heap.size, 1, none⟩) (by simp; omega)).trans (by simp [go_sem])
  have p3 : w2.cell? ⟨w.heap.size + 1, 0, none⟩ = some (.int .i64 c) := (B2.cell (p := ⟨w.heap.size + 1, 0, none⟩) (by simp)).trans (by simp [go_sem])
  have p4 : w2.cell? ⟨w.heap.size + 1, 1, none⟩ = some (.int .i64 d) := (B2.cell (p := ⟨w.heap.size + 1, 1, none⟩) (by simp)).trans (by simp [go_sem])
  have z2 : w.heap.size + 1 < w2.heap.size := by have := B2.size; simp at this; omega
  have z1 : w.heap.size < w2.heap.size := by omega
  clear hb B2 q3 q4
  obtain ⟨W5, hW5⟩ : ∃ Z, w2 = Z := ⟨_, rfl⟩
  have HK5 : Hid (∀ W', Below w2.heap.size w2 W' → W'.cell? ⟨w.heap.size, 0, none⟩ = some (.int .i64 a) ∧ W'.cell? ⟨w.heap.size, 1, none⟩ = some (.int .i64 b) ∧ W'.cell? ⟨w.heap.size + 1, 0, none⟩ = some (.int .i64 c) ∧ W'.cell? ⟨w.heap.size + 1, 1, none⟩ = some (.int .i64 d)) := fun W' kk => ⟨cell_later kk p1, cell_later kk p2, cell_later kk p3, cell_later kk p4⟩
  have k0 : Below w2.heap.size w2 w2.drew := (Below.refl _ w2).drew
  clear hW5 W5
  go_wp2_with fail
  refine wp_region_held_drew (S := fun W' => W'.cell? ⟨w.heap.size, 0, none⟩ = some (.int .i64 a) ∧ W'.cell? ⟨w.heap.size, 1, none⟩ = some (.int .i64 b) ∧ W'.cell? ⟨w.heap.size + 1, 0, none⟩ = some (.int .i64 c) ∧ W'.cell? ⟨w.heap.size + 1, 1, none⟩ = some (.int .i64 d)) (by kernel_rfl) (HK5.out _ k0) (fun hHeld => ?_)
  refine wpAnyH_take (i := 0) (oi := { dst := some 56, op := Op.move (Operand.tmp 3), type := 3, pos := "outright.go:18", after := #[], guard := none }) (v := ?_) rfl (by kernel_rfl) (by kernel_rfl) (by kernel_rfl) (fun _ _ _ h => h) (Or.inl ⟨by rfl, ?_⟩) hHeld ?_
  rotate_left
  · (intro w hSw; (try dsimp only at hSw); go_simp; all_goals (try with_reducible rfl))
  try simp only [Act.put, List.setIfInBounds_toArray, List.set_cons_zero, List.set_cons_succ]
  refine wpAnyH_take (i := 1) (oi := { dst := some 57, op := Op.fieldAddr 23 (Operand.tmp 5) 0, type := 0, pos := "outright.go:18", after := #[], guard := none }) (v := ?_) rfl (by kernel_rfl) (by kernel_rfl) (by kernel_rfl) (fun _ _ _ h => h) (Or.inl ⟨by rfl, ?_⟩) hHeld ?_
  rotate_left
  · (intro w hSw; (try dsimp only at hSw); go_simp; all_goals (try with_reducible rfl))
  try simp only [Act.put, List.setIfInBounds_toArray, List.set_cons_zero, List.set_cons_succ]
  refine wpAnyH_take (i := 2) (oi := { dst := some 58, op := Op.load 3 (Operand.tmp 57), type := 3, pos := "outright.go:18", after := #[{ on := 1, ground := Ground.data }], guard := none }) (v := ?_) rfl (by kernel_rfl) (by kernel_rfl) (by kernel_rfl) (fun _ _ _ h => h) (Or.inl ⟨by rfl, ?_⟩) hHeld ?_
  rotate_left
  · (intro w hSw; (try dsimp only at hSw); go_simp; all_goals (try with_reducible rfl))
  try simp only [Act.put, List.setIfInBounds_toArray, List.set_cons_zero, List.set_cons_succ]
  refine wpAnyH_take (i := 3) (oi := { dst := some 59, op := Op.fieldAddr 23 (Operand.tmp 5) 1, type := 0, pos := "outright.go:18", after := #[], guard := none }) (v := ?_) rfl (by kernel_rfl) (by kernel_rfl) (by kernel_rfl) (fun _ _ _ h => h) (Or.inl ⟨by rfl, ?_⟩) hHeld ?_
  rotate_left
  · (intro w hSw; (try dsimp only at hSw); go_simp; all_goals (try with_reducible rfl))
  try simp only [Act.put, List.setIfInBounds_toArray, List.set_cons_zero, List.set_cons_succ]
  refine wpAnyH_take (i := 4) (oi := { dst := some 60, op := Op.load 3 (Operand.tmp 59), type := 3, pos := "outright.go:18", after := #[{ on := 3, ground := Ground.data }], guard := none }) (v := ?_) rfl (by kernel_rfl) (by kernel_rfl) (by kernel_rfl) (fun _ _ _ h => h) (Or.inl ⟨by rfl, ?_⟩) hHeld ?_
  rotate_left
  · (intro w hSw; (try dsimp only at hSw); go_simp; all_goals (try with_reducible rfl))
  try simp only [Act.put, List.setIfInBounds_toArray, List.set_cons_zero, List.set_cons_succ]
  refine wpAnyH_take (i := 6) (oi := { dst := some 62, op := Op.move (Operand.tmp 4), type := 3, pos := "outright.go:18", after := #[], guard := none }) (v := ?_) rfl (by kernel_rfl) (by kernel_rfl) (by kernel_rfl) (fun _ _ _ h => h) (Or.inl ⟨by rfl, ?_⟩) hHeld ?_
  rotate_left
  · (intro w hSw; (try dsimp only at hSw); go_simp; all_goals (try with_reducible rfl))
  try simp only [Act.put, List.setIfInBounds_toArray, List.set_cons_zero, List.set_cons_succ]
  refine wpAnyH_take (i := 7) (oi := { dst := some 63, op := Op.fieldAddr 23 (Operand.tmp 6) 0, type := 0, pos := "outright.go:18", after := #[], guard := none }) (v := ?_) rfl (by kernel_rfl) (by kernel_rfl) (by kernel_rfl) (fun _ _ _ h => h) (Or.inl ⟨by rfl, ?_⟩) hHeld ?_
  rotate_left
  · (intro w hSw; (try dsimp only at hSw); go_simp; all_goals (try with_reducible rfl))
  try simp only [Act.put, List.setIfInBounds_toArray, List.set_cons_zero, List.set_cons_succ]
  refine wpAnyH_take (i := 8) (oi := { dst := some 64, op := Op.load 3 (Operand.tmp 63), type := 3, pos := "outright.go:18", after := #[{ on := 7, ground := Ground.data }], guard := none }) (v := ?_) rfl (by kernel_rfl) (by kernel_rfl) (by kernel_rfl) (fun _ _ _ h => h) (Or.inl ⟨by rfl, ?_⟩) hHeld ?_
  rotate_left
  · (intro w hSw; (try dsimp only at hSw); go_simp; all_goals (try with_reducible rfl))
  try simp only [Act.put, List.setIfInBounds_toArray, List.set_cons_zero, List.set_cons_succ]
  refine wpAnyH_take (i := 9) (oi := { dst := some 65, op := Op.fieldAddr 23 (Operand.tmp 6) 1, type := 0, pos := "outright.go:18", after := #[], guard := none }) (v := ?_) rfl (by kernel_rfl) (by kernel_rfl) (by kernel_rfl) (fun _ _ _ h => h) (Or.inl ⟨by rfl, ?_⟩) hHeld ?_
  rotate_left
  · (intro w hSw; (try dsimp only at hSw); go_simp; all_goals (try with_reducible rfl))
  try simp only [Act.put, List.setIfInBounds_toArray, List.set_cons_zero, List.set_cons_succ]
  refine wpAnyH_take (i := 10) (oi := { dst := some 66, op := Op.load 3 (Operand.tmp 65), type := 3, pos := "outright.go:18", after := #[{ on := 9, ground := Ground.data }], guard := none }) (v := ?_) rfl (by kernel_rfl) (by kernel_rfl) (by kernel_rfl) (fun _ _ _ h => h) (Or.inl ⟨by rfl, ?_⟩) hHeld ?_
  rotate_left
  · (intro w hSw; (try dsimp only at hSw); go_simp; all_goals (try with_reducible rfl))
  try simp only [Act.put, List.setIfInBounds_toArray, List.set_cons_zero, List.set_cons_succ]
  refine wpAnyH_ready (rs := [5]) (by kernel_rfl) (by simp) ?_
  refine AllReadyH.cons (o := { dst := some 61, op := Op.call { callee := Callee.value (Operand.func 18), args := #[Operand.tmp 56, Operand.tmp 58, Operand.tmp 60], argTypes := #[3, 3, 3] }, type := 3, pos := "outright.go:18", after := #[{ on := 0, ground := Ground.data }, { on := 2, ground := Ground.data }, { on := 4, ground := Ground.data }], guard := none }) rfl (fun K hK => ?_) AllReadyH.nil
  go_simp
  refine Calls.mono (HC1.out _) ?_
  rintro e V1 ⟨rfl, hb⟩
  have k1 := k0.trans (hb.mono k0.size)
  clear hb
  go_wp2_with fail
  refine hK.out _ _ (HK5.out _ k1) (fun hHeld => ?_)
  clear hK K
  try simp only [Act.put, List.setIfInBounds_toArray, List.set_cons_zero, List.set_cons_succ]
  refine wpAnyH_ready (rs := [11]) (by kernel_rfl) (by simp) ?_
  refine AllReadyH.cons (o := { dst := some 67, op := Op.call { callee := Callee.value (Operand.func 18), args := #[Operand.tmp 62, Operand.tmp 64, Operand.tmp 66], argTypes := #[3, 3, 3] }, type := 3, pos := "outright.go:18", after := #[{ on := 6, ground := Ground.data }, { on := 8, ground := Ground.data }, { on := 10, ground := Ground.data }, { on := 5, ground := Ground.chain }], guard := none }) rfl (fun K hK => ?_) AllReadyH.nil
  go_simp
  refine Calls.mono (HC2.out _) ?_
  rintro e V2 ⟨rfl, hb⟩
  have k2 := k1.trans (hb.mono k1.size)
  clear hb
  go_wp2_with fail
  refine hK.out _ _ (HK5.out _ k2) (fun hHeld => ?_)
  clear hK K
  try simp only [Act.put, List.setIfInBounds_toArray, List.set_cons_zero, List.set_cons_succ]
  refine wpAnyH_take (i := 12) (oi := { dst := some 13, op := Op.assign (Operand.tmp 61), type := 3, pos := "outright.go:18", after := #[{ on := 5, ground := Ground.data }, { on := 11, ground := Ground.chain }, { on := 0, ground := Ground.phase }, { on := 1, ground := Ground.phase }, { on := 2, ground := Ground.phase }, { on := 3, ground := Ground.phase }, { on := 4, ground := Ground.phase }, { on := 5, ground := Ground.phase }, { on := 6, ground := Ground.textOnly Departure.lateStores }, { on := 7, ground := Ground.textOnly Departure.lateStores }, { on := 8, ground := Ground.textOnly Departure.lateStores }, { on := 9, ground := Ground.textOnly Departure.lateStores }, { on := 10, ground := Ground.textOnly Departure.lateStores }, { on := 11, ground := Ground.textOnly Departure.lateStoresUnsure }], guard := none }) (v := ?_) rfl (by kernel_rfl) (by kernel_rfl) (by kernel_rfl) (fun _ _ _ h => h) (Or.inl ⟨by rfl, ?_⟩) hHeld ?_
  rotate_left
  · (intro w hSw; (try dsimp only at hSw); go_simp; all_goals (try with_reducible rfl))
  try simp only [Act.put, List.setIfInBounds_toArray, List.set_cons_zero, List.set_cons_succ]
  refine wpAnyH_take (i := 13) (oi := { dst := some 14, op := Op.assign (Operand.tmp 67), type := 3, pos := "outright.go:18", after := #[{ on := 11, ground := Ground.data }, { on := 12, ground := Ground.chain }, { on := 0, ground := Ground.phase }, { on := 1, ground := Ground.phase }, { on := 2, ground := Ground.phase }, { on := 3, ground := Ground.phase }, { on := 4, ground := Ground.phase }, { on := 5, ground := Ground.phase }, { on := 6, ground := Ground.phase }, { on := 7, ground := Ground.phase }, { on := 8, ground := Ground.phase }, { on := 9, ground := Ground.phase }, { on := 10, ground := Ground.phase }, { on := 11, ground := Ground.phase }, { on := 12, ground := Ground.phase }], guard := none }) (v := ?_) rfl (by kernel_rfl) (by kernel_rfl) (by kernel_rfl) (fun _ _ _ h => h) (Or.inl ⟨by rfl, ?_⟩) hHeld ?_
  rotate_left
  · (intro w hSw; (try dsimp only at hSw); go_simp; all_goals (try with_reducible rfl))
  try simp only [Act.put, List.setIfInBounds_toArray, List.set_cons_zero, List.set_cons_succ]
  refine wpAnyH_done (by kernel_rfl) ?_ _
  have HV2 : Hid (Below w.heap.size w V2) := HW2.out.trans (k2.mono HW2.out.size)
  have lb1 := Live.sacc w (V2.alloc (.cells #[.bool false] 30)) false 28 (HV2.out.alloc HV2.out.size _)
  have la1 := (Live.sacc w V2 false 30 HV2.out).alloc (.cells #[.bool false] 28)
  have e1 : (V2.alloc (.cells #[.bool false] 30)).heap.size = V2.heap.size + 1 := by simp
  rw [e1] at lb1
  obtain ⟨v, hv⟩ : ∃ v, V2.heap.size = v := ⟨_, rfl⟩
  obtain ⟨u, hu⟩ : ∃ u, v + 1 = u := ⟨_, rfl⟩
  have s0 : ((V2.alloc (.cells #[.bool false] 30)).alloc (.cells #[.bool false] 28)).heap.size = u + 1 := by simp; omega
  have zz := k2.size
  rw [hv] at la1 lb1
  rw [hu] at lb1
  have hne01 : v ≠ u := by omega
  have hne10 : u ≠ v := by omega
  have hw1 : w.heap.size + 1 < v := by omega
  have hvu : v < u := by omega
  have HV : Hid (V2.heap.size = v) := hv
  have HU : Hid (v + 1 = u) := hu
  have HK : Hid (∀ W', Kept2 v u ((V2.alloc (.cells #[.bool false] 30)).alloc (.cells #[.bool false] 28)) W' → W'.cell? ⟨w.heap.size, 0, none⟩ = some (.int .i64 a) ∧ W'.cell? ⟨w.heap.size, 1, none⟩ = some (.int .i64 b) ∧ W'.cell? ⟨w.heap.size + 1, 0, none⟩ = some (.int .i64 c) ∧ W'.cell? ⟨w.heap.size + 1, 1, none⟩ = some (.int .i64 d)) := fun W' kk => by
    obtain ⟨p1, p2, p3, p4⟩ := HK5.out _ k2
    have f1 : w.heap.size < V2.heap.size := by omega
    have f2 : w.heap.size < V2.heap.size + 1 := by omega
    have f3 : w.heap.size + 1 < V2.heap.size := by omega
    have f4 : w.heap.size + 1 < V2.heap.size + 1 := by omega
    exact ⟨kk.cell (by simp [go_sem, f1, f2, p1]) (by omega) (by omega), kk.cell (by simp [go_sem, f1, f2, p2]) (by omega) (by omega), kk.cell (by simp [go_sem, f3, f4, p3]) (by omega) (by omega), kk.cell (by simp [go_sem, f3, f4, p4]) (by omega) (by omega)⟩
  obtain ⟨W0, hW0⟩ : ∃ Z, ((V2.alloc (.cells #[.bool false] 30)).alloc (.cells #[.bool false] 28)) = Z := ⟨_, rfl⟩
  have l0 : Live w v W0.drew false := by rw [← hW0]; exact la1.drew
  have l1 : Live w u W0.drew false := by rw [← hW0]; exact lb1.drew
  have m0 : Kept2 v u W0 W0.drew := Kept2.drew v u _
  have HW0 : Hid (((V2.alloc (.cells #[.bool false] 30)).alloc (.cells #[.bool false] 28)) = W0) := hW0
  rw [hW0] at HK s0
  clear p1 p2 p3 p4 hv hu hW0 HB1 HB2 HW1 HW2 la1 lb1 e1 k0 k1 k2 HK5 hHeld HC1 HC2 zz
  go_wp2_with fail
  rw [HW0.out, HV.out, HU.out]
  refine wp_region_held_drew (S := fun W' => W'.cell? ⟨w.heap.size, 0, none⟩ = some (.int .i64 a) ∧ W'.cell? ⟨w.heap.size, 1, none⟩ = some (.int .i64 b) ∧ W'.cell? ⟨w.heap.size + 1, 0, none⟩ = some (.int .i64 c) ∧ W'.cell? ⟨w.heap.size + 1, 1, none⟩ = some (.int .i64 d)) (by kernel_rfl) (HK.out _ m0) (fun hHeld => ?_)
  refine wpAnyH_take (i := 0) (oi := { dst := some 72, op := Op.move (Operand.tmp 15), type := 26, pos := "outright.go:20", after := #[], guard := none }) (v := ?_) rfl (by kernel_rfl) (by kernel_rfl) (by kernel_rfl) (fun _ _ _ h => h) (Or.inl ⟨by rfl, ?_⟩) hHeld ?_
  rotate_left
  · (intro w hSw; (try dsimp only at hSw); go_simp; all_goals (try with_reducible rfl))
  try simp only [Act.put, List.setIfInBounds_toArray, List.set_cons_zero, List.set_cons_succ]
  refine wpAnyH_take (i := 1) (oi := { dst := some 73, op := Op.load 23 (Operand.tmp 5), type := 23, pos := "outright.go:20", after := #[], guard := none }) (v := ?_) rfl (by kernel_rfl) (by kernel_rfl) (by kernel_rfl) (fun _ _ _ h => h) (Or.inl ⟨by rfl, ?_⟩) hHeld ?_
  rotate_left
  · (intro w hSw; (try dsimp only at hSw); go_simp; all_goals (try with_reducible rfl))
  try simp only [Act.put, List.setIfInBounds_toArray, List.set_cons_zero, List.set_cons_succ]
  refine wpAnyH_take (i := 2) (oi := { dst := some 74, op := Op.load 23 (Operand.tmp 6), type := 23, pos := "outright.go:20", after := #[], guard := none }) (v := ?_) rfl (by kernel_rfl) (by kernel_rfl) (by kernel_rfl) (fun _ _ _ h => h) (Or.inl ⟨by rfl, ?_⟩) hHeld ?_
  rotate_left
  · (intro w hSw; (try dsimp only at hSw); go_simp; all_goals (try with_reducible rfl))
  try simp only [Act.put, List.setIfInBounds_toArray, List.set_cons_zero, List.set_cons_succ]
  refine wpAnyH_take (i := 5) (oi := { dst := some 77, op := Op.move (Operand.tmp 15), type := 26, pos := "outright.go:20", after := #[], guard := none }) (v := ?_) rfl (by kernel_rfl) (by kernel_rfl) (by kernel_rfl) (fun _ _ _ h => h) (Or.inl ⟨by rfl, ?_⟩) hHeld ?_
  rotate_left
  · (intro w hSw; (try dsimp only at hSw); go_simp; all_goals (try with_reducible rfl))
  try simp only [Act.put, List.setIfInBounds_toArray, List.set_cons_zero, List.set_cons_succ]
  refine wpAnyH_take (i := 6) (oi := { dst := some 78, op := Op.load 23 (Operand.tmp 5), type := 23, pos := "outright.go:20", after := #[], guard := none }) (v := ?_) rfl (by kernel_rfl) (by kernel_rfl) (by kernel_rfl) (fun _ _ _ h => h) (Or.inl ⟨by rfl, ?_⟩) hHeld ?_
  rotate_left
  · (intro w hSw; (try dsimp only at hSw); go_simp; all_goals (try with_reducible rfl))
  try simp only [Act.put, List.setIfInBounds_toArray, List.set_cons_zero, List.set_cons_succ]
  refine wpAnyH_take (i := 7) (oi := { dst := some 79, op := Op.load 23 (Operand.tmp 6), type := 23, pos := "outright.go:20", after := #[], guard := none }) (v := ?_) rfl (by kernel_rfl) (by kernel_rfl) (by kernel_rfl) (fun _ _ _ h => h) (Or.inl ⟨by rfl, ?_⟩) hHeld ?_
  rotate_left
  · (intro w hSw; (try dsimp only at hSw); go_simp; all_goals (try with_reducible rfl))
  try simp only [Act.put, List.setIfInBounds_toArray, List.set_cons_zero, List.set_cons_succ]
  refine wpAnyH_take (i := 9) (oi := { dst := some 81, op := Op.move (Operand.tmp 15), type := 26, pos := "outright.go:20", after := #[], guard := none }) (v := ?_) rfl (by kernel_rfl) (by kernel_rfl) (by kernel_rfl) (fun _ _ _ h => h) (Or.inl ⟨by rfl, ?_⟩) hHeld ?_
  rotate_left
  · (intro w hSw; (try dsimp only at hSw); go_simp; all_goals (try with_reducible rfl))
  try simp only [Act.put, List.setIfInBounds_toArray, List.set_cons_zero, List.set_cons_succ]
  refine wpAnyH_take (i := 10) (oi := { dst := some 82, op := Op.load 23 (Operand.tmp 5), type := 23, pos := "outright.go:20", after := #[], guard := none }) (v := ?_) rfl (by kernel_rfl) (by kernel_rfl) (by kernel_rfl) (fun _ _ _ h => h) (Or.inl ⟨by rfl, ?_⟩) hHeld ?_
  rotate_left
  · (intro w hSw; (try dsimp only at hSw); go_simp; all_goals (try with_reducible rfl))
  try simp only [Act.put, List.setIfInBounds_toArray, List.set_cons_zero, List.set_cons_succ]
  refine wpAnyH_take (i := 11) (oi := { dst := some 83, op := Op.move (Operand.tmp 2), type := 3, pos := "outright.go:20", after := #[], guard := none }) (v := ?_) rfl (by kernel_rfl) (by kernel_rfl) (by kernel_rfl) (fun _ _ _ h => h) (Or.inl ⟨by rfl, ?_⟩) hHeld ?_
  rotate_left
  · (intro w hSw; (try dsimp only at hSw); go_simp; all_goals (try with_reducible rfl))
  try simp only [Act.put, List.setIfInBounds_toArray, List.set_cons_zero, List.set_cons_succ]
  refine wpAnyH_take (i := 13) (oi := { dst := some 85, op := Op.move (Operand.tmp 15), type := 26, pos := "outright.go:20", after := #[], guard := none }) (v := ?_) rfl (by kernel_rfl) (by kernel_rfl) (by kernel_rfl) (fun _ _ _ h => h) (Or.inl ⟨by rfl, ?_⟩) hHeld ?_
  rotate_left
  · (intro w hSw; (try dsimp only at hSw); go_simp; all_goals (try with_reducible rfl))
  try simp only [Act.put, List.setIfInBounds_toArray, List.set_cons_zero, List.set_cons_succ]
  refine wpAnyH_take (i := 14) (oi := { dst := some 86, op := Op.load 23 (Operand.tmp 5), type := 23, pos := "outright.go:20", after := #[], guard := none }) (v := ?_) rfl (by kernel_rfl) (by kernel_rfl) (by kernel_rfl) (fun _ _ _ h => h) (Or.inl ⟨by rfl, ?_⟩) hHeld ?_
  rotate_left
  · (intro w hSw; (try dsimp only at hSw); go_simp; all_goals (try with_reducible rfl))
  try simp only [Act.put, List.setIfInBounds_toArray, List.set_cons_zero, List.set_cons_succ]
  refine wpAnyH_take (i := 15) (oi := { dst := some 87, op := Op.load 23 (Operand.tmp 6), type := 23, pos := "outright.go:20", after := #[], guard := none }) (v := ?_) rfl (by kernel_rfl) (by kernel_rfl) (by kernel_rfl) (fun _ _ _ h => h) (Or.inl ⟨by rfl, ?_⟩) hHeld ?_
  rotate_left
  · (intro w hSw; (try dsimp only at hSw); go_simp; all_goals (try with_reducible rfl))
  try simp only [Act.put, List.setIfInBounds_toArray, List.set_cons_zero, List.set_cons_succ]
  refine inv_any (fun l act W => ∃ f3 f4 f8 f12 f16 f17 f18 f19 f20 f21 f22 f23 f24 : Bool, ∃ r3 g17 g18 g19 g20 : Nat, l = #[true, true, true, f3, f4, true, true, true, f8, true, true, true, f12, true, true, true, f16, f17, f18, f19, f20, f21, f22, f23, f24] ∧ act = { tmps := #[Value.agg #[Value.int IntKind.i64 a, Value.int IntKind.i64 b], Value.agg #[Value.int IntKind.i64 c, Value.int IntKind.i64 d], Value.int IntKind.i64 k, Value.int IntKind.i64 i, Value.int IntKind.i64 j, Value.pointer (some { block := w.heap.size, off := 0 }), Value.pointer (some { block := w.heap.size + 1, off := 0 }), undef, undef, undef, Value.bool false, undef, undef, Value.int IntKind.i64 U, Value.int IntKind.i64 V, Value.pointer (some { block := v, off := 0 }), Value.pointer (some { block := u, off := 0 }), sel f17 (Value.pointer (some ⟨g17, 0, none⟩)), sel f18 (Value.pointer (some ⟨g18, 0, none⟩)), sel f19 (Value.pointer (some ⟨g19, 0, none⟩)), sel f20 (Value.pointer (some ⟨g20, 0, none⟩)), Value.agg #[Value.int IntKind.i64 a, Value.int IntKind.i64 b], Value.bool false, Value.bool false, Value.agg #[Value.int IntKind.i64 c, Value.int IntKind.i64 d], Value.bool false, Value.bool false, undef, undef, undef, undef, undef, undef, undef, undef, undef, undef, undef, undef, undef, undef, undef, undef, undef, undef, undef, undef, undef, undef, undef, undef, undef, undef, undef, undef, undef, Value.int IntKind.i64 i, Value.pointer (some { block := w.heap.size, off := 0 }), Value.int IntKind.i64 a, Value.pointer (some { block := w.heap.size, off := 1 }), Value.int IntKind.i64 b, Value.int IntKind.i64 U, Value.int IntKind.i64 j, Value.pointer (some { block := w.heap.size + 1, off := 0 }), Value.int IntKind.i64 c, Value.pointer (some { block := w.heap.size + 1, off := 1 }), Value.int IntKind.i64 d, Value.int IntKind.i64 V, Value.agg #[Value.bool false], Value.pointer (some { block := v, off := 0 }), Value.agg #[Value.bool false], Value.pointer (some { block := u, off := 0 }), Value.pointer (some { block := v, off := 0 }), Value.agg #[Value.int IntKind.i64 a, Value.int IntKind.i64 b], Value.agg #[Value.int IntKind.i64 c, Value.int IntKind.i64 d], sel f3 (Value.slice (some ⟨r3, 0, none⟩) 2 2), sel f4 (Value.agg #[.int .i64 x1, .int .i64 x2]), Value.pointer (some { block := v, off := 0 }), Value.agg #[Value.int IntKind.i64 a, Value.int IntKind.i64 b], Value.agg #[Value.int IntKind.i64 c, Value.int IntKind.i64 d], sel f8 (Value.agg #[.int .i64 y1, .int .i64 y2]), Value.pointer (some { block := v, off := 0 }), Value.agg #[Value.int IntKind.i64 a, Value.int IntKind.i64 b], Value.int IntKind.i64 k, sel f12 (Value.agg #[.int .i64 t1, .int .i64 t2]), Value.pointer (some { block := v, off := 0 }), Value.agg #[Value.int IntKind.i64 a, Value.int IntKind.i64 b], Value.agg #[Value.int IntKind.i64 c, Value.int IntKind.i64 d], sel f16 (Value.agg #[.int .i64 s1, .int .i64 s2]), undef, undef, undef, undef, undef, undef, undef, undef, undef, undef, undef, undef, undef, undef, undef, undef, undef, undef, undef, undef, undef, undef, undef, undef, undef, undef, undef, undef, undef, undef, undef, undef, undef, undef, undef, undef, undef, undef, undef, undef, undef, undef, undef, undef, undef, undef, undef, undef, undef, undef, undef, undef, undef, undef, undef, undef, undef, undef, undef, undef, undef, undef, undef], defers := [] } ∧ Live w v W ((f4 && o1) || (f8 && o2) || (f12 && o3) || (f16 && o4)) ∧ Live w u W (false) ∧ Kept2 v u W0 W ∧ (f4 = false → f3 = true → SpanRow W (some ⟨r3, 0, none⟩) [(a, b), (c, d)] ∧ r3 ≠ v ∧ r3 ≠ u) ∧ (f17 = true → Loc (u + 1) W g17 f21 x1 x2) ∧ (f18 = true → Loc (u + 1) W g18 f22 y1 y2) ∧ (f19 = true → Loc (u + 1) W g19 f23 t1 t2) ∧ (f20 = true → Loc (u + 1) W g20 f24 s1 s2) ∧ (f17 = true → f18 = true → g17 ≠ g18) ∧ (f17 = true → f19 = true → g17 ≠ g19) ∧ (f17 = true → f20 = true → g17 ≠ g20) ∧ (f18 = true → f19 = true → g18 ≠ g19) ∧ (f18 = true → f20 = true → g18 ≠ g20) ∧ (f19 = true → f20 = true → g19 ≠ g20) ∧ (f17 = false → f21 = false) ∧ (f18 = false → f22 = false) ∧ (f19 = false → f23 = false) ∧ (f20 = false → f24 = false) ∧ (f8 = true → f4 = true) ∧ (f12 = true → f8 = true) ∧ (f16 = true → f12 = true)) (by kernel_rfl) ?_ ?_ ?_ _ _ _ _ (by decide) (by decide) ?_
  · rintro l act W ⟨f3, f4, f8, f12, f16, f17, f18, f19, f20, f21, f22, f23, f24, r3, g17, g18, g19, g20, rfl, rfl, hl0, hl1, hm, hr3, hg17, hg18, hg19, hg20, hn17_18, hn17_19, hn17_20, hn18_19, hn18_20, hn19_20, hs17, hs18, hs19, hs20, hc8, hc12, hc16⟩
    exact HK.out _ hm
  · rintro l act W ⟨f3, f4, f8, f12, f16, f17, f18, f19, f20, f21, f22, f23, f24, r3, g17, g18, g19, g20, rfl, rfl, hl0, hl1, hm, hr3, hg17, hg18, hg19, hg20, hn17_18, hn17_19, hn17_20, hn18_19, hn18_20, hn19_20, hs17, hs18, hs19, hs20, hc8, hc12, hc16⟩ i o hi ho K' hK
    have hlt' : i < 25 := ready_lt hi
    have hcase : i = 0 ∨ i = 1 ∨ i = 2 ∨ i = 3 ∨ i = 4 ∨ i = 5 ∨ i = 6 ∨ i = 7 ∨ i = 8 ∨ i = 9 ∨ i = 10 ∨ i = 11 ∨ i = 12 ∨ i = 13 ∨ i = 14 ∨ i = 15 ∨ i = 16 ∨ i = 17 ∨ i = 18 ∨ i = 19 ∨ i = 20 ∨ i = 21 ∨ i = 22 ∨ i = 23 ∨ i = 24 := by omega
    clear hlt'
    have hz := hm.size
    rcases hcase with rfl | rfl | rfl | rfl | rfl | rfl | rfl | rfl | rfl | rfl | rfl | rfl | rfl | rfl | rfl | rfl | rfl | rfl | rfl | rfl | rfl | rfl | rfl | rfl | rfl
    · exact absurd (show true = false from (ready_dep hi ho).1) (by decide)
    · exact absurd (show true = false from (ready_dep hi ho).1) (by decide)
    · exact absurd (show true = false from (ready_dep hi ho).1) (by decide)
    · obtain rfl : o = ({ dst := some 75, op := Op.buildSlice 50 2 #[(0, Operand.tmp 73), (1, Operand.tmp 74)], type := 50, pos := "outright.go:20", after := #[{ on := 1, ground := Ground.data }, { on := 2, ground := Ground.data }], guard := none } : Oper) := (Option.some.inj ho).symm
      obtain ⟨hf, hd⟩ := ready_dep hi ho
      have ef : f3 = false := hf
      subst ef 
      clear hf hd hi ho
      simp only [sel_false]
      go_simp
      have hb : Below W.heap.size W (W.alloc (.cells #[.int .i64 a, .int .i64 b, .int .i64 c, .int .i64 d] 23)) := (Below.refl _ W).alloc (Nat.le_refl _) _
      have ho0 := hl0.old
      have ho1 := hl1.old
      refine hK.out _ _ ⟨true, f4, f8, f12, f16, f17, f18, f19, f20, f21, f22, f23, f24, W.heap.size, g17, g18, g19, g20, rfl, rfl, hl0.stays hb, hl1.stays hb, hm.below hb, fun _ _ => ⟨row_two W a b c d _ rfl, by omega, by omega⟩, fun h => (hg17 h).below hb, fun h => (hg18 h).below hb, fun h => (hg19 h).below hb, fun h => (hg20 h).below hb, hn17_18, hn17_19, hn17_20, hn18_19, hn18_20, hn19_20, hs17, hs18, hs19, hs20, hc8, hc12, hc16⟩
    · obtain rfl : o = ({ dst := some 76, op := Op.call { callee := Callee.value (Operand.func 14), args := #[Operand.tmp 72, Operand.tmp 75], argTypes := #[26, 50] }, type := 23, pos := "outright.go:20", after := #[{ on := 0, ground := Ground.data }, { on := 3, ground := Ground.data }], guard := none } : Oper) := (Option.some.inj ho).symm
      obtain ⟨hf, hd⟩ := ready_dep hi ho
      have ef : f4 = false := hf
      have e3 : f3 = true := hd 3 (by decide)
      have z8 : f8 = false := by cases hq : f8 with | false => rfl | true => exact absurd (hc8 hq) (by rw [ef]; decide)
      have z12 : f12 = false := by cases hq : f12 with | false => rfl | true => exact absurd (hc12 hq) (by rw [z8]; decide)
      have z16 : f16 = false := by cases hq : f16 with | false => rfl | true => exact absurd (hc16 hq) (by rw [z12]; decide)
      subst ef e3 z8 z12 z16
      clear hf hd hi ho
      obtain ⟨q3, n3_0, n3_1⟩ := hr3 rfl rfl
      simp only [sel_true, sel_false]
      go_simp
      refine Calls.mono (HP'.out _ _ _ _ hl0 q3 n3_0) ?_
      rintro e W' ⟨rfl, lx, kx⟩
      go_wp2_with fail
      refine hK.out _ _ ⟨true, true, false, false, false, f17, f18, f19, f20, f21, f22, f23, f24, r3, g17, g18, g19, g20, rfl, rfl, live_eq lx (by cases o1 <;> cases o2 <;> cases o3 <;> cases o4 <;> rfl), hl1.kept kx hne10 hl0.new, hm.left kx, fun h => by (cases h), fun h => (hg17 h).kept kx (by omega), fun h => (hg18 h).kept kx (by omega), fun h => (hg19 h).kept kx (by omega), fun h => (hg20 h).kept kx (by omega), hn17_18, hn17_19, hn17_20, hn18_19, hn18_20, hn19_20, hs17, hs18, hs19, hs20, fun _ => rfl, fun h => by (cases h), fun h => by (cases h)⟩
    · exact absurd (show true = false from (ready_dep hi ho).1) (by decide)
    · exact absurd (show true = false from (ready_dep hi ho).1) (by decide)
    · exact absurd (show true = false from (ready_dep hi ho).1) (by decide)
    · obtain rfl : o = ({ dst := some 80, op := Op.call { callee := Callee.value (Operand.func 11), args := #[Operand.tmp 77, Operand.tmp 78, Operand.tmp 79], argTypes := #[26, 23, 23] }, type := 23, pos := "outright.go:20", after := #[{ on := 5, ground := Ground.data }, { on := 6, ground := Ground.data }, { on := 7, ground := Ground.data }, { on := 4, ground := Ground.chain }], guard := none } : Oper) := (Option.some.inj ho).symm
      obtain ⟨hf, hd⟩ := ready_dep hi ho
      have ef : f8 = false := hf
      have e4 : f4 = true := hd 4 (by decide)
      have z12 : f12 = false := by cases hq : f12 with | false => rfl | true => exact absurd (hc12 hq) (by rw [ef]; decide)
      have z16 : f16 = false := by cases hq : f16 with | false => rfl | true => exact absurd (hc16 hq) (by rw [z12]; decide)
      subst ef e4 z12 z16
      clear hf hd hi ho
      simp only [sel_true, sel_false]
      go_simp
      refine Calls.mono (HMi'.out _ _ _ hl0) ?_
      rintro e W' ⟨rfl, lx, kx⟩
      go_wp2_with fail
      refine hK.out _ _ ⟨f3, true, true, false, false, f17, f18, f19, f20, f21, f22, f23, f24, r3, g17, g18, g19, g20, rfl, rfl, live_eq lx (by cases o1 <;> cases o2 <;> cases o3 <;> cases o4 <;> rfl), hl1.kept kx hne10 hl0.new, hm.left kx, fun h => by (cases h), fun h => (hg17 h).kept kx (by omega), fun h => (hg18 h).kept kx (by omega), fun h => (hg19 h).kept kx (by omega), fun h => (hg20 h).kept kx (by omega), hn17_18, hn17_19, hn17_20, hn18_19, hn18_20, hn19_20, hs17, hs18, hs19, hs20, fun _ => rfl, fun _ => rfl, fun h => by (cases h)⟩
    · exact absurd (show true = false from (ready_dep hi ho).1) (by decide)
    · exact absurd (show true = false from (ready_dep hi ho).1) (by decide)
    · exact absurd (show true = false from (ready_dep hi ho).1) (by decide)
    · obtain rfl : o = ({ dst := some 84, op := Op.call { callee := Callee.value (Operand.func 13), args := #[Operand.tmp 81, Operand.tmp 82, Operand.tmp 83], argTypes := #[26, 23, 3] }, type := 23, pos := "outright.go:20", after := #[{ on := 9, ground := Ground.data }, { on := 10, ground := Ground.data }, { on := 11, ground := Ground.data }, { on := 8, ground := Ground.chain }], guard := none } : Oper) := (Option.some.inj ho).symm
      obtain ⟨hf, hd⟩ := ready_dep hi ho
      have ef : f12 = false := hf
      have e8 : f8 = true := hd 8 (by decide)
      have z16 : f16 = false := by cases hq : f16 with | false => rfl | true => exact absurd (hc16 hq) (by rw [ef]; decide)
      have e4 : f4 = true := hc8 e8
      subst ef e8 e4 z16
      clear hf hd hi ho
      simp only [sel_true, sel_false]
      go_simp
      refine Calls.mono (HT'.out _ _ _ hl0) ?_
      rintro e W' ⟨rfl, lx, kx⟩
      go_wp2_with fail
      refine hK.out _ _ ⟨f3, true, true, true, false, f17, f18, f19, f20, f21, f22, f23, f24, r3, g17, g18, g19, g20, rfl, rfl, live_eq lx (by cases o1 <;> cases o2 <;> cases o3 <;> cases o4 <;> rfl), hl1.kept kx hne10 hl0.new, hm.left kx, fun h => by (cases h), fun h => (hg17 h).kept kx (by omega), fun h => (hg18 h).kept kx (by omega), fun h => (hg19 h).kept kx (by omega), fun h => (hg20 h).kept kx (by omega), hn17_18, hn17_19, hn17_20, hn18_19, hn18_20, hn19_20, hs17, hs18, hs19, hs20, fun _ => rfl, fun _ => rfl, fun _ => rfl⟩
    · exact absurd (show true = false from (ready_dep hi ho).1) (by decide)
    · exact absurd (show true = false from (ready_dep hi ho).1) (by decide)
    · exact absurd (show true = false from (ready_dep hi ho).1) (by decide)
    · obtain rfl : o = ({ dst := some 88, op := Op.call { callee := Callee.value (Operand.func 17), args := #[Operand.tmp 85, Operand.tmp 86, Operand.tmp 87], argTypes := #[26, 23, 23] }, type := 23, pos := "outright.go:20", after := #[{ on := 13, ground := Ground.data }, { on := 14, ground := Ground.data }, { on := 15, ground := Ground.data }, { on := 12, ground := Ground.chain }], guard := none } : Oper) := (Option.some.inj ho).symm
      obtain ⟨hf, hd⟩ := ready_dep hi ho
      have ef : f16 = false := hf
      have e12 : f12 = true := hd 12 (by decide)
      have e8 : f8 = true := hc12 e12
      have e4 : f4 = true := hc8 e8
      subst ef e12 e8 e4
      clear hf hd hi ho
      simp only [sel_true, sel_false]
      go_simp
      refine Calls.mono (HX'.out _ _ _ hl0) ?_
      rintro e W' ⟨rfl, lx, kx⟩
      go_wp2_with fail
      refine hK.out _ _ ⟨f3, true, true, true, true, f17, f18, f19, f20, f21, f22, f23, f24, r3, g17, g18, g19, g20, rfl, rfl, live_eq lx (by cases o1 <;> cases o2 <;> cases o3 <;> cases o4 <;> rfl), hl1.kept kx hne10 hl0.new, hm.left kx, fun h => by (cases h), fun h => (hg17 h).kept kx (by omega), fun h => (hg18 h).kept kx (by omega), fun h => (hg19 h).kept kx (by omega), fun h => (hg20 h).kept kx (by omega), hn17_18, hn17_19, hn17_20, hn18_19, hn18_20, hn19_20, hs17, hs18, hs19, hs20, fun _ => rfl, fun _ => rfl, fun _ => rfl⟩
    · obtain rfl : o = ({ dst := some 17, op := Op.alloc 23, type := 0, pos := "outright.go:20", after := #[], guard := none } : Oper) := (Option.some.inj ho).symm
      obtain ⟨hf, hd⟩ := ready_dep hi ho
      have ef : f17 = false := hf
      subst ef 
      clear hf hd hi ho
      have es : f21 = false := hs17 rfl
      subst es
      simp only [sel_false]
      go_simp
      have hb : Below W.heap.size W (W.alloc (.cells #[.int .i64 0, .int .i64 0] 23)) := (Below.refl _ W).alloc (Nat.le_refl _) _
      have ho0 := hl0.old
      have ho1 := hl1.old
      have FR := Loc.fresh (u + 1) W x1 x2 (by omega)
      refine hK.out _ _ ⟨f3, f4, f8, f12, f16, true, f18, f19, f20, false, f22, f23, f24, r3, W.heap.size, g18, g19, g20, rfl, rfl, hl0.stays hb, hl1.stays hb, hm.below hb, fun h1 h2 => ⟨(hr3 h1 h2).1.stays hb (Nat.le_refl _), (hr3 h1 h2).2⟩, fun _ => FR, fun h => (hg18 h).below hb, fun h => (hg19 h).below hb, fun h => (hg20 h).below hb, fun _ h => by (have := (hg18 h).lt; omega), fun _ h => by (have := (hg19 h).lt; omega), fun _ h => by (have := (hg20 h).lt; omega), hn18_19, hn18_20, hn19_20, fun h => by (cases h), hs18, hs19, hs20, hc8, hc12, hc16⟩
    · obtain rfl : o = ({ dst := some 18, op := Op.alloc 23, type := 0, pos := "outright.go:20", after := #[], guard := none } : Oper) := (Option.some.inj ho).symm
      obtain ⟨hf, hd⟩ := ready_dep hi ho
      have ef : f18 = false := hf
      subst ef 
      clear hf hd hi ho
      have es : f22 = false := hs18 rfl
      subst es
      simp only [sel_false]
      go_simp
      have hb : Below W.heap.size W (W.alloc (.cells #[.int .i64 0, .int .i64 0] 23)) := (Below.refl _ W).alloc (Nat.le_refl _) _
      have ho0 := hl0.old
      have ho1 := hl1.old
      have FR := Loc.fresh (u + 1) W y1 y2 (by omega)
      refine hK.out _ _ ⟨f3, f4, f8, f12, f16, f17, true, f19, f20, f21, false, f23, f24, r3, g17, W.heap.size, g19, g20, rfl, rfl, hl0.stays hb, hl1.stays hb, hm.below hb, fun h1 h2 => ⟨(hr3 h1 h2).1.stays hb (Nat.le_refl _), (hr3 h1 h2).2⟩, fun h => (hg17 h).below hb, fun _ => FR, fun h => (hg19 h).below hb, fun h => (hg20 h).below hb, fun h _ => by (have := (hg17 h).lt; omega), hn17_19, hn17_20, fun _ h => by (have := (hg19 h).lt; omega), fun _ h => by (have := (hg20 h).lt; omega), hn19_20, hs17, fun h => by (cases h), hs19, hs20, hc8, hc12, hc16⟩
    · obtain rfl : o = ({ dst := some 19, op := Op.alloc 23, type := 0, pos := "outright.go:20", after := #[], guard := none } : Oper) := (Option.some.inj ho).symm
      obtain ⟨hf, hd⟩ := ready_dep hi ho
      have ef : f19 = false := hf
      subst ef 
      clear hf hd hi ho
      have es : f23 = false := hs19 rfl
      subst es
      simp only [sel_false]
      go_simp
      have hb : Below W.heap.size W (W.alloc (.cells #[.int .i64 0, .int .i64 0] 23)) := (Below.refl _ W).alloc (Nat.le_refl _) _
      have ho0 := hl0.old
      have ho1 := hl1.old
      have FR := Loc.fresh (u + 1) W t1 t2 (by omega)
      refine hK.out _ _ ⟨f3, f4, f8, f12, f16, f17, f18, true, f20, f21, f22, false, f24, r3, g17, g18, W.heap.size, g20, rfl, rfl, hl0.stays hb, hl1.stays hb, hm.below hb, fun h1 h2 => ⟨(hr3 h1 h2).1.stays hb (Nat.le_refl _), (hr3 h1 h2).2⟩, fun h => (hg17 h).below hb, fun h => (hg18 h).below hb, fun _ => FR, fun h => (hg20 h).below hb, hn17_18, fun h _ => by (have := (hg17 h).lt; omega), hn17_20, fun h _ => by (have := (hg18 h).lt; omega), hn18_20, fun _ h => by (have := (hg20 h).lt; omega), hs17, hs18, fun h => by (cases h), hs20, hc8, hc12, hc16⟩
    · obtain rfl : o = ({ dst := some 20, op := Op.alloc 23, type := 0, pos := "outright.go:20", after := #[], guard := none } : Oper) := (Option.some.inj ho).symm
      obtain ⟨hf, hd⟩ := ready_dep hi ho
      have ef : f20 = false := hf
      subst ef 
      clear hf hd hi ho
      have es : f24 = false := hs20 rfl
      subst es
      simp only [sel_false]
      go_simp
      have hb : Below W.heap.size W (W.alloc (.cells #[.int .i64 0, .int .i64 0] 23)) := (Below.refl _ W).alloc (Nat.le_refl _) _
      have ho0 := hl0.old
      have ho1 := hl1.old
      have FR := Loc.fresh (u + 1) W s1 s2 (by omega)
      refine hK.out _ _ ⟨f3, f4, f8, f12, f16, f17, f18, f19, true, f21, f22, f23, false, r3, g17, g18, g19, W.heap.size, rfl, rfl, hl0.stays hb, hl1.stays hb, hm.below hb, fun h1 h2 => ⟨(hr3 h1 h2).1.stays hb (Nat.le_refl _), (hr3 h1 h2).2⟩, fun h => (hg17 h).below hb, fun h => (hg18 h).below hb, fun h => (hg19 h).below hb, fun _ => FR, hn17_18, hn17_19, fun h _ => by (have := (hg17 h).lt; omega), hn18_19, fun h _ => by (have := (hg18 h).lt; omega), fun h _ => by (have := (hg19 h).lt; omega), hs17, hs18, hs19, fun h => by (cases h), hc8, hc12, hc16⟩
    · obtain rfl : o = ({ dst := none, op := Op.store 23 (Operand.tmp 17) (Operand.tmp 76), type := 0, pos := "outright.go:20", after := #[{ on := 17, ground := Ground.data }, { on := 4, ground := Ground.data }, { on := 16, ground := Ground.chain }, { on := 0, ground := Ground.phase }, { on := 1, ground := Ground.phase }, { on := 2, ground := Ground.phase }, { on := 3, ground := Ground.phase }, { on := 4, ground := Ground.phase }, { on := 5, ground := Ground.textOnly Departure.lateStores }, { on := 6, ground := Ground.textOnly Departure.lateStores }, { on := 7, ground := Ground.textOnly Departure.lateStores }, { on := 8, ground := Ground.textOnly Departure.lateStoresUnsure }, { on := 9, ground := Ground.textOnly Departure.lateStores }, { on := 10, ground := Ground.textOnly Departure.lateStores }, { on := 11, ground := Ground.textOnly Departure.lateStores }, { on := 12, ground := Ground.textOnly Departure.lateStoresUnsure }, { on := 13, ground := Ground.textOnly Departure.lateStores }, { on := 14, ground := Ground.textOnly Departure.lateStores }, { on := 15, ground := Ground.textOnly Departure.lateStores }, { on := 16, ground := Ground.textOnly Departure.lateStoresUnsure }, { on := 17, ground := Ground.phase }, { on := 18, ground := Ground.phase }, { on := 19, ground := Ground.phase }, { on := 20, ground := Ground.phase }], guard := none } : Oper) := (Option.some.inj ho).symm
      obtain ⟨hf, hd⟩ := ready_dep hi ho
      have ef : f21 = false := hf
      have e3 : f3 = true := hd 3 (by decide)
      have e4 : f4 = true := hd 4 (by decide)
      have e16 : f16 = true := hd 16 (by decide)
      have e17 : f17 = true := hd 17 (by decide)
      have e18 : f18 = true := hd 18 (by decide)
      have e19 : f19 = true := hd 19 (by decide)
      have e20 : f20 = true := hd 20 (by decide)
      have e12 : f12 = true := hc16 e16
      have e8 : f8 = true := hc12 e12
      subst ef e3 e4 e16 e17 e18 e19 e20 e12 e8
      clear hf hd hi ho
      have L1 := hg17 rfl
      have c0 := L1.c0
      have c1 := L1.c1
      have q0 := L1.f0
      have q1 := L1.f1
      simp only [Bool.false_eq_true, if_false] at c0 c1
      have hnew := L1.new
      simp only [sel_true]
      go_simp
      refine hK.out _ _ ⟨true, true, true, true, true, true, true, true, true, true, f22, f23, f24, r3, g17, g18, g19, g20, rfl, rfl, hl0.set2 g17 _ _ (by omega), hl1.set2 g17 _ _ (by omega), hm.set g17 _ _ (by omega), fun h => by (cases h), fun _ => L1.store, fun h => (hg18 h).other (Ne.symm (hn17_18 rfl h)) _ _, fun h => (hg19 h).other (Ne.symm (hn17_19 rfl h)) _ _, fun h => (hg20 h).other (Ne.symm (hn17_20 rfl h)) _ _, hn17_18, hn17_19, hn17_20, hn18_19, hn18_20, hn19_20, fun h => by (cases h), fun h => by (cases h), fun h => by (cases h), fun h => by (cases h), fun _ => rfl, fun _ => rfl, fun _ => rfl⟩
    · obtain rfl : o = ({ dst := none, op := Op.store 23 (Operand.tmp 18) (Operand.tmp 80), type := 0, pos := "outright.go:20", after := #[{ on := 18, ground := Ground.data }, { on := 8, ground := Ground.data }, { on := 21, ground := Ground.chain }, { on := 0, ground := Ground.phase }, { on := 1, ground := Ground.phase }, { on := 2, ground := Ground.phase }, { on := 3, ground := Ground.phase }, { on := 4, ground := Ground.phase }, { on := 5, ground := Ground.phase }, { on := 6, ground := Ground.phase }, { on := 7, ground := Ground.phase }, { on := 8, ground := Ground.phase }, { on := 9, ground := Ground.textOnly Departure.lateStores }, { on := 10, ground := Ground.textOnly Departure.lateStores }, { on := 11, ground := Ground.textOnly Departure.lateStores }, { on := 12, ground := Ground.textOnly Departure.lateStoresUnsure }, { on := 13, ground := Ground.textOnly Departure.lateStores }, { on := 14, ground := Ground.textOnly Departure.lateStores }, { on := 15, ground := Ground.textOnly Departure.lateStores }, { on := 16, ground := Ground.textOnly Departure.lateStoresUnsure }, { on := 17, ground := Ground.phase }, { on := 18, ground := Ground.phase }, { on := 19, ground := Ground.phase }, { on := 20, ground := Ground.phase }, { on := 21, ground := Ground.phase }], guard := none } : Oper) := (Option.some.inj ho).symm
      obtain ⟨hf, hd⟩ := ready_dep hi ho
      have ef : f22 = false := hf
      have e3 : f3 = true := hd 3 (by decide)
      have e4 : f4 = true := hd 4 (by decide)
      have e8 : f8 = true := hd 8 (by decide)
      have e17 : f17 = true := hd 17 (by decide)
      have e18 : f18 = true := hd 18 (by decide)
      have e19 : f19 = true := hd 19 (by decide)
      have e20 : f20 = true := hd 20 (by decide)
      have e21 : f21 = true := hd 21 (by decide)
      subst ef e3 e4 e8 e17 e18 e19 e20 e21
      clear hf hd hi ho
      have L1 := hg18 rfl
      have c0 := L1.c0
      have c1 := L1.c1
      have q0 := L1.f0
      have q1 := L1.f1
      simp only [Bool.false_eq_true, if_false] at c0 c1
      have hnew := L1.new
      simp only [sel_true]
      go_simp
      refine hK.out _ _ ⟨true, true, true, f12, f16, true, true, true, true, true, true, f23, f24, r3, g17, g18, g19, g20, rfl, rfl, hl0.set2 g18 _ _ (by omega), hl1.set2 g18 _ _ (by omega), hm.set g18 _ _ (by omega), fun h => by (cases h), fun h => (hg17 h).other (hn17_18 h rfl) _ _, fun _ => L1.store, fun h => (hg19 h).other (Ne.symm (hn18_19 rfl h)) _ _, fun h => (hg20 h).other (Ne.symm (hn18_20 rfl h)) _ _, hn17_18, hn17_19, hn17_20, hn18_19, hn18_20, hn19_20, fun h => by (cases h), fun h => by (cases h), fun h => by (cases h), fun h => by (cases h), fun _ => rfl, fun _ => rfl, hc16⟩
    · obtain rfl : o = ({ dst := none, op := Op.store 23 (Operand.tmp 19) (Operand.tmp 84), type := 0, pos := "outright.go:20", after := #[{ on := 19, ground := Ground.data }, { on := 12, ground := Ground.data }, { on := 22, ground := Ground.chain }, { on := 0, ground := Ground.phase }, { on := 1, ground := Ground.phase }, { on := 2, ground := Ground.phase }, { on := 3, ground := Ground.phase }, { on := 4, ground := Ground.phase }, { on := 5, ground := Ground.phase }, { on := 6, ground := Ground.phase }, { on := 7, ground := Ground.phase }, { on := 8, ground := Ground.phase }, { on := 9, ground := Ground.phase }, { on := 10, ground := Ground.phase }, { on := 11, ground := Ground.phase }, { on := 12, ground := Ground.phase }, { on := 13, ground := Ground.textOnly Departure.lateStores }, { on := 14, ground := Ground.textOnly Departure.lateStores }, { on := 15, ground := Ground.textOnly Departure.lateStores }, { on := 16, ground := Ground.textOnly Departure.lateStoresUnsure }, { on := 17, ground := Ground.phase }, { on := 18, ground := Ground.phase }, { on := 19, ground := Ground.phase }, { on := 20, ground := Ground.phase }, { on := 21, ground := Ground.phase }, { on := 22, ground := Ground.phase }], guard := none } : Oper) := (Option.some.inj ho).symm
      obtain ⟨hf, hd⟩ := ready_dep hi ho
      have ef : f23 = false := hf
      have e3 : f3 = true := hd 3 (by decide)
      have e4 : f4 = true := hd 4 (by decide)
      have e8 : f8 = true := hd 8 (by decide)
      have e12 : f12 = true := hd 12 (by decide)
      have e17 : f17 = true := hd 17 (by decide)
      have e18 : f18 = true := hd 18 (by decide)
      have e19 : f19 = true := hd 19 (by decide)
      have e20 : f20 = true := hd 20 (by decide)
      have e21 : f21 = true := hd 21 (by decide)
      have e22 : f22 = true := hd 22 (by decide)
      subst ef e3 e4 e8 e12 e17 e18 e19 e20 e21 e22
      clear hf hd hi ho
      have L1 := hg19 rfl
      have c0 := L1.c0
      have c1 := L1.c1
      have q0 := L1.f0
      have q1 := L1.f1
      simp only [Bool.false_eq_true, if_false] at c0 c1
      have hnew := L1.new
      simp only [sel_true]
      go_simp
      refine hK.out _ _ ⟨true, true, true, true, f16, true, true, true, true, true, true, true, f24, r3, g17, g18, g19, g20, rfl, rfl, hl0.set2 g19 _ _ (by omega), hl1.set2 g19 _ _ (by omega), hm.set g19 _ _ (by omega), fun h => by (cases h), fun h => (hg17 h).other (hn17_19 h rfl) _ _, fun h => (hg18 h).other (hn18_19 h rfl) _ _, fun _ => L1.store, fun h => (hg20 h).other (Ne.symm (hn19_20 rfl h)) _ _, hn17_18, hn17_19, hn17_20, hn18_19, hn18_20, hn19_20, fun h => by (cases h), fun h => by (cases h), fun h => by (cases h), fun h => by (cases h), fun _ => rfl, fun _ => rfl, fun _ => rfl⟩
    · obtain rfl : o = ({ dst := none, op := Op.store 23 (Operand.tmp 20) (Operand.tmp 88), type := 0, pos := "outright.go:20", after := #[{ on := 20, ground := Ground.data }, { on := 16, ground := Ground.data }, { on := 23, ground := Ground.chain }, { on := 0, ground := Ground.phase }, { on := 1, ground := Ground.phase }, { on := 2, ground := Ground.phase }, { on := 3, ground := Ground.phase }, { on := 4, ground := Ground.phase }, { on := 5, ground := Ground.phase }, { on := 6, ground := Ground.phase }, { on := 7, ground := Ground.phase }, { on := 8, ground := Ground.phase }, { on := 9, ground := Ground.phase }, { on := 10, ground := Ground.phase }, { on := 11, ground := Ground.phase }, { on := 12, ground := Ground.phase }, { on := 13, ground := Ground.phase }, { on := 14, ground := Ground.phase }, { on := 15, ground := Ground.phase }, { on := 16, ground := Ground.phase }, { on := 17, ground := Ground.phase }, { on := 18, ground := Ground.phase }, { on := 19, ground := Ground.phase }, { on := 20, ground := Ground.phase }, { on := 21, ground := Ground.phase }, { on := 22, ground := Ground.phase }, { on := 23, ground := Ground.phase }], guard := none } : Oper) := (Option.some.inj ho).symm
      obtain ⟨hf, hd⟩ := ready_dep hi ho
      have ef : f24 = false := hf
      have e3 : f3 = true := hd 3 (by decide)
      have e4 : f4 = true := hd 4 (by decide)
      have e8 : f8 = true := hd 8 (by decide)
      have e12 : f12 = true := hd 12 (by decide)
      have e16 : f16 = true := hd 16 (by decide)
      have e17 : f17 = true := hd 17 (by decide)
      have e18 : f18 = true := hd 18 (by decide)
      have e19 : f19 = true := hd 19 (by decide)
      have e20 : f20 = true := hd 20 (by decide)
      have e21 : f21 = true := hd 21 (by decide)
      have e22 : f22 = true := hd 22 (by decide)
      have e23 : f23 = true := hd 23 (by decide)
      subst ef e3 e4 e8 e12 e16 e17 e18 e19 e20 e21 e22 e23
      clear hf hd hi ho
      have L1 := hg20 rfl
      have c0 := L1.c0
      have c1 := L1.c1
      have q0 := L1.f0
      have q1 := L1.f1
      simp only [Bool.false_eq_true, if_false] at c0 c1
      have hnew := L1.new
      simp only [sel_true]
      go_simp
      refine hK.out _ _ ⟨true, true, true, true, true, true, true, true, true, true, true, true, true, r3, g17, g18, g19, g20, rfl, rfl, hl0.set2 g20 _ _ (by omega), hl1.set2 g20 _ _ (by omega), hm.set g20 _ _ (by omega), fun h => by (cases h), fun h => (hg17 h).other (hn17_20 h rfl) _ _, fun h => (hg18 h).other (hn18_20 h rfl) _ _, fun h => (hg19 h).other (hn19_20 h rfl) _ _, fun _ => L1.store, hn17_18, hn17_19, hn17_20, hn18_19, hn18_20, hn19_20, fun h => by (cases h), fun h => by (cases h), fun h => by (cases h), fun h => by (cases h), fun _ => rfl, fun _ => rfl, fun _ => rfl⟩
  · rintro l act W ⟨f3, f4, f8, f12, f16, f17, f18, f19, f20, f21, f22, f23, f24, r3, g17, g18, g19, g20, rfl, rfl, hl0, hl1, hm, hr3, hg17, hg18, hg19, hg20, hn17_18, hn17_19, hn17_20, hn18_19, hn18_20, hn19_20, hs17, hs18, hs19, hs20, hc8, hc12, hc16⟩ hall
    have e3 : f3 = true := hall 3 (by decide)
    have e4 : f4 = true := hall 4 (by decide)
    have e8 : f8 = true := hall 8 (by decide)
    have e12 : f12 = true := hall 12 (by decide)
    have e16 : f16 = true := hall 16 (by decide)
    have e17 : f17 = true := hall 17 (by decide)
    have e18 : f18 = true := hall 18 (by decide)
    have e19 : f19 = true := hall 19 (by decide)
    have e20 : f20 = true := hall 20 (by decide)
    have e21 : f21 = true := hall 21 (by decide)
    have e22 : f22 = true := hall 22 (by decide)
    have e23 : f23 = true := hall 23 (by decide)
    have e24 : f24 = true := hall 24 (by decide)
    subst e3 e4 e8 e12 e16 e17 e18 e19 e20 e21 e22 e23 e24
    clear hall
    simp only [sel_true]
    have L17 := hg17 rfl
    have n17 := L17.new
    have c17a := L17.c0
    have c17b := L17.c1
    have L18 := hg18 rfl
    have n18 := L18.new
    have c18a := L18.c0
    have c18b := L18.c1
    have L19 := hg19 rfl
    have n19 := L19.new
    have c19a := L19.c0
    have c19b := L19.c1
    have L20 := hg20 rfl
    have n20 := L20.new
    have c20a := L20.c0
    have c20b := L20.c1
    simp only [if_true] at c17a c17b c18a c18b c19a c19b c20a c20b
    have HKr : Hid (∀ W', Kept2 v u W W' → W'.cell? ⟨g17, 0, none⟩ = some (.int .i64 x1) ∧ W'.cell? ⟨g17, 1, none⟩ = some (.int .i64 x2) ∧ W'.cell? ⟨g18, 0, none⟩ = some (.int .i64 y1) ∧ W'.cell? ⟨g18, 1, none⟩ = some (.int .i64 y2) ∧ W'.cell? ⟨g19, 0, none⟩ = some (.int .i64 t1) ∧ W'.cell? ⟨g19, 1, none⟩ = some (.int .i64 t2) ∧ W'.cell? ⟨g20, 0, none⟩ = some (.int .i64 s1) ∧ W'.cell? ⟨g20, 1, none⟩ = some (.int .i64 s2)) := fun W' kk => ⟨kk.cell c17a (by omega) (by omega), kk.cell c17b (by omega) (by omega), kk.cell c18a (by omega) (by omega), kk.cell c18b (by omega) (by omega), kk.cell c19a (by omega) (by omega), kk.cell c19b (by omega) (by omega), kk.cell c20a (by omega) (by omega), kk.cell c20b (by omega) (by omega)⟩
    have hla : Live w v W fl := live_eq hl0 (by rw [← HF.out]; cases o1 <;> cases o2 <;> cases o3 <;> cases o4 <;> rfl)
    have hlb : Live w u W false := hl1
    have hcv := hla.cell
    clear hr3 hg17 hs17 L17 c17a c17b hg18 hs18 L18 c18a c18b hg19 hs19 L19 c19a c19b hg20 hs20 L20 c20a c20b hn17_18 hn17_19 hn17_20 hn18_19 hn18_20 hn19_20 hc8 hc12 hc16 hl0 hl1 HP' HMi' HT' HX' hHeld HW0 HV HU hm
    cases fl with
    | true =>
      go_wp2_with fail
      refine Calls.mono (salive_live hla) ?_
      rintro e w9 ⟨rfl, l9, _⟩
      go_wp2
      go_ret
      exact ⟨rfl, l9.below⟩
    | false =>
      obtain ⟨n1, n2, n3, n4, n5, n6, ⟨i1, j1, v1, w1'⟩, ⟨i2, j2, v2, w2'⟩, ⟨i3, j3, v3, w3'⟩, ⟨i4, j4, v4, w4'⟩, ⟨i5, j5, v5, w5'⟩, ⟨i6, j6, v6, w6'⟩⟩ := HN.out rfl
      obtain ⟨B1, B2, B3⟩ := HBs.out
      have HA : Hid (∀ W g, Live w u W false → IntRow W (some ⟨g, 0, none⟩) [U, V] → Calls Try.prog 19 #[.pointer (some ⟨u, 0, none⟩), .slice (some ⟨g, 0, none⟩) 2 2] W fun e W' => e = .returned (.int .i64 n1) ∧ Live w u W' false ∧ Kept u W W') := fun W g l hr => by
        have t := add_at l U V B1 B2 g hr
        unfold Says at t
        rw [i1, j1] at t
        exact t
      have HSb : Hid (∀ W, Live w u W false → Calls Try.prog 20 #[.pointer (some ⟨u, 0, none⟩), .int .i64 U, .int .i64 V] W fun e W' => e = .returned (.int .i64 n2) ∧ Live w u W' false ∧ Kept u W W') := fun W l => by
        have t := sub_live l B1.1 B1.2 B2.1 B2.2
        unfold Says at t
        rw [i2, j2] at t
        exact t
      have HM3 : Hid (∀ W, Live w u W false → Calls Try.prog 21 #[.pointer (some ⟨u, 0, none⟩), .int .i64 U, .int .i64 k, .bool false] W fun e W' => e = .returned (.int .i64 n3) ∧ Live w u W' false ∧ Kept u W W') := fun W l => by
        have t := mul_live l false B1.1 B1.2 B3.1 B3.2
        unfold Says at t
        rw [i3, j3] at t
        exact t
      have HM4 : Hid (∀ W, Live w u W false → Calls Try.prog 21 #[.pointer (some ⟨u, 0, none⟩), .int .i64 U, .int .i64 k, .bool true] W fun e W' => e = .returned (.int .i64 n4) ∧ Live w u W' false ∧ Kept u W W') := fun W l => by
        have t := mul_live l true B1.1 B1.2 B3.1 B3.2
        unfold Says at t
        rw [i4, j4] at t
        exact t
      have HM5 : Hid (∀ W, Live w u W false → Calls Try.prog 21 #[.pointer (some ⟨u, 0, none⟩), .int .i64 U, .int .i64 V, .bool false] W fun e W' => e = .returned (.int .i64 n5) ∧ Live w u W' false ∧ Kept u W W') := fun W l => by
        have t := mul_live l false B1.1 B1.2 B2.1 B2.2
        unfold Says at t
        rw [i5, j5] at t
        exact t
      have HM6 : Hid (∀ W, Live w u W false → Calls Try.prog 21 #[.pointer (some ⟨u, 0, none⟩), .int .i64 U, .int .i64 V, .bool true] W fun e W' => e = .returned (.int .i64 n6) ∧ Live w u W' false ∧ Kept u W W') := fun W l => by
        have t := mul_live l true B1.1 B1.2 B2.1 B2.2
        unfold Says at t
        rw [i6, j6] at t
        exact t
      clear i1 i2 i3 i4 i5 i6 j1 j2 j3 j4 j5 j6 HN HF B1 B2 B3
      have l0 := hla.drew
      have l1 := hlb.drew
      have m0 : Kept2 v u W W.drew := Kept2.drew v u _
      clear hla hlb
      go_wp2_with fail
      refine wp_region_held_drew (S := fun W' => W'.cell? ⟨g17, 0, none⟩ = some (.int .i64 x1) ∧ W'.cell? ⟨g17, 1, none⟩ = some (.int .i64 x2) ∧ W'.cell? ⟨g18, 0, none⟩ = some (.int .i64 y1) ∧ W'.cell? ⟨g18, 1, none⟩ = some (.int .i64 y2) ∧ W'.cell? ⟨g19, 0, none⟩ = some (.int .i64 t1) ∧ W'.cell? ⟨g19, 1, none⟩ = some (.int .i64 t2) ∧ W'.cell? ⟨g20, 0, none⟩ = some (.int .i64 s1) ∧ W'.cell? ⟨g20, 1, none⟩ = some (.int .i64 s2) ∧ W'.cell? ⟨u, 0, none⟩ = some (.bool false)) (by kernel_rfl) ⟨(HKr.out _ m0).1, (HKr.out _ m0).2.1, (HKr.out _ m0).2.2.1, (HKr.out _ m0).2.2.2.1, (HKr.out _ m0).2.2.2.2.1, (HKr.out _ m0).2.2.2.2.2.1, (HKr.out _ m0).2.2.2.2.2.2.1, (HKr.out _ m0).2.2.2.2.2.2.2, l1.cell⟩ (fun hHeld => ?_)
      refine wpAnyH_ready (rs := [0]) (by kernel_rfl) (by simp) ?_
      refine AllReadyH.cons (o := { dst := some 95, op := Op.call { callee := Callee.value (Operand.func 10), args := #[], argTypes := #[] }, type := 4, pos := "outright.go:24", after := #[], guard := none }) rfl (fun K hK => ?_) AllReadyH.nil
      go_simp
      refine Calls.mono (salive_any _) ?_
      rintro e qW1 ⟨rfl, hb⟩
      have ql1_0 := l0.stays hb
      have ql1_1 := l1.stays hb
      have qm1 := m0.below hb
      clear hb
      go_wp2_with fail
      refine hK.out _ _ ⟨(HKr.out _ qm1).1, (HKr.out _ qm1).2.1, (HKr.out _ qm1).2.2.1, (HKr.out _ qm1).2.2.2.1, (HKr.out _ qm1).2.2.2.2.1, (HKr.out _ qm1).2.2.2.2.2.1, (HKr.out _ qm1).2.2.2.2.2.2.1, (HKr.out _ qm1).2.2.2.2.2.2.2, ql1_1.cell⟩ (fun hHeld => ?_)
      clear hK K
      try simp only [Act.put, List.setIfInBounds_toArray, List.set_cons_zero, List.set_cons_succ]
      refine wpAnyH_take (i := 1) (oi := { dst := some 96, op := Op.move (Operand.tmp 95), type := 4, pos := "outright.go:24", after := #[{ on := 0, ground := Ground.data }, { on := 0, ground := Ground.chain }], guard := none }) (v := ?_) rfl (by kernel_rfl) (by kernel_rfl) (by kernel_rfl) (fun _ _ _ h => h) (Or.inl ⟨by rfl, ?_⟩) hHeld ?_
      rotate_left
      · (intro w hSw; (try dsimp only at hSw); go_simp; all_goals (try with_reducible rfl))
      try simp only [Act.put, List.setIfInBounds_toArray, List.set_cons_zero, List.set_cons_succ]
      refine wpAnyH_take (i := 2) (oi := { dst := some 97, op := Op.load 23 (Operand.tmp 17), type := 23, pos := "outright.go:24", after := #[{ on := 1, ground := Ground.guard }], guard := some (1, true) }) (v := ?_) rfl (by kernel_rfl) (by kernel_rfl) (by kernel_rfl) (fun _ _ _ h => h) (Or.inl ⟨by rfl, ?_⟩) hHeld ?_
      rotate_left
      · (intro w hSw; (try dsimp only at hSw); go_simp; all_goals (try with_reducible rfl))
      try simp only [Act.put, List.setIfInBounds_toArray, List.set_cons_zero, List.set_cons_succ]
      refine wpAnyH_take (i := 3) (oi := { dst := some 98, op := Op.move (Operand.tmp 16), type := 38, pos := "outright.go:24", after := #[{ on := 1, ground := Ground.guard }], guard := some (1, true) }) (v := ?_) rfl (by kernel_rfl) (by kernel_rfl) (by kernel_rfl) (fun _ _ _ h => h) (Or.inl ⟨by rfl, ?_⟩) hHeld ?_
      rotate_left
      · (intro w hSw; (try dsimp only at hSw); go_simp; all_goals (try with_reducible rfl))
      try simp only [Act.put, List.setIfInBounds_toArray, List.set_cons_zero, List.set_cons_succ]
      refine wpAnyH_take (i := 4) (oi := { dst := some 99, op := Op.move (Operand.tmp 13), type := 3, pos := "outright.go:24", after := #[{ on := 1, ground := Ground.guard }], guard := some (1, true) }) (v := ?_) rfl (by kernel_rfl) (by kernel_rfl) (by kernel_rfl) (fun _ _ _ h => h) (Or.inl ⟨by rfl, ?_⟩) hHeld ?_
      rotate_left
      · (intro w hSw; (try dsimp only at hSw); go_simp; all_goals (try with_reducible rfl))
      try simp only [Act.put, List.setIfInBounds_toArray, List.set_cons_zero, List.set_cons_succ]
      refine wpAnyH_take (i := 5) (oi := { dst := some 100, op := Op.move (Operand.tmp 14), type := 3, pos := "outright.go:24", after := #[{ on := 1, ground := Ground.guard }], guard := some (1, true) }) (v := ?_) rfl (by kernel_rfl) (by kernel_rfl) (by kernel_rfl) (fun _ _ _ h => h) (Or.inl ⟨by rfl, ?_⟩) hHeld ?_
      rotate_left
      · (intro w hSw; (try dsimp only at hSw); go_simp; all_goals (try with_reducible rfl))
      try simp only [Act.put, List.setIfInBounds_toArray, List.set_cons_zero, List.set_cons_succ]
      refine wpAnyH_ready (rs := [6]) (by kernel_rfl) (by simp) ?_
      refine AllReadyH.cons (o := { dst := some 101, op := Op.buildSlice 51 2 #[(0, Operand.tmp 99), (1, Operand.tmp 100)], type := 51, pos := "outright.go:24", after := #[{ on := 4, ground := Ground.data }, { on := 5, ground := Ground.data }, { on := 1, ground := Ground.guard }], guard := some (1, true) }) rfl (fun K hK => ?_) AllReadyH.nil
      go_simp
      obtain ⟨qW2, hX⟩ : ∃ Z, qW1.alloc (.cells #[.int .i64 U, .int .i64 V] 3) = Z := ⟨_, rfl⟩
      rw [hX]
      have hb : Below qW1.heap.size qW1 qW2 := by rw [← hX]; exact (Below.refl _ qW1).alloc (Nat.le_refl _) _
      have ql2_0 := ql1_0.stays hb
      have ql2_1 := ql1_1.stays hb
      have qm2 := qm1.below hb
      have qr2_6 := row_ints qW1 U V _ rfl
      rw [hX] at qr2_6
      have qn2_6_0 : qW1.heap.size ≠ v := by have := ql1_0.old; omega
      have qn2_6_1 : qW1.heap.size ≠ u := by have := ql1_1.old; omega
      clear hX hb
      refine hK.out _ _ ⟨(HKr.out _ qm2).1, (HKr.out _ qm2).2.1, (HKr.out _ qm2).2.2.1, (HKr.out _ qm2).2.2.2.1, (HKr.out _ qm2).2.2.2.2.1, (HKr.out _ qm2).2.2.2.2.2.1, (HKr.out _ qm2).2.2.2.2.2.2.1, (HKr.out _ qm2).2.2.2.2.2.2.2, ql2_1.cell⟩ (fun hHeld => ?_)
      clear hK K
      try simp only [Act.put, List.setIfInBounds_toArray, List.set_cons_zero, List.set_cons_succ]
      refine wpAnyH_ready (rs := [7]) (by kernel_rfl) (by simp) ?_
      refine AllReadyH.cons (o := { dst := some 102, op := Op.call { callee := Callee.value (Operand.func 19), args := #[Operand.tmp 98, Operand.tmp 101], argTypes := #[38, 51] }, type := 3, pos := "outright.go:24", after := #[{ on := 3, ground := Ground.data }, { on := 6, ground := Ground.data }, { on := 1, ground := Ground.chain }, { on := 1, ground := Ground.guard }], guard := some (1, true) }) rfl (fun K hK => ?_) AllReadyH.nil
      go_simp
      refine Calls.mono (HA.out _ _ ql2_1 qr2_6) ?_
      rintro e qW3 ⟨rfl, lx, kx⟩
      have ql3_0 := ql2_0.kept kx hne01 ql2_1.new
      have ql3_1 := lx
      have qm3 := qm2.right kx
      have qr3_6 := qr2_6.kept kx (blk_ne qn2_6_1)
      clear kx lx
      go_wp2_with fail
      refine hK.out _ _ ⟨(HKr.out _ qm3).1, (HKr.out _ qm3).2.1, (HKr.out _ qm3).2.2.1, (HKr.out _ qm3).2.2.2.1, (HKr.out _ qm3).2.2.2.2.1, (HKr.out _ qm3).2.2.2.2.2.1, (HKr.out _ qm3).2.2.2.2.2.2.1, (HKr.out _ qm3).2.2.2.2.2.2.2, ql3_1.cell⟩ (fun hHeld => ?_)
      clear hK K
      try simp only [Act.put, List.setIfInBounds_toArray, List.set_cons_zero, List.set_cons_succ]
      refine wpAnyH_ready (rs := [8]) (by kernel_rfl) (by simp) ?_
      refine AllReadyH.cons (o := { dst := some 103, op := Op.call { callee := Callee.value (Operand.func 12), args := #[Operand.tmp 97, Operand.tmp 102], argTypes := #[23, 3] }, type := 4, pos := "outright.go:24", after := #[{ on := 2, ground := Ground.data }, { on := 7, ground := Ground.data }, { on := 7, ground := Ground.chain }, { on := 1, ground := Ground.guard }], guard := some (1, true) }) rfl (fun K hK => ?_) AllReadyH.nil
      go_simp
      refine Calls.mono (shas_any x1 x2 n1 true _ (by simp; exact ⟨v1, w1'⟩)) ?_
      rintro e qW4 ⟨rfl, hb⟩
      have ql4_0 := ql3_0.stays hb
      have ql4_1 := ql3_1.stays hb
      have qm4 := qm3.below hb
      have qr4_6 := qr3_6.stays hb (Nat.le_refl _)
      clear hb
      go_wp2_with fail
      refine hK.out _ _ ⟨(HKr.out _ qm4).1, (HKr.out _ qm4).2.1, (HKr.out _ qm4).2.2.1, (HKr.out _ qm4).2.2.2.1, (HKr.out _ qm4).2.2.2.2.1, (HKr.out _ qm4).2.2.2.2.2.1, (HKr.out _ qm4).2.2.2.2.2.2.1, (HKr.out _ qm4).2.2.2.2.2.2.2, ql4_1.cell⟩ (fun hHeld => ?_)
      clear hK K
      try simp only [Act.put, List.setIfInBounds_toArray, List.set_cons_zero, List.set_cons_succ]
      refine wpAnyH_take (i := 9) (oi := { dst := some 104, op := Op.pick (Operand.tmp 96) (Operand.tmp 103) (Operand.const (Value.bool false)), type := 4, pos := "outright.go:24", after := #[{ on := 1, ground := Ground.data }, { on := 8, ground := Ground.data }], guard := none }) (v := ?_) rfl (by kernel_rfl) (by kernel_rfl) (by kernel_rfl) (fun _ _ _ h => h) (Or.inl ⟨by rfl, ?_⟩) hHeld ?_
      rotate_left
      · (intro w hSw; (try dsimp only at hSw); go_simp; all_goals (try with_reducible rfl))
      try simp only [Act.put, List.setIfInBounds_toArray, List.set_cons_zero, List.set_cons_succ]
      refine wpAnyH_take (i := 10) (oi := { dst := some 105, op := Op.move (Operand.tmp 104), type := 4, pos := "outright.go:24", after := #[{ on := 9, ground := Ground.data }, { on := 8, ground := Ground.chain }], guard := none }) (v := ?_) rfl (by kernel_rfl) (by kernel_rfl) (by kernel_rfl) (fun _ _ _ h => h) (Or.inl ⟨by rfl, ?_⟩) hHeld ?_
      rotate_left
      · (intro w hSw; (try dsimp only at hSw); go_simp; all_goals (try with_reducible rfl))
      try simp only [Act.put, List.setIfInBounds_toArray, List.set_cons_zero, List.set_cons_succ]
      refine wpAnyH_take (i := 11) (oi := { dst := some 106, op := Op.load 23 (Operand.tmp 18), type := 23, pos := "outright.go:24", after := #[{ on := 10, ground := Ground.guard }], guard := some (10, true) }) (v := ?_) rfl (by kernel_rfl) (by kernel_rfl) (by kernel_rfl) (fun _ _ _ h => h) (Or.inl ⟨by rfl, ?_⟩) hHeld ?_
      rotate_left
      · (intro w hSw; (try dsimp only at hSw); go_simp; all_goals (try with_reducible rfl))
      try simp only [Act.put, List.setIfInBounds_toArray, List.set_cons_zero, List.set_cons_succ]
      refine wpAnyH_take (i := 12) (oi := { dst := some 107, op := Op.move (Operand.tmp 16), type := 38, pos := "outright.go:24", after := #[{ on := 10, ground := Ground.guard }], guard := some (10, true) }) (v := ?_) rfl (by kernel_rfl) (by kernel_rfl) (by kernel_rfl) (fun _ _ _ h => h) (Or.inl ⟨by rfl, ?_⟩) hHeld ?_
      rotate_left
      · (intro w hSw; (try dsimp only at hSw); go_simp; all_goals (try with_reducible rfl))
      try simp only [Act.put, List.setIfInBounds_toArray, List.set_cons_zero, List.set_cons_succ]
      refine wpAnyH_take (i := 13) (oi := { dst := some 108, op := Op.move (Operand.tmp 13), type := 3, pos := "outright.go:24", after := #[{ on := 10, ground := Ground.guard }], guard := some (10, true) }) (v := ?_) rfl (by kernel_rfl) (by kernel_rfl) (by kernel_rfl) (fun _ _ _ h => h) (Or.inl ⟨by rfl, ?_⟩) hHeld ?_
      rotate_left
      · (intro w hSw; (try dsimp only at hSw); go_simp; all_goals (try with_reducible rfl))
      try simp only [Act.put, List.setIfInBounds_toArray, List.set_cons_zero, List.set_cons_succ]
      refine wpAnyH_take (i := 14) (oi := { dst := some 109, op := Op.move (Operand.tmp 14), type := 3, pos := "outright.go:24", after := #[{ on := 10, ground := Ground.guard }], guard := some (10, true) }) (v := ?_) rfl (by kernel_rfl) (by kernel_rfl) (by kernel_rfl) (fun _ _ _ h => h) (Or.inl ⟨by rfl, ?_⟩) hHeld ?_
      rotate_left
      · (intro w hSw; (try dsimp only at hSw); go_simp; all_goals (try with_reducible rfl))
      try simp only [Act.put, List.setIfInBounds_toArray, List.set_cons_zero, List.set_cons_succ]
      refine wpAnyH_ready (rs := [15]) (by kernel_rfl) (by simp) ?_
      refine AllReadyH.cons (o := { dst := some 110, op := Op.call { callee := Callee.value (Operand.func 20), args := #[Operand.tmp 107, Operand.tmp 108, Operand.tmp 109], argTypes := #[38, 3, 3] }, type := 3, pos := "outright.go:24", after := #[{ on := 12, ground := Ground.data }, { on := 13, ground := Ground.data }, { on := 14, ground := Ground.data }, { on := 10, ground := Ground.chain }, { on := 10, ground := Ground.guard }], guard := some (10, true) }) rfl (fun K hK => ?_) AllReadyH.nil
      go_simp
      refine Calls.mono (HSb.out _ ql4_1) ?_
      rintro e qW5 ⟨rfl, lx, kx⟩
      have ql5_0 := ql4_0.kept kx hne01 ql4_1.new
      have ql5_1 := lx
      have qm5 := qm4.right kx
      have qr5_6 := qr4_6.kept kx (blk_ne qn2_6_1)
      clear kx lx
      go_wp2_with fail
      refine hK.out _ _ ⟨(HKr.out _ qm5).1, (HKr.out _ qm5).2.1, (HKr.out _ qm5).2.2.1, (HKr.out _ qm5).2.2.2.1, (HKr.out _ qm5).2.2.2.2.1, (HKr.out _ qm5).2.2.2.2.2.1, (HKr.out _ qm5).2.2.2.2.2.2.1, (HKr.out _ qm5).2.2.2.2.2.2.2, ql5_1.cell⟩ (fun hHeld => ?_)
      clear hK K
      try simp only [Act.put, List.setIfInBounds_toArray, List.set_cons_zero, List.set_cons_succ]
      refine wpAnyH_ready (rs := [16]) (by kernel_rfl) (by simp) ?_
      refine AllReadyH.cons (o := { dst := some 111, op := Op.call { callee := Callee.value (Operand.func 12), args := #[Operand.tmp 106, Operand.tmp 110], argTypes := #[23, 3] }, type := 4, pos := "outright.go:24", after := #[{ on := 11, ground := Ground.data }, { on := 15, ground := Ground.data }, { on := 15, ground := Ground.chain }, { on := 10, ground := Ground.guard }], guard := some (10, true) }) rfl (fun K hK => ?_) AllReadyH.nil
      go_simp
      refine Calls.mono (shas_any y1 y2 n2 true _ (by simp; exact ⟨v2, w2'⟩)) ?_
      rintro e qW6 ⟨rfl, hb⟩
      have ql6_0 := ql5_0.stays hb
      have ql6_1 := ql5_1.stays hb
      have qm6 := qm5.below hb
      have qr6_6 := qr5_6.stays hb (Nat.le_refl _)
      clear hb
      go_wp2_with fail
      refine hK.out _ _ ⟨(HKr.out _ qm6).1, (HKr.out _ qm6).2.1, (HKr.out _ qm6).2.2.1, (HKr.out _ qm6).2.2.2.1, (HKr.out _ qm6).2.2.2.2.1, (HKr.out _ qm6).2.2.2.2.2.1, (HKr.out _ qm6).2.2.2.2.2.2.1, (HKr.out _ qm6).2.2.2.2.2.2.2, ql6_1.cell⟩ (fun hHeld => ?_)
      clear hK K
      try simp only [Act.put, List.setIfInBounds_toArray, List.set_cons_zero, List.set_cons_succ]
      refine wpAnyH_take (i := 17) (oi := { dst := some 112, op := Op.pick (Operand.tmp 105) (Operand.tmp 111) (Operand.const (Value.bool false)), type := 4, pos := "outright.go:24", after := #[{ on := 10, ground := Ground.data }, { on := 16, ground := Ground.data }], guard := none }) (v := ?_) rfl (by kernel_rfl) (by kernel_rfl) (by kernel_rfl) (fun _ _ _ h => h) (Or.inl ⟨by rfl, ?_⟩) hHeld ?_
      rotate_left
      · (intro w hSw; (try dsimp only at hSw); go_simp; all_goals (try with_reducible rfl))
      try simp only [Act.put, List.setIfInBounds_toArray, List.set_cons_zero, List.set_cons_succ]
      refine wpAnyH_take (i := 18) (oi := { dst := some 113, op := Op.move (Operand.tmp 112), type := 4, pos := "outright.go:24", after := #[{ on := 17, ground := Ground.data }, { on := 16, ground := Ground.chain }], guard := none }) (v := ?_) rfl (by kernel_rfl) (by kernel_rfl) (by kernel_rfl) (fun _ _ _ h => h) (Or.inl ⟨by rfl, ?_⟩) hHeld ?_
      rotate_left
      · (intro w hSw; (try dsimp only at hSw); go_simp; all_goals (try with_reducible rfl))
      try simp only [Act.put, List.setIfInBounds_toArray, List.set_cons_zero, List.set_cons_succ]
      refine wpAnyH_take (i := 19) (oi := { dst := some 114, op := Op.load 23 (Operand.tmp 19), type := 23, pos := "outright.go:24", after := #[{ on := 18, ground := Ground.guard }], guard := some (18, true) }) (v := ?_) rfl (by kernel_rfl) (by kernel_rfl) (by kernel_rfl) (fun _ _ _ h => h) (Or.inl ⟨by rfl, ?_⟩) hHeld ?_
      rotate_left
      · (intro w hSw; (try dsimp only at hSw); go_simp; all_goals (try with_reducible rfl))
      try simp only [Act.put, List.setIfInBounds_toArray, List.set_cons_zero, List.set_cons_succ]
      refine wpAnyH_take (i := 20) (oi := { dst := some 115, op := Op.move (Operand.tmp 16), type := 38, pos := "outright.go:24", after := #[{ on := 18, ground := Ground.guard }], guard := some (18, true) }) (v := ?_) rfl (by kernel_rfl) (by kernel_rfl) (by kernel_rfl) (fun _ _ _ h => h) (Or.inl ⟨by rfl, ?_⟩) hHeld ?_
      rotate_left
      · (intro w hSw; (try dsimp only at hSw); go_simp; all_goals (try with_reducible rfl))
      try simp only [Act.put, List.setIfInBounds_toArray, List.set_cons_zero, List.set_cons_succ]
      refine wpAnyH_take (i := 21) (oi := { dst := some 116, op := Op.move (Operand.tmp 13), type := 3, pos := "outright.go:24", after := #[{ on := 18, ground := Ground.guard }], guard := some (18, true) }) (v := ?_) rfl (by kernel_rfl) (by kernel_rfl) (by kernel_rfl) (fun _ _ _ h => h) (Or.inl ⟨by rfl, ?_⟩) hHeld ?_
      rotate_left
      · (intro w hSw; (try dsimp only at hSw); go_simp; all_goals (try with_reducible rfl))
      try simp only [Act.put, List.setIfInBounds_toArray, List.set_cons_zero, List.set_cons_succ]
      refine wpAnyH_take (i := 22) (oi := { dst := some 117, op := Op.move (Operand.tmp 2), type := 3, pos := "outright.go:24", after := #[{ on := 18, ground := Ground.guard }], guard := some (18, true) }) (v := ?_) rfl (by kernel_rfl) (by kernel_rfl) (by kernel_rfl) (fun _ _ _ h => h) (Or.inl ⟨by rfl, ?_⟩) hHeld ?_
      rotate_left
      · (intro w hSw; (try dsimp only at hSw); go_simp; all_goals (try with_reducible rfl))
      try simp only [Act.put, List.setIfInBounds_toArray, List.set_cons_zero, List.set_cons_succ]
      refine wpAnyH_ready (rs := [23]) (by kernel_rfl) (by simp) ?_
      refine AllReadyH.cons (o := { dst := some 118, op := Op.call { callee := Callee.value (Operand.func 21), args := #[Operand.tmp 115, Operand.tmp 116, Operand.tmp 117, Operand.const (Value.bool false)], argTypes := #[38, 3, 3, 4] }, type := 3, pos := "outright.go:24", after := #[{ on := 20, ground := Ground.data }, { on := 21, ground := Ground.data }, { on := 22, ground := Ground.data }, { on := 18, ground := Ground.chain }, { on := 18, ground := Ground.guard }], guard := some (18, true) }) rfl (fun K hK => ?_) AllReadyH.nil
      go_simp
      refine Calls.mono (HM3.out _ ql6_1) ?_
      rintro e qW7 ⟨rfl, lx, kx⟩
      have ql7_0 := ql6_0.kept kx hne01 ql6_1.new
      have ql7_1 := lx
      have qm7 := qm6.right kx
      have qr7_6 := qr6_6.kept kx (blk_ne qn2_6_1)
      clear kx lx
      go_wp2_with fail
      refine hK.out _ _ ⟨(HKr.out _ qm7).1, (HKr.out _ qm7).2.1, (HKr.out _ qm7).2.2.1, (HKr.out _ qm7).2.2.2.1, (HKr.out _ qm7).2.2.2.2.1, (HKr.out _ qm7).2.2.2.2.2.1, (HKr.out _ qm7).2.2.2.2.2.2.1, (HKr.out _ qm7).2.2.2.2.2.2.2, ql7_1.cell⟩ (fun hHeld => ?_)
      clear hK K
      try simp only [Act.put, List.setIfInBounds_toArray, List.set_cons_zero, List.set_cons_succ]
      refine wpAnyH_ready (rs := [24]) (by kernel_rfl) (by simp) ?_
      refine AllReadyH.cons (o := { dst := some 119, op := Op.call { callee := Callee.value (Operand.func 12), args := #[Operand.tmp 114, Operand.tmp 118], argTypes := #[23, 3] }, type := 4, pos := "outright.go:24", after := #[{ on := 19, ground := Ground.data }, { on := 23, ground := Ground.data }, { on := 23, ground := Ground.chain }, { on := 18, ground := Ground.guard }], guard := some (18, true) }) rfl (fun K hK => ?_) AllReadyH.nil
      go_simp
      refine Calls.mono (shas_any t1 t2 n3 true _ (by simp; exact ⟨v3, w3'⟩)) ?_
      rintro e qW8 ⟨rfl, hb⟩
      have ql8_0 := ql7_0.stays hb
      have ql8_1 := ql7_1.stays hb
      have qm8 := qm7.below hb
      have qr8_6 := qr7_6.stays hb (Nat.le_refl _)
      clear hb
      go_wp2_with fail
      refine hK.out _ _ ⟨(HKr.out _ qm8).1, (HKr.out _ qm8).2.1, (HKr.out _ qm8).2.2.1, (HKr.out _ qm8).2.2.2.1, (HKr.out _ qm8).2.2.2.2.1, (HKr.out _ qm8).2.2.2.2.2.1, (HKr.out _ qm8).2.2.2.2.2.2.1, (HKr.out _ qm8).2.2.2.2.2.2.2, ql8_1.cell⟩ (fun hHeld => ?_)
      clear hK K
      try simp only [Act.put, List.setIfInBounds_toArray, List.set_cons_zero, List.set_cons_succ]
      refine wpAnyH_take (i := 25) (oi := { dst := some 120, op := Op.pick (Operand.tmp 113) (Operand.tmp 119) (Operand.const (Value.bool false)), type := 4, pos := "outright.go:24", after := #[{ on := 18, ground := Ground.data }, { on := 24, ground := Ground.data }], guard := none }) (v := ?_) rfl (by kernel_rfl) (by kernel_rfl) (by kernel_rfl) (fun _ _ _ h => h) (Or.inl ⟨by rfl, ?_⟩) hHeld ?_
      rotate_left
      · (intro w hSw; (try dsimp only at hSw); go_simp; all_goals (try with_reducible rfl))
      try simp only [Act.put, List.setIfInBounds_toArray, List.set_cons_zero, List.set_cons_succ]
      refine wpAnyH_take (i := 26) (oi := { dst := some 121, op := Op.move (Operand.tmp 120), type := 4, pos := "outright.go:24", after := #[{ on := 25, ground := Ground.data }, { on := 24, ground := Ground.chain }], guard := none }) (v := ?_) rfl (by kernel_rfl) (by kernel_rfl) (by kernel_rfl) (fun _ _ _ h => h) (Or.inl ⟨by rfl, ?_⟩) hHeld ?_
      rotate_left
      · (intro w hSw; (try dsimp only at hSw); go_simp; all_goals (try with_reducible rfl))
      try simp only [Act.put, List.setIfInBounds_toArray, List.set_cons_zero, List.set_cons_succ]
      refine wpAnyH_take (i := 27) (oi := { dst := some 122, op := Op.load 23 (Operand.tmp 19), type := 23, pos := "outright.go:24", after := #[{ on := 26, ground := Ground.guard }], guard := some (26, true) }) (v := ?_) rfl (by kernel_rfl) (by kernel_rfl) (by kernel_rfl) (fun _ _ _ h => h) (Or.inl ⟨by rfl, ?_⟩) hHeld ?_
      rotate_left
      · (intro w hSw; (try dsimp only at hSw); go_simp; all_goals (try with_reducible rfl))
      try simp only [Act.put, List.setIfInBounds_toArray, List.set_cons_zero, List.set_cons_succ]
      refine wpAnyH_take (i := 28) (oi := { dst := some 123, op := Op.move (Operand.tmp 16), type := 38, pos := "outright.go:24", after := #[{ on := 26, ground := Ground.guard }], guard := some (26, true) }) (v := ?_) rfl (by kernel_rfl) (by kernel_rfl) (by kernel_rfl) (fun _ _ _ h => h) (Or.inl ⟨by rfl, ?_⟩) hHeld ?_
      rotate_left
      · (intro w hSw; (try dsimp only at hSw); go_simp; all_goals (try with_reducible rfl))
      try simp only [Act.put, List.setIfInBounds_toArray, List.set_cons_zero, List.set_cons_succ]
      refine wpAnyH_take (i := 29) (oi := { dst := some 124, op := Op.move (Operand.tmp 13), type := 3, pos := "outright.go:24", after := #[{ on := 26, ground := Ground.guard }], guard := some (26, true) }) (v := ?_) rfl (by kernel_rfl) (by kernel_rfl) (by kernel_rfl) (fun _ _ _ h => h) (Or.inl ⟨by rfl, ?_⟩) hHeld ?_
      rotate_left
      · (intro w hSw; (try dsimp only at hSw); go_simp; all_goals (try with_reducible rfl))
      try simp only [Act.put, List.setIfInBounds_toArray, List.set_cons_zero, List.set_cons_succ]
      refine wpAnyH_take (i := 30) (oi := { dst := some 125, op := Op.move (Operand.tmp 2), type := 3, pos := "outright.go:24", after := #[{ on := 26, ground := Ground.guard }], guard := some (26, true) }) (v := ?_) rfl (by kernel_rfl) (by kernel_rfl) (by kernel_rfl) (fun _ _ _ h => h) (Or.inl ⟨by rfl, ?_⟩) hHeld ?_
      rotate_left
      · (intro w hSw; (try dsimp only at hSw); go_simp; all_goals (try with_reducible rfl))
      try simp only [Act.put, List.setIfInBounds_toArray, List.set_cons_zero, List.set_cons_succ]
      refine wpAnyH_ready (rs := [31]) (by kernel_rfl) (by simp) ?_
      refine AllReadyH.cons (o := { dst := some 126, op := Op.call { callee := Callee.value (Operand.func 21), args := #[Operand.tmp 123, Operand.tmp 124, Operand.tmp 125, Operand.const (Value.bool true)], argTypes := #[38, 3, 3, 4] }, type := 3, pos := "outright.go:24", after := #[{ on := 28, ground := Ground.data }, { on := 29, ground := Ground.data }, { on := 30, ground := Ground.data }, { on := 26, ground := Ground.chain }, { on := 26, ground := Ground.guard }], guard := some (26, true) }) rfl (fun K hK => ?_) AllReadyH.nil
      go_simp
      refine Calls.mono (HM4.out _ ql8_1) ?_
      rintro e qW9 ⟨rfl, lx, kx⟩
      have ql9_0 := ql8_0.kept kx hne01 ql8_1.new
      have ql9_1 := lx
      have qm9 := qm8.right kx
      have qr9_6 := qr8_6.kept kx (blk_ne qn2_6_1)
      clear kx lx
      go_wp2_with fail
      refine hK.out _ _ ⟨(HKr.out _ qm9).1, (HKr.out _ qm9).2.1, (HKr.out _ qm9).2.2.1, (HKr.out _ qm9).2.2.2.1, (HKr.out _ qm9).2.2.2.2.1, (HKr.out _ qm9).2.2.2.2.2.1, (HKr.out _ qm9).2.2.2.2.2.2.1, (HKr.out _ qm9).2.2.2.2.2.2.2, ql9_1.cell⟩ (fun hHeld => ?_)
      clear hK K
      try simp only [Act.put, List.setIfInBounds_toArray, List.set_cons_zero, List.set_cons_succ]
      refine wpAnyH_ready (rs := [32]) (by kernel_rfl) (by simp) ?_
      refine AllReadyH.cons (o := { dst := some 127, op := Op.call { callee := Callee.value (Operand.func 12), args := #[Operand.tmp 122, Operand.tmp 126], argTypes := #[23, 3] }, type := 4, pos := "outright.go:24", after := #[{ on := 27, ground := Ground.data }, { on := 31, ground := Ground.data }, { on := 31, ground := Ground.chain }, { on := 26, ground := Ground.guard }], guard := some (26, true) }) rfl (fun K hK => ?_) AllReadyH.nil
      go_simp
      refine Calls.mono (shas_any t1 t2 n4 true _ (by simp; exact ⟨v4, w4'⟩)) ?_
      rintro e qW10 ⟨rfl, hb⟩
      have ql10_0 := ql9_0.stays hb
      have ql10_1 := ql9_1.stays hb
      have qm10 := qm9.below hb
      have qr10_6 := qr9_6.stays hb (Nat.le_refl _)
      clear hb
      go_wp2_with fail
      refine hK.out _ _ ⟨(HKr.out _ qm10).1, (HKr.out _ qm10).2.1, (HKr.out _ qm10).2.2.1, (HKr.out _ qm10).2.2.2.1, (HKr.out _ qm10).2.2.2.2.1, (HKr.out _ qm10).2.2.2.2.2.1, (HKr.out _ qm10).2.2.2.2.2.2.1, (HKr.out _ qm10).2.2.2.2.2.2.2, ql10_1.cell⟩ (fun hHeld => ?_)
      clear hK K
      try simp only [Act.put, List.setIfInBounds_toArray, List.set_cons_zero, List.set_cons_succ]
      refine wpAnyH_take (i := 33) (oi := { dst := some 128, op := Op.pick (Operand.tmp 121) (Operand.tmp 127) (Operand.const (Value.bool false)), type := 4, pos := "outright.go:24", after := #[{ on := 26, ground := Ground.data }, { on := 32, ground := Ground.data }], guard := none }) (v := ?_) rfl (by kernel_rfl) (by kernel_rfl) (by kernel_rfl) (fun _ _ _ h => h) (Or.inl ⟨by rfl, ?_⟩) hHeld ?_
      rotate_left
      · (intro w hSw; (try dsimp only at hSw); go_simp; all_goals (try with_reducible rfl))
      try simp only [Act.put, List.setIfInBounds_toArray, List.set_cons_zero, List.set_cons_succ]
      refine wpAnyH_take (i := 34) (oi := { dst := some 129, op := Op.move (Operand.tmp 128), type := 4, pos := "outright.go:24", after := #[{ on := 33, ground := Ground.data }, { on := 32, ground := Ground.chain }], guard := none }) (v := ?_) rfl (by kernel_rfl) (by kernel_rfl) (by kernel_rfl) (fun _ _ _ h => h) (Or.inl ⟨by rfl, ?_⟩) hHeld ?_
      rotate_left
      · (intro w hSw; (try dsimp only at hSw); go_simp; all_goals (try with_reducible rfl))
      try simp only [Act.put, List.setIfInBounds_toArray, List.set_cons_zero, List.set_cons_succ]
      refine wpAnyH_take (i := 35) (oi := { dst := some 130, op := Op.load 23 (Operand.tmp 20), type := 23, pos := "outright.go:24", after := #[{ on := 34, ground := Ground.guard }], guard := some (34, true) }) (v := ?_) rfl (by kernel_rfl) (by kernel_rfl) (by kernel_rfl) (fun _ _ _ h => h) (Or.inl ⟨by rfl, ?_⟩) hHeld ?_
      rotate_left
      · (intro w hSw; (try dsimp only at hSw); go_simp; all_goals (try with_reducible rfl))
      try simp only [Act.put, List.setIfInBounds_toArray, List.set_cons_zero, List.set_cons_succ]
      refine wpAnyH_take (i := 36) (oi := { dst := some 131, op := Op.move (Operand.tmp 16), type := 38, pos := "outright.go:24", after := #[{ on := 34, ground := Ground.guard }], guard := some (34, true) }) (v := ?_) rfl (by kernel_rfl) (by kernel_rfl) (by kernel_rfl) (fun _ _ _ h => h) (Or.inl ⟨by rfl, ?_⟩) hHeld ?_
      rotate_left
      · (intro w hSw; (try dsimp only at hSw); go_simp; all_goals (try with_reducible rfl))
      try simp only [Act.put, List.setIfInBounds_toArray, List.set_cons_zero, List.set_cons_succ]
      refine wpAnyH_take (i := 37) (oi := { dst := some 132, op := Op.move (Operand.tmp 13), type := 3, pos := "outright.go:24", after := #[{ on := 34, ground := Ground.guard }], guard := some (34, true) }) (v := ?_) rfl (by kernel_rfl) (by kernel_rfl) (by kernel_rfl) (fun _ _ _ h => h) (Or.inl ⟨by rfl, ?_⟩) hHeld ?_
      rotate_left
      · (intro w hSw; (try dsimp only at hSw); go_simp; all_goals (try with_reducible rfl))
      try simp only [Act.put, List.setIfInBounds_toArray, List.set_cons_zero, List.set_cons_succ]
      refine wpAnyH_take (i := 38) (oi := { dst := some 133, op := Op.move (Operand.tmp 14), type := 3, pos := "outright.go:24", after := #[{ on := 34, ground := Ground.guard }], guard := some (34, true) }) (v := ?_) rfl (by kernel_rfl) (by kernel_rfl) (by kernel_rfl) (fun _ _ _ h => h) (Or.inl ⟨by rfl, ?_⟩) hHeld ?_
      rotate_left
      · (intro w hSw; (try dsimp only at hSw); go_simp; all_goals (try with_reducible rfl))
      try simp only [Act.put, List.setIfInBounds_toArray, List.set_cons_zero, List.set_cons_succ]
      refine wpAnyH_ready (rs := [39]) (by kernel_rfl) (by simp) ?_
      refine AllReadyH.cons (o := { dst := some 134, op := Op.call { callee := Callee.value (Operand.func 21), args := #[Operand.tmp 131, Operand.tmp 132, Operand.tmp 133, Operand.const (Value.bool false)], argTypes := #[38, 3, 3, 4] }, type := 3, pos := "outright.go:24", after := #[{ on := 36, ground := Ground.data }, { on := 37, ground := Ground.data }, { on := 38, ground := Ground.data }, { on := 34, ground := Ground.chain }, { on := 34, ground := Ground.guard }], guard := some (34, true) }) rfl (fun K hK => ?_) AllReadyH.nil
      go_simp
      refine Calls.mono (HM5.out _ ql10_1) ?_
      rintro e qW11 ⟨rfl, lx, kx⟩
      have ql11_0 := ql10_0.kept kx hne01 ql10_1.new
      have ql11_1 := lx
      have qm11 := qm10.right kx
      have qr11_6 := qr10_6.kept kx (blk_ne qn2_6_1)
      clear kx lx
      go_wp2_with fail
      refine hK.out _ _ ⟨(HKr.out _ qm11).1, (HKr.out _ qm11).2.1, (HKr.out _ qm11).2.2.1, (HKr.out _ qm11).2.2.2.1, (HKr.out _ qm11).2.2.2.2.1, (HKr.out _ qm11).2.2.2.2.2.1, (HKr.out _ qm11).2.2.2.2.2.2.1, (HKr.out _ qm11).2.2.2.2.2.2.2, ql11_1.cell⟩ (fun hHeld => ?_)
      clear hK K
      try simp only [Act.put, List.setIfInBounds_toArray, List.set_cons_zero, List.set_cons_succ]
      refine wpAnyH_ready (rs := [40]) (by kernel_rfl) (by simp) ?_
      refine AllReadyH.cons (o := { dst := some 135, op := Op.call { callee := Callee.value (Operand.func 12), args := #[Operand.tmp 130, Operand.tmp 134], argTypes := #[23, 3] }, type := 4, pos := "outright.go:24", after := #[{ on := 35, ground := Ground.data }, { on := 39, ground := Ground.data }, { on := 39, ground := Ground.chain }, { on := 34, ground := Ground.guard }], guard := some (34, true) }) rfl (fun K hK => ?_) AllReadyH.nil
      go_simp
      refine Calls.mono (shas_any s1 s2 n5 true _ (by simp; exact ⟨v5, w5'⟩)) ?_
      rintro e qW12 ⟨rfl, hb⟩
      have ql12_0 := ql11_0.stays hb
      have ql12_1 := ql11_1.stays hb
      have qm12 := qm11.below hb
      have qr12_6 := qr11_6.stays hb (Nat.le_refl _)
      clear hb
      go_wp2_with fail
      refine hK.out _ _ ⟨(HKr.out _ qm12).1, (HKr.out _ qm12).2.1, (HKr.out _ qm12).2.2.1, (HKr.out _ qm12).2.2.2.1, (HKr.out _ qm12).2.2.2.2.1, (HKr.out _ qm12).2.2.2.2.2.1, (HKr.out _ qm12).2.2.2.2.2.2.1, (HKr.out _ qm12).2.2.2.2.2.2.2, ql12_1.cell⟩ (fun hHeld => ?_)
      clear hK K
      try simp only [Act.put, List.setIfInBounds_toArray, List.set_cons_zero, List.set_cons_succ]
      refine wpAnyH_take (i := 41) (oi := { dst := some 136, op := Op.pick (Operand.tmp 129) (Operand.tmp 135) (Operand.const (Value.bool false)), type := 4, pos := "outright.go:24", after := #[{ on := 34, ground := Ground.data }, { on := 40, ground := Ground.data }], guard := none }) (v := ?_) rfl (by kernel_rfl) (by kernel_rfl) (by kernel_rfl) (fun _ _ _ h => h) (Or.inl ⟨by rfl, ?_⟩) hHeld ?_
      rotate_left
      · (intro w hSw; (try dsimp only at hSw); go_simp; all_goals (try with_reducible rfl))
      try simp only [Act.put, List.setIfInBounds_toArray, List.set_cons_zero, List.set_cons_succ]
      refine wpAnyH_take (i := 42) (oi := { dst := some 137, op := Op.move (Operand.tmp 136), type := 4, pos := "outright.go:24", after := #[{ on := 41, ground := Ground.data }, { on := 40, ground := Ground.chain }], guard := none }) (v := ?_) rfl (by kernel_rfl) (by kernel_rfl) (by kernel_rfl) (fun _ _ _ h => h) (Or.inl ⟨by rfl, ?_⟩) hHeld ?_
      rotate_left
      · (intro w hSw; (try dsimp only at hSw); go_simp; all_goals (try with_reducible rfl))
      try simp only [Act.put, List.setIfInBounds_toArray, List.set_cons_zero, List.set_cons_succ]
      refine wpAnyH_take (i := 43) (oi := { dst := some 138, op := Op.load 23 (Operand.tmp 20), type := 23, pos := "outright.go:24", after := #[{ on := 42, ground := Ground.guard }], guard := some (42, true) }) (v := ?_) rfl (by kernel_rfl) (by kernel_rfl) (by kernel_rfl) (fun _ _ _ h => h) (Or.inl ⟨by rfl, ?_⟩) hHeld ?_
      rotate_left
      · (intro w hSw; (try dsimp only at hSw); go_simp; all_goals (try with_reducible rfl))
      try simp only [Act.put, List.setIfInBounds_toArray, List.set_cons_zero, List.set_cons_succ]
      refine wpAnyH_take (i := 44) (oi := { dst := some 139, op := Op.move (Operand.tmp 16), type := 38, pos := "outright.go:24", after := #[{ on := 42, ground := Ground.guard }], guard := some (42, true) }) (v := ?_) rfl (by kernel_rfl) (by kernel_rfl) (by kernel_rfl) (fun _ _ _ h => h) (Or.inl ⟨by rfl, ?_⟩) hHeld ?_
      rotate_left
      · (intro w hSw; (try dsimp only at hSw); go_simp; all_goals (try with_reducible rfl))
      try simp only [Act.put, List.setIfInBounds_toArray, List.set_cons_zero, List.set_cons_succ]
      refine wpAnyH_take (i := 45) (oi := { dst := some 140, op := Op.move (Operand.tmp 13), type := 3, pos := "outright.go:24", after := #[{ on := 42, ground := Ground.guard }], guard := some (42, true) }) (v := ?_) rfl (by kernel_rfl) (by kernel_rfl) (by kernel_rfl) (fun _ _ _ h => h) (Or.inl ⟨by rfl, ?_⟩) hHeld ?_
      rotate_left
      · (intro w hSw; (try dsimp only at hSw); go_simp; all_goals (try with_reducible rfl))
      try simp only [Act.put, List.setIfInBounds_toArray, List.set_cons_zero, List.set_cons_succ]
      refine wpAnyH_take (i := 46) (oi := { dst := some 141, op := Op.move (Operand.tmp 14), type := 3, pos := "outright.go:24", after := #[{ on := 42, ground := Ground.guard }], guard := some (42, true) }) (v := ?_) rfl (by kernel_rfl) (by kernel_rfl) (by kernel_rfl) (fun _ _ _ h => h) (Or.inl ⟨by rfl, ?_⟩) hHeld ?_
      rotate_left
      · (intro w hSw; (try dsimp only at hSw); go_simp; all_goals (try with_reducible rfl))
      try simp only [Act.put, List.setIfInBounds_toArray, List.set_cons_zero, List.set_cons_succ]
      refine wpAnyH_ready (rs := [47]) (by kernel_rfl) (by simp) ?_
      refine AllReadyH.cons (o := { dst := some 142, op := Op.call { callee := Callee.value (Operand.func 21), args := #[Operand.tmp 139, Operand.tmp 140, Operand.tmp 141, Operand.const (Value.bool true)], argTypes := #[38, 3, 3, 4] }, type := 3, pos := "outright.go:24", after := #[{ on := 44, ground := Ground.data }, { on := 45, ground := Ground.data }, { on := 46, ground := Ground.data }, { on := 42, ground := Ground.chain }, { on := 42, ground := Ground.guard }], guard := some (42, true) }) rfl (fun K hK => ?_) AllReadyH.nil
      go_simp
      refine Calls.mono (HM6.out _ ql12_1) ?_
      rintro e qW13 ⟨rfl, lx, kx⟩
      have ql13_0 := ql12_0.kept kx hne01 ql12_1.new
      have ql13_1 := lx
      have qm13 := qm12.right kx
      have qr13_6 := qr12_6.kept kx (blk_ne qn2_6_1)
      clear kx lx
      go_wp2_with fail
      refine hK.out _ _ ⟨(HKr.out _ qm13).1, (HKr.out _ qm13).2.1, (HKr.out _ qm13).2.2.1, (HKr.out _ qm13).2.2.2.1, (HKr.out _ qm13).2.2.2.2.1, (HKr.out _ qm13).2.2.2.2.2.1, (HKr.out _ qm13).2.2.2.2.2.2.1, (HKr.out _ qm13).2.2.2.2.2.2.2, ql13_1.cell⟩ (fun hHeld => ?_)
      clear hK K
      try simp only [Act.put, List.setIfInBounds_toArray, List.set_cons_zero, List.set_cons_succ]
      refine wpAnyH_ready (rs := [48]) (by kernel_rfl) (by simp) ?_
      refine AllReadyH.cons (o := { dst := some 143, op := Op.call { callee := Callee.value (Operand.func 12), args := #[Operand.tmp 138, Operand.tmp 142], argTypes := #[23, 3] }, type := 4, pos := "outright.go:24", after := #[{ on := 43, ground := Ground.data }, { on := 47, ground := Ground.data }, { on := 47, ground := Ground.chain }, { on := 42, ground := Ground.guard }], guard := some (42, true) }) rfl (fun K hK => ?_) AllReadyH.nil
      go_simp
      refine Calls.mono (shas_any s1 s2 n6 true _ (by simp; exact ⟨v6, w6'⟩)) ?_
      rintro e qW14 ⟨rfl, hb⟩
      have ql14_0 := ql13_0.stays hb
      have ql14_1 := ql13_1.stays hb
      have qm14 := qm13.below hb
      have qr14_6 := qr13_6.stays hb (Nat.le_refl _)
      clear hb
      go_wp2_with fail
      refine hK.out _ _ ⟨(HKr.out _ qm14).1, (HKr.out _ qm14).2.1, (HKr.out _ qm14).2.2.1, (HKr.out _ qm14).2.2.2.1, (HKr.out _ qm14).2.2.2.2.1, (HKr.out _ qm14).2.2.2.2.2.1, (HKr.out _ qm14).2.2.2.2.2.2.1, (HKr.out _ qm14).2.2.2.2.2.2.2, ql14_1.cell⟩ (fun hHeld => ?_)
      clear hK K
      try simp only [Act.put, List.setIfInBounds_toArray, List.set_cons_zero, List.set_cons_succ]
      refine wpAnyH_take (i := 49) (oi := { dst := some 144, op := Op.pick (Operand.tmp 137) (Operand.tmp 143) (Operand.const (Value.bool false)), type := 4, pos := "outright.go:24", after := #[{ on := 42, ground := Ground.data }, { on := 48, ground := Ground.data }], guard := none }) (v := ?_) rfl (by kernel_rfl) (by kernel_rfl) (by kernel_rfl) (fun _ _ _ h => h) (Or.inl ⟨by rfl, ?_⟩) hHeld ?_
      rotate_left
      · (intro w hSw; (try dsimp only at hSw); go_simp; all_goals (try with_reducible rfl))
      try simp only [Act.put, List.setIfInBounds_toArray, List.set_cons_zero, List.set_cons_succ]
      refine wpAnyH_take (i := 50) (oi := { dst := some 145, op := Op.move (Operand.tmp 144), type := 4, pos := "outright.go:24", after := #[{ on := 49, ground := Ground.data }, { on := 48, ground := Ground.chain }], guard := none }) (v := ?_) rfl (by kernel_rfl) (by kernel_rfl) (by kernel_rfl) (fun _ _ _ h => h) (Or.inl ⟨by rfl, ?_⟩) hHeld ?_
      rotate_left
      · (intro w hSw; (try dsimp only at hSw); go_simp; all_goals (try with_reducible rfl))
      try simp only [Act.put, List.setIfInBounds_toArray, List.set_cons_zero, List.set_cons_succ]
      refine wpAnyH_take (i := 51) (oi := { dst := some 146, op := Op.move (Operand.tmp 16), type := 38, pos := "outright.go:24", after := #[{ on := 50, ground := Ground.guard }], guard := some (50, true) }) (v := ?_) rfl (by kernel_rfl) (by kernel_rfl) (by kernel_rfl) (fun _ _ _ h => h) (Or.inl ⟨by rfl, ?_⟩) hHeld ?_
      rotate_left
      · (intro w hSw; (try dsimp only at hSw); go_simp; all_goals (try with_reducible rfl))
      try simp only [Act.put, List.setIfInBounds_toArray, List.set_cons_zero, List.set_cons_succ]
      refine wpAnyH_take (i := 52) (oi := { dst := some 147, op := Op.nilCheck (Operand.tmp 146), type := 0, pos := "outright.go:24", after := #[{ on := 51, ground := Ground.data }, { on := 50, ground := Ground.guard }], guard := some (50, true) }) (v := ?_) rfl (by kernel_rfl) (by kernel_rfl) (by kernel_rfl) (fun _ _ _ h => h) (Or.inl ⟨by rfl, ?_⟩) hHeld ?_
      rotate_left
      · (intro w hSw; (try dsimp only at hSw); go_simp; all_goals (try with_reducible rfl))
      try simp only [Act.put, List.setIfInBounds_toArray, List.set_cons_zero, List.set_cons_succ]
      refine wpAnyH_take (i := 53) (oi := { dst := some 148, op := Op.fieldAddr 28 (Operand.tmp 147) 0, type := 0, pos := "outright.go:24", after := #[{ on := 52, ground := Ground.data }, { on := 50, ground := Ground.guard }], guard := some (50, true) }) (v := ?_) rfl (by kernel_rfl) (by kernel_rfl) (by kernel_rfl) (fun _ _ _ h => h) (Or.inl ⟨by rfl, ?_⟩) hHeld ?_
      rotate_left
      · (intro w hSw; (try dsimp only at hSw); go_simp; all_goals (try with_reducible rfl))
      try simp only [Act.put, List.setIfInBounds_toArray, List.set_cons_zero, List.set_cons_succ]
      refine wpAnyH_take (i := 54) (oi := { dst := some 149, op := Op.load 4 (Operand.tmp 148), type := 4, pos := "outright.go:24", after := #[{ on := 53, ground := Ground.data }, { on := 50, ground := Ground.guard }], guard := some (50, true) }) (v := ?_) rfl (by kernel_rfl) (by kernel_rfl) (by kernel_rfl) (fun _ _ _ h => h) (Or.inl ⟨by rfl, ?_⟩) hHeld ?_
      rotate_left
      · (intro w hSw; (try dsimp only at hSw); go_simp; all_goals (try with_reducible rfl))
      try simp only [Act.put, List.setIfInBounds_toArray, List.set_cons_zero, List.set_cons_succ]
      refine wpAnyH_take (i := 55) (oi := { dst := some 150, op := Op.unOp UnOp.not 4 (Operand.tmp 149), type := 4, pos := "outright.go:24", after := #[{ on := 54, ground := Ground.data }, { on := 50, ground := Ground.guard }], guard := some (50, true) }) (v := ?_) rfl (by kernel_rfl) (by kernel_rfl) (by kernel_rfl) (fun _ _ _ h => h) (Or.inl ⟨by rfl, ?_⟩) hHeld ?_
      rotate_left
      · (intro w hSw; (try dsimp only at hSw); go_simp; all_goals (try with_reducible rfl))
      try simp only [Act.put, List.setIfInBounds_toArray, List.set_cons_zero, List.set_cons_succ]
      refine wpAnyH_take (i := 56) (oi := { dst := some 151, op := Op.pick (Operand.tmp 145) (Operand.tmp 150) (Operand.const (Value.bool false)), type := 4, pos := "outright.go:24", after := #[{ on := 50, ground := Ground.data }, { on := 55, ground := Ground.data }], guard := none }) (v := ?_) rfl (by kernel_rfl) (by kernel_rfl) (by kernel_rfl) (fun _ _ _ h => h) (Or.inl ⟨by rfl, ?_⟩) hHeld ?_
      rotate_left
      · (intro w hSw; (try dsimp only at hSw); go_simp; all_goals (try with_reducible rfl))
      try simp only [Act.put, List.setIfInBounds_toArray, List.set_cons_zero, List.set_cons_succ]
      refine wpAnyH_take (i := 57) (oi := { dst := some 10, op := Op.assign (Operand.tmp 151), type := 4, pos := "outright.go:24", after := #[{ on := 56, ground := Ground.data }, { on := 50, ground := Ground.chain }, { on := 0, ground := Ground.phase }, { on := 1, ground := Ground.phase }, { on := 2, ground := Ground.phase }, { on := 3, ground := Ground.phase }, { on := 4, ground := Ground.phase }, { on := 5, ground := Ground.phase }, { on := 6, ground := Ground.phase }, { on := 7, ground := Ground.phase }, { on := 8, ground := Ground.phase }, { on := 9, ground := Ground.phase }, { on := 10, ground := Ground.phase }, { on := 11, ground := Ground.phase }, { on := 12, ground := Ground.phase }, { on := 13, ground := Ground.phase }, { on := 14, ground := Ground.phase }, { on := 15, ground := Ground.phase }, { on := 16, ground := Ground.phase }, { on := 17, ground := Ground.phase }, { on := 18, ground := Ground.phase }, { on := 19, ground := Ground.phase }, { on := 20, ground := Ground.phase }, { on := 21, ground := Ground.phase }, { on := 22, ground := Ground.phase }, { on := 23, ground := Ground.phase }, { on := 24, ground := Ground.phase }, { on := 25, ground := Ground.phase }, { on := 26, ground := Ground.phase }, { on := 27, ground := Ground.phase }, { on := 28, ground := Ground.phase }, { on := 29, ground := Ground.phase }, { on := 30, ground := Ground.phase }, { on := 31, ground := Ground.phase }, { on := 32, ground := Ground.phase }, { on := 33, ground := Ground.phase }, { on := 34, ground := Ground.phase }, { on := 35, ground := Ground.phase }, { on := 36, ground := Ground.phase }, { on := 37, ground := Ground.phase }, { on := 38, ground := Ground.phase }, { on := 39, ground := Ground.phase }, { on := 40, ground := Ground.phase }, { on := 41, ground := Ground.phase }, { on := 42, ground := Ground.phase }, { on := 43, ground := Ground.phase }, { on := 44, ground := Ground.phase }, { on := 45, ground := Ground.phase }, { on := 46, ground := Ground.phase }, { on := 47, ground := Ground.phase }, { on := 48, ground := Ground.phase }, { on := 49, ground := Ground.phase }, { on := 50, ground := Ground.phase }, { on := 51, ground := Ground.phase }, { on := 52, ground := Ground.phase }, { on := 53, ground := Ground.phase }, { on := 54, ground := Ground.phase }, { on := 55, ground := Ground.phase }, { on := 56, ground := Ground.phase }], guard := none }) (v := ?_) rfl (by kernel_rfl) (by kernel_rfl) (by kernel_rfl) (fun _ _ _ h => h) (Or.inl ⟨by rfl, ?_⟩) hHeld ?_
      rotate_left
      · (intro w hSw; (try dsimp only at hSw); go_simp; all_goals (try with_reducible rfl))
      try simp only [Act.put, List.setIfInBounds_toArray, List.set_cons_zero, List.set_cons_succ]
      refine wpAnyH_done (by kernel_rfl) ?_ _
      go_wp2
      go_ret
      exact ⟨rfl, ql14_0.below⟩
  · exact ⟨false, false, false, false, false, false, false, false, false, false, false, false, false, 0, 0, 0, 0, 0, by decide, rfl, live_eq l0 (by cases o1 <;> cases o2 <;> cases o3 <;> cases o4 <;> rfl), live_eq l1 (by rfl), m0, fun _ h => by (cases h), fun h => by (cases h), fun h => by (cases h), fun h => by (cases h), fun h => by (cases h), fun h => by (cases h), fun h => by (cases h), fun h => by (cases h), fun h => by (cases h), fun h => by (cases h), fun h => by (cases h), fun _ => rfl, fun _ => rfl, fun _ => rfl, fun _ => rfl, fun h => by (cases h), fun h => by (cases h), fun h => by (cases h)⟩

theorem holds_law (a b c d k i j : Int) (w : World) (ha : B64 a) (hb : B64 b) (hc : B64 c) (hd : B64 d) (hk : B64 k) (hi : B64 i) (hj : B64 j) : Calls Try.prog 5 #[(.agg #[.int .i64 a, .int .i64 b]), (.agg #[.int .i64 c, .int .i64 d]), .int .i64 k, .int .i64 i, .int .i64 j] w fun e w' => e = .returned (.bool true) ∧ Below w.heap.size w w' := by
  by_cases h1 : b < a
  · exact holds_nx a b c d k i j w h1
  · by_cases h2 : d < c
    · exact holds_ny a b c d k i j w (by omega) h2
    · exact holds_some a b c d k i j w ha hb hc hd hk (by omega) (by omega) _ rfl
end Go.Proofs.Ythnhlgiibiephab
