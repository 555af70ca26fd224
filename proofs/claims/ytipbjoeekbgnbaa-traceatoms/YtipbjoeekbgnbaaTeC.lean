/- picketref7's Judge, at every sum. Conditions: sums below 2^190 in size. -/
import Derived.Test.YtipbjoeekbgnbaaBz1
import Derived.Test.YtipbjoeekbgnbaaBz2
import Derived.Test.YtipbjoeekbgnbaaTcW
namespace Go.Proofs.Ytipbjoeekbgnbaa
open Go.RowKit
set_option linter.unusedVariables false
set_option maxRecDepth 100000

def bigC (m : Bool) (d : Nat → Int) : Value := .agg #[.bool m, .int .i64 (d 0), .int .i64 (d 1), .int .i64 (d 2), .int .i64 (d 3), .int .i64 (d 4), .int .i64 (d 5)]
set_option maxHeartbeats 8000000 in
theorem judge_mz (m : Bool) (d : Nat → Int) (num k3 : Int) (w : World) (hn : B64 num)
    (HM : Hid (∀ u z c X, IsBig u c → IsBig z 4294967296 → -9223372036854775808 ≤ c → c ≤ 9223372036854775807 → Calls Try.prog 15 #[u, z] X fun e X' => ∃ v', e = .returned v' ∧ IsBig v' (c * 4294967296) ∧ Below X.heap.size X X'))
    (H1 : Hid (∀ z X, IsBig z (9223372036854775807 * 4294967296) → Calls Try.prog 29 #[bigC m d, z] X fun e X' => e = .returned (.int .i64 (-1)) ∧ Below X.heap.size X X'))
    (H2 : Hid (∀ z X, IsBig z (-9223372036854775808 * 4294967296) → Calls Try.prog 29 #[bigC m d, z] X fun e X' => e = .returned (.int .i64 0) ∧ Below X.heap.size X X'))
    (H3 : Hid (∀ z X, IsBig z (num * 4294967296) → Calls Try.prog 29 #[bigC m d, z] X fun e X' => e = .returned (.int .i64 k3) ∧ Below X.heap.size X X')) :
    Calls Try.prog 17 #[bigC m d, .int .i64 num] w fun e w' => e = .returned (.tuple #[.bool (decide (k3 ≤ 0)), .bool false]) ∧ Below w.heap.size w w' := by
  unfold bigC at *
  have HO : Hid (∀ c X, -9223372036854775808 ≤ c → c ≤ 9223372036854775807 → Calls Try.prog 16 #[.int .i64 c] X fun e X' => ∃ v', e = .returned v' ∧ IsBig v' c ∧ Below X.heap.size X X') := fun c X a b => of_big c X a b
  have HN : Hid (B64 num) := hn
  clear hn
  go_enter Try.func17, Try.ntmps17
  go_wp2_with fail
  refine Calls.mono (HO.out 4294967296 _ (by omega) (by omega)) ?_
  rintro e W1 ⟨z, rfl, hz, hw⟩
  have HZ : Hid (IsBig z 4294967296) := hz
  obtain ⟨m1, d1, rfl, hd1, hd2, hd3⟩ := hz
  clear hd1 hd2 hd3
  have HW1 : Hid (Below w.heap.size w W1) := ((Below.refl _ _).alloc (Nat.le_refl _) _).trans (hw.mono (by simp))
  have A1 : BigAt W1 w.heap.size m d := BigAt.below (bigAt_of (by simp [go_sem]) (by simp [go_sem]) (by simp [go_sem]) (by simp [go_sem]) (by simp [go_sem]) (by simp [go_sem]) (by simp [go_sem]) (fun j => by simp [go_sem])) hw
  have HA1 : Hid (BigAt W1 w.heap.size m d) := A1
  clear hw A1
  go_wp2_with fail
  obtain ⟨W2, hW2⟩ : ∃ Z, (W1.alloc (.cells #[.bool m1, .int .i64 (d1 0), .int .i64 (d1 1), .int .i64 (d1 2), .int .i64 (d1 3), .int .i64 (d1 4), .int .i64 (d1 5)] 52)) = Z := ⟨_, rfl⟩
  have A2 : BigAt W2 w.heap.size m d := by rw [← hW2]; exact HA1.out.below ((Below.refl _ _).alloc (Nat.le_refl _) _)
  have B2 : BigAt W2 W1.heap.size m1 d1 := by rw [← hW2]; exact bigAt_of (by simp [go_sem]) (by simp [go_sem]) (by simp [go_sem]) (by simp [go_sem]) (by simp [go_sem]) (by simp [go_sem]) (by simp [go_sem]) (fun j => by simp [go_sem])
  have HW2 : Hid (Below w.heap.size w W2) := by rw [← hW2]; exact HW1.out.alloc HW1.out.size _
  rw [hW2]
  clear hW2 HA1
  have HK : Hid (∀ W', Below W2.heap.size W2 W' → W'.cell? ⟨w.heap.size, 0, none⟩ = some (.bool m) ∧ W'.cell? ⟨w.heap.size, 1, none⟩ = some (.int .i64 (d 0)) ∧ W'.cell? ⟨w.heap.size, 2, none⟩ = some (.int .i64 (d 1)) ∧ W'.cell? ⟨w.heap.size, 3, none⟩ = some (.int .i64 (d 2)) ∧ W'.cell? ⟨w.heap.size, 4, none⟩ = some (.int .i64 (d 3)) ∧ W'.cell? ⟨w.heap.size, 5, none⟩ = some (.int .i64 (d 4)) ∧ W'.cell? ⟨w.heap.size, 6, none⟩ = some (.int .i64 (d 5)) ∧ W'.cell? ⟨W1.heap.size, 0, none⟩ = some (.bool m1) ∧ W'.cell? ⟨W1.heap.size, 1, none⟩ = some (.int .i64 (d1 0)) ∧ W'.cell? ⟨W1.heap.size, 2, none⟩ = some (.int .i64 (d1 1)) ∧ W'.cell? ⟨W1.heap.size, 3, none⟩ = some (.int .i64 (d1 2)) ∧ W'.cell? ⟨W1.heap.size, 4, none⟩ = some (.int .i64 (d1 3)) ∧ W'.cell? ⟨W1.heap.size, 5, none⟩ = some (.int .i64 (d1 4)) ∧ W'.cell? ⟨W1.heap.size, 6, none⟩ = some (.int .i64 (d1 5))) := by
    intro W' hb
    have A3 := A2.below hb
    have B3 := B2.below hb
    exact ⟨A3.s, A3.c 0 (by omega), A3.c 1 (by omega), A3.c 2 (by omega), A3.c 3 (by omega), A3.c 4 (by omega), A3.c 5 (by omega), B3.s, B3.c 0 (by omega), B3.c 1 (by omega), B3.c 2 (by omega), B3.c 3 (by omega), B3.c 4 (by omega), B3.c 5 (by omega)⟩
  clear A2 B2
  have HB : Hid (Below W2.heap.size W2 W2.drew) := (Below.refl _ _).drew
  refine wp_region_held_drew (S := fun W' => W'.cell? ⟨w.heap.size, 0, none⟩ = some (.bool m) ∧ W'.cell? ⟨w.heap.size, 1, none⟩ = some (.int .i64 (d 0)) ∧ W'.cell? ⟨w.heap.size, 2, none⟩ = some (.int .i64 (d 1)) ∧ W'.cell? ⟨w.heap.size, 3, none⟩ = some (.int .i64 (d 2)) ∧ W'.cell? ⟨w.heap.size, 4, none⟩ = some (.int .i64 (d 3)) ∧ W'.cell? ⟨w.heap.size, 5, none⟩ = some (.int .i64 (d 4)) ∧ W'.cell? ⟨w.heap.size, 6, none⟩ = some (.int .i64 (d 5)) ∧ W'.cell? ⟨W1.heap.size, 0, none⟩ = some (.bool m1) ∧ W'.cell? ⟨W1.heap.size, 1, none⟩ = some (.int .i64 (d1 0)) ∧ W'.cell? ⟨W1.heap.size, 2, none⟩ = some (.int .i64 (d1 1)) ∧ W'.cell? ⟨W1.heap.size, 3, none⟩ = some (.int .i64 (d1 2)) ∧ W'.cell? ⟨W1.heap.size, 4, none⟩ = some (.int .i64 (d1 3)) ∧ W'.cell? ⟨W1.heap.size, 5, none⟩ = some (.int .i64 (d1 4)) ∧ W'.cell? ⟨W1.heap.size, 6, none⟩ = some (.int .i64 (d1 5))) (by kernel_rfl) (HK.out _ HB.out) (fun hHeld => ?_)
  refine wpAnyH_take (i := 0) (oi := { dst := some 8, op := Op.load 52 (Operand.tmp 2), type := 52, pos := "kinds.go:320", after := #[], guard := none }) (v := ?_) rfl (by kernel_rfl) (by kernel_rfl) (by kernel_rfl) (fun _ _ _ h => h) (Or.inl ⟨by rfl, ?_⟩) hHeld ?_
  rotate_left
  · (intro w hSw; (try dsimp only at hSw); go_simp; all_goals (try with_reducible rfl))
  try simp only [Act.put, List.setIfInBounds_toArray, List.set_cons_zero, List.set_cons_succ]
  refine wpAnyH_take (i := 2) (oi := { dst := some 10, op := Op.load 52 (Operand.tmp 6), type := 52, pos := "kinds.go:320", after := #[], guard := none }) (v := ?_) rfl (by kernel_rfl) (by kernel_rfl) (by kernel_rfl) (fun _ _ _ h => h) (Or.inl ⟨by rfl, ?_⟩) hHeld ?_
  rotate_left
  · (intro w hSw; (try dsimp only at hSw); go_simp; all_goals (try with_reducible rfl))
  try simp only [Act.put, List.setIfInBounds_toArray, List.set_cons_zero, List.set_cons_succ]
  refine wpAnyH_ready (rs := [1]) (by kernel_rfl) (by simp) ?_
  refine AllReadyH.cons (o := { dst := some 9, op := Op.call { callee := Callee.value (Operand.func 16), args := #[Operand.const (Value.int IntKind.i64 9223372036854775807)], argTypes := #[3] }, type := 52, pos := "kinds.go:320", after := #[], guard := none }) rfl (fun K hK => ?_) AllReadyH.nil
  go_simp
  refine Calls.mono (HO.out _ _ (by omega) (by omega)) ?_
  rintro e V1 ⟨v1, rfl, hv1, hb⟩
  have HV : Hid (IsBig v1 9223372036854775807) := hv1
  have HB : Hid (Below W2.heap.size W2 V1) := HB.out.trans (hb.mono HB.out.size)
  clear hb hv1
  go_wp2_with fail
  refine hK.out _ _ (HK.out _ HB.out) (fun hHeld => ?_)
  clear hK K
  try simp only [Act.put, List.setIfInBounds_toArray, List.set_cons_zero, List.set_cons_succ]
  refine wpAnyH_ready (rs := [3]) (by kernel_rfl) (by simp) ?_
  refine AllReadyH.cons (o := { dst := some 11, op := Op.call { callee := Callee.value (Operand.func 15), args := #[Operand.tmp 9, Operand.tmp 10], argTypes := #[52, 52] }, type := 52, pos := "kinds.go:320", after := #[{ on := 1, ground := Ground.data }, { on := 2, ground := Ground.data }, { on := 1, ground := Ground.chain }], guard := none }) rfl (fun K hK => ?_) AllReadyH.nil
  go_simp
  refine Calls.mono (HM.out _ _ _ _ HV.out HZ.out (by omega) (by omega)) ?_
  rintro e V1 ⟨v1, rfl, hv1, hb⟩
  have HV : Hid (IsBig v1 (9223372036854775807 * 4294967296)) := hv1
  have HB : Hid (Below W2.heap.size W2 V1) := HB.out.trans (hb.mono HB.out.size)
  clear hb hv1
  go_wp2_with fail
  refine hK.out _ _ (HK.out _ HB.out) (fun hHeld => ?_)
  clear hK K
  try simp only [Act.put, List.setIfInBounds_toArray, List.set_cons_zero, List.set_cons_succ]
  refine wpAnyH_ready (rs := [4]) (by kernel_rfl) (by simp) ?_
  refine AllReadyH.cons (o := { dst := some 12, op := Op.call { callee := Callee.value (Operand.func 29), args := #[Operand.tmp 8, Operand.tmp 11], argTypes := #[52, 52] }, type := 3, pos := "kinds.go:320", after := #[{ on := 0, ground := Ground.data }, { on := 3, ground := Ground.data }, { on := 3, ground := Ground.chain }], guard := none }) rfl (fun K hK => ?_) AllReadyH.nil
  go_simp
  refine Calls.mono (H1.out _ _ HV.out) ?_
  rintro e V1 ⟨rfl, hb⟩
  have HB : Hid (Below W2.heap.size W2 V1) := HB.out.trans (hb.mono HB.out.size)
  clear hb
  go_wp2_with fail
  refine hK.out _ _ (HK.out _ HB.out) (fun hHeld => ?_)
  clear hK K
  try simp only [Act.put, List.setIfInBounds_toArray, List.set_cons_zero, List.set_cons_succ]
  refine wpAnyH_take (i := 5) (oi := { dst := some 13, op := Op.binOp BinOp.gtr 3 (Operand.tmp 12) (Operand.const (Value.int IntKind.i64 0)) 3, type := 4, pos := "kinds.go:320", after := #[{ on := 4, ground := Ground.data }], guard := none }) (v := ?_) rfl (by kernel_rfl) (by kernel_rfl) (by kernel_rfl) (fun _ _ _ h => h) (Or.inl ⟨by rfl, ?_⟩) hHeld ?_
  rotate_left
  · (intro w hSw; (try dsimp only at hSw); go_simp; all_goals (try with_reducible rfl))
  try simp only [Act.put, List.setIfInBounds_toArray, List.set_cons_zero, List.set_cons_succ]
  refine wpAnyH_take (i := 6) (oi := { dst := some 14, op := Op.move (Operand.tmp 13), type := 4, pos := "kinds.go:320", after := #[{ on := 5, ground := Ground.data }, { on := 4, ground := Ground.chain }], guard := none }) (v := ?_) rfl (by kernel_rfl) (by kernel_rfl) (by kernel_rfl) (fun _ _ _ h => h) (Or.inl ⟨by rfl, ?_⟩) hHeld ?_
  rotate_left
  · (intro w hSw; (try dsimp only at hSw); go_simp; all_goals (try with_reducible rfl))
  try simp only [Act.put, List.setIfInBounds_toArray, List.set_cons_zero, List.set_cons_succ]
  refine wpAnyH_take (i := 7) (oi := { dst := some 15, op := Op.load 52 (Operand.tmp 2), type := 52, pos := "kinds.go:320", after := #[{ on := 6, ground := Ground.guard }], guard := some (6, false) }) (v := ?_) rfl (by kernel_rfl) (by kernel_rfl) (by kernel_rfl) (fun _ _ _ h => h) (Or.inl ⟨by rfl, ?_⟩) hHeld ?_
  rotate_left
  · (intro w hSw; (try dsimp only at hSw); go_simp; all_goals (try with_reducible rfl))
  try simp only [Act.put, List.setIfInBounds_toArray, List.set_cons_zero, List.set_cons_succ]
  refine wpAnyH_take (i := 9) (oi := { dst := some 17, op := Op.load 52 (Operand.tmp 6), type := 52, pos := "kinds.go:320", after := #[{ on := 6, ground := Ground.guard }], guard := some (6, false) }) (v := ?_) rfl (by kernel_rfl) (by kernel_rfl) (by kernel_rfl) (fun _ _ _ h => h) (Or.inl ⟨by rfl, ?_⟩) hHeld ?_
  rotate_left
  · (intro w hSw; (try dsimp only at hSw); go_simp; all_goals (try with_reducible rfl))
  try simp only [Act.put, List.setIfInBounds_toArray, List.set_cons_zero, List.set_cons_succ]
  refine wpAnyH_ready (rs := [8]) (by kernel_rfl) (by simp) ?_
  refine AllReadyH.cons (o := { dst := some 16, op := Op.call { callee := Callee.value (Operand.func 16), args := #[Operand.const (Value.int IntKind.i64 (-9223372036854775808))], argTypes := #[3] }, type := 52, pos := "kinds.go:320", after := #[{ on := 6, ground := Ground.chain }, { on := 6, ground := Ground.guard }], guard := some (6, false) }) rfl (fun K hK => ?_) AllReadyH.nil
  go_simp
  refine Calls.mono (HO.out _ _ (by omega) (by omega)) ?_
  rintro e V1 ⟨v2, rfl, hv1, hb⟩
  have HV : Hid (IsBig v2 (-9223372036854775808)) := hv1
  have HB : Hid (Below W2.heap.size W2 V1) := HB.out.trans (hb.mono HB.out.size)
  clear hb hv1
  go_wp2_with fail
  refine hK.out _ _ (HK.out _ HB.out) (fun hHeld => ?_)
  clear hK K
  try simp only [Act.put, List.setIfInBounds_toArray, List.set_cons_zero, List.set_cons_succ]
  refine wpAnyH_ready (rs := [10]) (by kernel_rfl) (by simp) ?_
  refine AllReadyH.cons (o := { dst := some 18, op := Op.call { callee := Callee.value (Operand.func 15), args := #[Operand.tmp 16, Operand.tmp 17], argTypes := #[52, 52] }, type := 52, pos := "kinds.go:320", after := #[{ on := 8, ground := Ground.data }, { on := 9, ground := Ground.data }, { on := 8, ground := Ground.chain }, { on := 6, ground := Ground.guard }], guard := some (6, false) }) rfl (fun K hK => ?_) AllReadyH.nil
  go_simp
  refine Calls.mono (HM.out _ _ _ _ HV.out HZ.out (by omega) (by omega)) ?_
  rintro e V1 ⟨v3, rfl, hv1, hb⟩
  have HV : Hid (IsBig v3 (-9223372036854775808 * 4294967296)) := hv1
  have HB : Hid (Below W2.heap.size W2 V1) := HB.out.trans (hb.mono HB.out.size)
  clear hb hv1
  go_wp2_with fail
  refine hK.out _ _ (HK.out _ HB.out) (fun hHeld => ?_)
  clear hK K
  try simp only [Act.put, List.setIfInBounds_toArray, List.set_cons_zero, List.set_cons_succ]
  refine wpAnyH_ready (rs := [11]) (by kernel_rfl) (by simp) ?_
  refine AllReadyH.cons (o := { dst := some 19, op := Op.call { callee := Callee.value (Operand.func 29), args := #[Operand.tmp 15, Operand.tmp 18], argTypes := #[52, 52] }, type := 3, pos := "kinds.go:320", after := #[{ on := 7, ground := Ground.data }, { on := 10, ground := Ground.data }, { on := 10, ground := Ground.chain }, { on := 6, ground := Ground.guard }], guard := some (6, false) }) rfl (fun K hK => ?_) AllReadyH.nil
  go_simp
  refine Calls.mono (H2.out _ _ HV.out) ?_
  rintro e V1 ⟨rfl, hb⟩
  have HB : Hid (Below W2.heap.size W2 V1) := HB.out.trans (hb.mono HB.out.size)
  clear hb
  go_wp2_with fail
  refine hK.out _ _ (HK.out _ HB.out) (fun hHeld => ?_)
  clear hK K
  try simp only [Act.put, List.setIfInBounds_toArray, List.set_cons_zero, List.set_cons_succ]
  refine wpAnyH_take (i := 12) (oi := { dst := some 20, op := Op.binOp BinOp.lss 3 (Operand.tmp 19) (Operand.const (Value.int IntKind.i64 0)) 3, type := 4, pos := "kinds.go:320", after := #[{ on := 11, ground := Ground.data }, { on := 6, ground := Ground.guard }], guard := some (6, false) }) (v := ?_) rfl (by kernel_rfl) (by kernel_rfl) (by kernel_rfl) (fun _ _ _ h => h) (Or.inl ⟨by rfl, ?_⟩) hHeld ?_
  rotate_left
  · (intro w hSw; (try dsimp only at hSw); go_simp; all_goals (try with_reducible rfl))
  try simp only [Act.put, List.setIfInBounds_toArray, List.set_cons_zero, List.set_cons_succ]
  refine wpAnyH_take (i := 13) (oi := { dst := some 21, op := Op.pick (Operand.tmp 14) (Operand.const (Value.bool true)) (Operand.tmp 20), type := 4, pos := "kinds.go:320", after := #[{ on := 6, ground := Ground.data }, { on := 12, ground := Ground.data }], guard := none }) (v := ?_) rfl (by kernel_rfl) (by kernel_rfl) (by kernel_rfl) (fun _ _ _ h => h) (Or.inl ⟨by rfl, ?_⟩) hHeld ?_
  rotate_left
  · (intro w hSw; (try dsimp only at hSw); go_simp; all_goals (try with_reducible rfl))
  try simp only [Act.put, List.setIfInBounds_toArray, List.set_cons_zero, List.set_cons_succ]
  refine wpAnyH_done (by kernel_rfl) ?_ _
  clear hHeld
  go_wp2_with fail
  have HB : Hid (Below W2.heap.size W2 _) := HB.out.drew
  refine wp_region_held_drew (S := fun W' => W'.cell? ⟨w.heap.size, 0, none⟩ = some (.bool m) ∧ W'.cell? ⟨w.heap.size, 1, none⟩ = some (.int .i64 (d 0)) ∧ W'.cell? ⟨w.heap.size, 2, none⟩ = some (.int .i64 (d 1)) ∧ W'.cell? ⟨w.heap.size, 3, none⟩ = some (.int .i64 (d 2)) ∧ W'.cell? ⟨w.heap.size, 4, none⟩ = some (.int .i64 (d 3)) ∧ W'.cell? ⟨w.heap.size, 5, none⟩ = some (.int .i64 (d 4)) ∧ W'.cell? ⟨w.heap.size, 6, none⟩ = some (.int .i64 (d 5)) ∧ W'.cell? ⟨W1.heap.size, 0, none⟩ = some (.bool m1) ∧ W'.cell? ⟨W1.heap.size, 1, none⟩ = some (.int .i64 (d1 0)) ∧ W'.cell? ⟨W1.heap.size, 2, none⟩ = some (.int .i64 (d1 1)) ∧ W'.cell? ⟨W1.heap.size, 3, none⟩ = some (.int .i64 (d1 2)) ∧ W'.cell? ⟨W1.heap.size, 4, none⟩ = some (.int .i64 (d1 3)) ∧ W'.cell? ⟨W1.heap.size, 5, none⟩ = some (.int .i64 (d1 4)) ∧ W'.cell? ⟨W1.heap.size, 6, none⟩ = some (.int .i64 (d1 5))) (by kernel_rfl) (HK.out _ HB.out) (fun hHeld => ?_)
  refine wpAnyH_take (i := 0) (oi := { dst := some 22, op := Op.load 52 (Operand.tmp 2), type := 52, pos := "kinds.go:323", after := #[], guard := none }) (v := ?_) rfl (by kernel_rfl) (by kernel_rfl) (by kernel_rfl) (fun _ _ _ h => h) (Or.inl ⟨by rfl, ?_⟩) hHeld ?_
  rotate_left
  · (intro w hSw; (try dsimp only at hSw); go_simp; all_goals (try with_reducible rfl))
  try simp only [Act.put, List.setIfInBounds_toArray, List.set_cons_zero, List.set_cons_succ]
  refine wpAnyH_take (i := 1) (oi := { dst := some 23, op := Op.move (Operand.tmp 1), type := 3, pos := "kinds.go:323", after := #[], guard := none }) (v := ?_) rfl (by kernel_rfl) (by kernel_rfl) (by kernel_rfl) (fun _ _ _ h => h) (Or.inl ⟨by rfl, ?_⟩) hHeld ?_
  rotate_left
  · (intro w hSw; (try dsimp only at hSw); go_simp; all_goals (try with_reducible rfl))
  try simp only [Act.put, List.setIfInBounds_toArray, List.set_cons_zero, List.set_cons_succ]
  refine wpAnyH_take (i := 3) (oi := { dst := some 25, op := Op.load 52 (Operand.tmp 6), type := 52, pos := "kinds.go:323", after := #[], guard := none }) (v := ?_) rfl (by kernel_rfl) (by kernel_rfl) (by kernel_rfl) (fun _ _ _ h => h) (Or.inl ⟨by rfl, ?_⟩) hHeld ?_
  rotate_left
  · (intro w hSw; (try dsimp only at hSw); go_simp; all_goals (try with_reducible rfl))
  try simp only [Act.put, List.setIfInBounds_toArray, List.set_cons_zero, List.set_cons_succ]
  refine wpAnyH_ready (rs := [2]) (by kernel_rfl) (by simp) ?_
  refine AllReadyH.cons (o := { dst := some 24, op := Op.call { callee := Callee.value (Operand.func 16), args := #[Operand.tmp 23], argTypes := #[3] }, type := 52, pos := "kinds.go:323", after := #[{ on := 1, ground := Ground.data }], guard := none }) rfl (fun K hK => ?_) AllReadyH.nil
  go_simp
  refine Calls.mono (HO.out _ _ HN.out.1 HN.out.2) ?_
  rintro e V1 ⟨v4, rfl, hv1, hb⟩
  have HV : Hid (IsBig v4 num) := hv1
  have HB : Hid (Below W2.heap.size W2 V1) := HB.out.trans (hb.mono HB.out.size)
  clear hb hv1
  go_wp2_with fail
  refine hK.out _ _ (HK.out _ HB.out) (fun hHeld => ?_)
  clear hK K
  try simp only [Act.put, List.setIfInBounds_toArray, List.set_cons_zero, List.set_cons_succ]
  refine wpAnyH_ready (rs := [4]) (by kernel_rfl) (by simp) ?_
  refine AllReadyH.cons (o := { dst := some 26, op := Op.call { callee := Callee.value (Operand.func 15), args := #[Operand.tmp 24, Operand.tmp 25], argTypes := #[52, 52] }, type := 52, pos := "kinds.go:323", after := #[{ on := 2, ground := Ground.data }, { on := 3, ground := Ground.data }, { on := 2, ground := Ground.chain }], guard := none }) rfl (fun K hK => ?_) AllReadyH.nil
  go_simp
  refine Calls.mono (HM.out _ _ _ _ HV.out HZ.out HN.out.1 HN.out.2) ?_
  rintro e V1 ⟨v5, rfl, hv1, hb⟩
  have HV : Hid (IsBig v5 (num * 4294967296)) := hv1
  have HB : Hid (Below W2.heap.size W2 V1) := HB.out.trans (hb.mono HB.out.size)
  clear hb hv1
  go_wp2_with fail
  refine hK.out _ _ (HK.out _ HB.out) (fun hHeld => ?_)
  clear hK K
  try simp only [Act.put, List.setIfInBounds_toArray, List.set_cons_zero, List.set_cons_succ]
  refine wpAnyH_ready (rs := [5]) (by kernel_rfl) (by simp) ?_
  refine AllReadyH.cons (o := { dst := some 27, op := Op.call { callee := Callee.value (Operand.func 29), args := #[Operand.tmp 22, Operand.tmp 26], argTypes := #[52, 52] }, type := 3, pos := "kinds.go:323", after := #[{ on := 0, ground := Ground.data }, { on := 4, ground := Ground.data }, { on := 4, ground := Ground.chain }], guard := none }) rfl (fun K hK => ?_) AllReadyH.nil
  go_simp
  refine Calls.mono (H3.out _ _ HV.out) ?_
  rintro e V1 ⟨rfl, hb⟩
  have HB : Hid (Below W2.heap.size W2 V1) := HB.out.trans (hb.mono HB.out.size)
  clear hb
  go_wp2_with fail
  refine hK.out _ _ (HK.out _ HB.out) (fun hHeld => ?_)
  clear hK K
  try simp only [Act.put, List.setIfInBounds_toArray, List.set_cons_zero, List.set_cons_succ]
  refine wpAnyH_take (i := 6) (oi := { dst := some 28, op := Op.binOp BinOp.leq 3 (Operand.tmp 27) (Operand.const (Value.int IntKind.i64 0)) 3, type := 4, pos := "kinds.go:323", after := #[{ on := 5, ground := Ground.data }], guard := none }) (v := ?_) rfl (by kernel_rfl) (by kernel_rfl) (by kernel_rfl) (fun _ _ _ h => h) (Or.inl ⟨by rfl, ?_⟩) hHeld ?_
  rotate_left
  · (intro w hSw; (try dsimp only at hSw); go_simp; all_goals (try with_reducible rfl))
  try simp only [Act.put, List.setIfInBounds_toArray, List.set_cons_zero, List.set_cons_succ]
  refine wpAnyH_take (i := 7) (oi := { dst := some 4, op := Op.assign (Operand.tmp 28), type := 4, pos := "kinds.go:323", after := #[{ on := 6, ground := Ground.data }, { on := 5, ground := Ground.chain }, { on := 0, ground := Ground.phase }, { on := 1, ground := Ground.phase }, { on := 2, ground := Ground.phase }, { on := 3, ground := Ground.phase }, { on := 4, ground := Ground.phase }, { on := 5, ground := Ground.phase }, { on := 6, ground := Ground.phase }], guard := none }) (v := ?_) rfl (by kernel_rfl) (by kernel_rfl) (by kernel_rfl) (fun _ _ _ h => h) (Or.inl ⟨by rfl, ?_⟩) hHeld ?_
  rotate_left
  · (intro w hSw; (try dsimp only at hSw); go_simp; all_goals (try with_reducible rfl))
  try simp only [Act.put, List.setIfInBounds_toArray, List.set_cons_zero, List.set_cons_succ]
  refine wpAnyH_take (i := 8) (oi := { dst := some 5, op := Op.assign (Operand.const (Value.bool false)), type := 4, pos := "kinds.go:323", after := #[{ on := 7, ground := Ground.chain }, { on := 0, ground := Ground.phase }, { on := 1, ground := Ground.phase }, { on := 2, ground := Ground.phase }, { on := 3, ground := Ground.phase }, { on := 4, ground := Ground.phase }, { on := 5, ground := Ground.phase }, { on := 6, ground := Ground.phase }, { on := 7, ground := Ground.phase }], guard := none }) (v := ?_) rfl (by kernel_rfl) (by kernel_rfl) (by kernel_rfl) (fun _ _ _ h => h) (Or.inl ⟨by rfl, ?_⟩) hHeld ?_
  rotate_left
  · (intro w hSw; (try dsimp only at hSw); go_simp; all_goals (try with_reducible rfl))
  try simp only [Act.put, List.setIfInBounds_toArray, List.set_cons_zero, List.set_cons_succ]
  refine wpAnyH_done (by kernel_rfl) ?_ _
  clear hHeld
  go_wp2
  exact bodyPost_ret (v := .tuple #[.bool (decide (k3 ≤ 0)), .bool false]) (by simp [results, Try.results17, go_sem]) rfl ⟨rfl, HW2.out.trans (HB.out.mono HW2.out.size)⟩
set_option maxHeartbeats 8000000 in
theorem judge_mp (m : Bool) (d : Nat → Int) (num k3 : Int) (w : World) (hn : B64 num)
    (HM : Hid (∀ u z c X, IsBig u c → IsBig z 4294967296 → -9223372036854775808 ≤ c → c ≤ 9223372036854775807 → Calls Try.prog 15 #[u, z] X fun e X' => ∃ v', e = .returned v' ∧ IsBig v' (c * 4294967296) ∧ Below X.heap.size X X'))
    (H1 : Hid (∀ z X, IsBig z (9223372036854775807 * 4294967296) → Calls Try.prog 29 #[bigC m d, z] X fun e X' => e = .returned (.int .i64 (-1)) ∧ Below X.heap.size X X'))
    (H2 : Hid (∀ z X, IsBig z (-9223372036854775808 * 4294967296) → Calls Try.prog 29 #[bigC m d, z] X fun e X' => e = .returned (.int .i64 1) ∧ Below X.heap.size X X'))
    (H3 : Hid (∀ z X, IsBig z (num * 4294967296) → Calls Try.prog 29 #[bigC m d, z] X fun e X' => e = .returned (.int .i64 k3) ∧ Below X.heap.size X X')) :
    Calls Try.prog 17 #[bigC m d, .int .i64 num] w fun e w' => e = .returned (.tuple #[.bool (decide (k3 ≤ 0)), .bool false]) ∧ Below w.heap.size w w' := by
  unfold bigC at *
  have HO : Hid (∀ c X, -9223372036854775808 ≤ c → c ≤ 9223372036854775807 → Calls Try.prog 16 #[.int .i64 c] X fun e X' => ∃ v', e = .returned v' ∧ IsBig v' c ∧ Below X.heap.size X X') := fun c X a b => of_big c X a b
  have HN : Hid (B64 num) := hn
  clear hn
  go_enter Try.func17, Try.ntmps17
  go_wp2_with fail
  refine Calls.mono (HO.out 4294967296 _ (by omega) (by omega)) ?_
  rintro e W1 ⟨z, rfl, hz, hw⟩
  have HZ : Hid (IsBig z 4294967296) := hz
  obtain ⟨m1, d1, rfl, hd1, hd2, hd3⟩ := hz
  clear hd1 hd2 hd3
  have HW1 : Hid (Below w.heap.size w W1) := ((Below.refl _ _).alloc (Nat.le_refl _) _).trans (hw.mono (by simp))
  have A1 : BigAt W1 w.heap.size m d := BigAt.below (bigAt_of (by simp [go_sem]) (by simp [go_sem]) (by simp [go_sem]) (by simp [go_sem]) (by simp [go_sem]) (by simp [go_sem]) (by simp [go_sem]) (fun j => by simp [go_sem])) hw
  have HA1 : Hid (BigAt W1 w.heap.size m d) := A1
  clear hw A1
  go_wp2_with fail
  obtain ⟨W2, hW2⟩ : ∃ Z, (W1.alloc (.cells #[.bool m1, .int .i64 (d1 0), .int .i64 (d1 1), .int .i64 (d1 2), .int .i64 (d1 3), .int .i64 (d1 4), .int .i64 (d1 5)] 52)) = Z := ⟨_, rfl⟩
  have A2 : BigAt W2 w.heap.size m d := by rw [← hW2]; exact HA1.out.below ((Below.refl _ _).alloc (Nat.le_refl _) _)
  have B2 : BigAt W2 W1.heap.size m1 d1 := by rw [← hW2]; exact bigAt_of (by simp [go_sem]) (by simp [go_sem]) (by simp [go_sem]) (by simp [go_sem]) (by simp [go_sem]) (by simp [go_sem]) (by simp [go_sem]) (fun j => by simp [go_sem])
  have HW2 : Hid (Below w.heap.size w W2) := by rw [← hW2]; exact HW1.out.alloc HW1.out.size _
  rw [hW2]
  clear hW2 HA1
  have HK : Hid (∀ W', Below W2.heap.size W2 W' → W'.cell? ⟨w.heap.size, 0, none⟩ = some (.bool m) ∧ W'.cell? ⟨w.heap.size, 1, none⟩ = some (.int .i64 (d 0)) ∧ W'.cell? ⟨w.heap.size, 2, none⟩ = some (.int .i64 (d 1)) ∧ W'.cell? ⟨w.heap.size, 3, none⟩ = some (.int .i64 (d 2)) ∧ W'.cell? ⟨w.heap.size, 4, none⟩ = some (.int .i64 (d 3)) ∧ W'.cell? ⟨w.heap.size, 5, none⟩ = some (.int .i64 (d 4)) ∧ W'.cell? ⟨w.heap.size, 6, none⟩ = some (.int .i64 (d 5)) ∧ W'.cell? ⟨W1.heap.size, 0, none⟩ = some (.bool m1) ∧ W'.cell? ⟨W1.heap.size, 1, none⟩ = some (.int .i64 (d1 0)) ∧ W'.cell? ⟨W1.heap.size, 2, none⟩ = some (.int .i64 (d1 1)) ∧ W'.cell? ⟨W1.heap.size, 3, none⟩ = some (.int .i64 (d1 2)) ∧ W'.cell? ⟨W1.heap.size, 4, none⟩ = some (.int .i64 (d1 3)) ∧ W'.cell? ⟨W1.heap.size, 5, none⟩ = some (.int .i64 (d1 4)) ∧ W'.cell? ⟨W1.heap.size, 6, none⟩ = some (.int .i64 (d1 5))) := by
    intro W' hb
    have A3 := A2.below hb
    have B3 := B2.below hb
    exact ⟨A3.s, A3.c 0 (by omega), A3.c 1 (by omega), A3.c 2 (by omega), A3.c 3 (by omega), A3.c 4 (by omega), A3.c 5 (by omega), B3.s, B3.c 0 (by omega), B3.c 1 (by omega), B3.c 2 (by omega), B3.c 3 (by omega), B3.c 4 (by omega), B3.c 5 (by omega)⟩
  clear A2 B2
  have HB : Hid (Below W2.heap.size W2 W2.drew) := (Below.refl _ _).drew
  refine wp_region_held_drew (S := fun W' => W'.cell? ⟨w.heap.size, 0, none⟩ = some (.bool m) ∧ W'.cell? ⟨w.heap.size, 1, none⟩ = some (.int .i64 (d 0)) ∧ W'.cell? ⟨w.heap.size, 2, none⟩ = some (.int .i64 (d 1)) ∧ W'.cell? ⟨w.heap.size, 3, none⟩ = some (.int .i64 (d 2)) ∧ W'.cell? ⟨w.heap.size, 4, none⟩ = some (.int .i64 (d 3)) ∧ W'.cell? ⟨w.heap.size, 5, none⟩ = some (.int .i64 (d 4)) ∧ W'.cell? ⟨w.heap.size, 6, none⟩ = some (.int .i64 (d 5)) ∧ W'.cell? ⟨W1.heap.size, 0, none⟩ = some (.bool m1) ∧ W'.cell? ⟨W1.heap.size, 1, none⟩ = some (.int .i64 (d1 0)) ∧ W'.cell? ⟨W1.heap.size, 2, none⟩ = some (.int .i64 (d1 1)) ∧ W'.cell? ⟨W1.heap.size, 3, none⟩ = some (.int .i64 (d1 2)) ∧ W'.cell? ⟨W1.heap.size, 4, none⟩ = some (.int .i64 (d1 3)) ∧ W'.cell? ⟨W1.heap.size, 5, none⟩ = some (.int .i64 (d1 4)) ∧ W'.cell? ⟨W1.heap.size, 6, none⟩ = some (.int .i64 (d1 5))) (by kernel_rfl) (HK.out _ HB.out) (fun hHeld => ?_)
  refine wpAnyH_take (i := 0) (oi := { dst := some 8, op := Op.load 52 (Operand.tmp 2), type := 52, pos := "kinds.go:320", after := #[], guard := none }) (v := ?_) rfl (by kernel_rfl) (by kernel_rfl) (by kernel_rfl) (fun _ _ _ h => h) (Or.inl ⟨by rfl, ?_⟩) hHeld ?_
  rotate_left
  · (intro w hSw; (try dsimp only at hSw); go_simp; all_goals (try with_reducible rfl))
  try simp only [Act.put, List.setIfInBounds_toArray, List.set_cons_zero, List.set_cons_succ]
  refine wpAnyH_take (i := 2) (oi := { dst := some 10, op := Op.load 52 (Operand.tmp 6), type := 52, pos := "kinds.go:320", after := #[], guard := none }) (v := ?_) rfl (by kernel_rfl) (by kernel_rfl) (by kernel_rfl) (fun _ _ _ h => h) (Or.inl ⟨by rfl, ?_⟩) hHeld ?_
  rotate_left
  · (intro w hSw; (try dsimp only at hSw); go_simp; all_goals (try with_reducible rfl))
  try simp only [Act.put, List.setIfInBounds_toArray, List.set_cons_zero, List.set_cons_succ]
  refine wpAnyH_ready (rs := [1]) (by kernel_rfl) (by simp) ?_
  refine AllReadyH.cons (o := { dst := some 9, op := Op.call { callee := Callee.value (Operand.func 16), args := #[Operand.const (Value.int IntKind.i64 9223372036854775807)], argTypes := #[3] }, type := 52, pos := "kinds.go:320", after := #[], guard := none }) rfl (fun K hK => ?_) AllReadyH.nil
  go_simp
  refine Calls.mono (HO.out _ _ (by omega) (by omega)) ?_
  rintro e V1 ⟨v1, rfl, hv1, hb⟩
  have HV : Hid (IsBig v1 9223372036854775807) := hv1
  have HB : Hid (Below W2.heap.size W2 V1) := HB.out.trans (hb.mono HB.out.size)
  clear hb hv1
  go_wp2_with fail
  refine hK.out _ _ (HK.out _ HB.out) (fun hHeld => ?_)
  clear hK K
  try simp only [Act.put, List.setIfInBounds_toArray, List.set_cons_zero, List.set_cons_succ]
  refine wpAnyH_ready (rs := [3]) (by kernel_rfl) (by simp) ?_
  refine AllReadyH.cons (o := { dst := some 11, op := Op.call { callee := Callee.value (Operand.func 15), args := #[Operand.tmp 9, Operand.tmp 10], argTypes := #[52, 52] }, type := 52, pos := "kinds.go:320", after := #[{ on := 1, ground := Ground.data }, { on := 2, ground := Ground.data }, { on := 1, ground := Ground.chain }], guard := none }) rfl (fun K hK => ?_) AllReadyH.nil
  go_simp
  refine Calls.mono (HM.out _ _ _ _ HV.out HZ.out (by omega) (by omega)) ?_
  rintro e V1 ⟨v1, rfl, hv1, hb⟩
  have HV : Hid (IsBig v1 (9223372036854775807 * 4294967296)) := hv1
  have HB : Hid (Below W2.heap.size W2 V1) := HB.out.trans (hb.mono HB.out.size)
  clear hb hv1
  go_wp2_with fail
  refine hK.out _ _ (HK.out _ HB.out) (fun hHeld => ?_)
  clear hK K
  try simp only [Act.put, List.setIfInBounds_toArray, List.set_cons_zero, List.set_cons_succ]
  refine wpAnyH_ready (rs := [4]) (by kernel_rfl) (by simp) ?_
  refine AllReadyH.cons (o := { dst := some 12, op := Op.call { callee := Callee.value (Operand.func 29), args := #[Operand.tmp 8, Operand.tmp 11], argTypes := #[52, 52] }, type := 3, pos := "kinds.go:320", after := #[{ on := 0, ground := Ground.data }, { on := 3, ground := Ground.data }, { on := 3, ground := Ground.chain }], guard := none }) rfl (fun K hK => ?_) AllReadyH.nil
  go_simp
  refine Calls.mono (H1.out _ _ HV.out) ?_
  rintro e V1 ⟨rfl, hb⟩
  have HB : Hid (Below W2.heap.size W2 V1) := HB.out.trans (hb.mono HB.out.size)
  clear hb
  go_wp2_with fail
  refine hK.out _ _ (HK.out _ HB.out) (fun hHeld => ?_)
  clear hK K
  try simp only [Act.put, List.setIfInBounds_toArray, List.set_cons_zero, List.set_cons_succ]
  refine wpAnyH_take (i := 5) (oi := { dst := some 13, op := Op.binOp BinOp.gtr 3 (Operand.tmp 12) (Operand.const (Value.int IntKind.i64 0)) 3, type := 4, pos := "kinds.go:320", after := #[{ on := 4, ground := Ground.data }], guard := none }) (v := ?_) rfl (by kernel_rfl) (by kernel_rfl) (by kernel_rfl) (fun _ _ _ h => h) (Or.inl ⟨by rfl, ?_⟩) hHeld ?_
  rotate_left
  · (intro w hSw; (try dsimp only at hSw); go_simp; all_goals (try with_reducible rfl))
  try simp only [Act.put, List.setIfInBounds_toArray, List.set_cons_zero, List.set_cons_succ]
  refine wpAnyH_take (i := 6) (oi := { dst := some 14, op := Op.move (Operand.tmp 13), type := 4, pos := "kinds.go:320", after := #[{ on := 5, ground := Ground.data }, { on := 4, ground := Ground.chain }], guard := none }) (v := ?_) rfl (by kernel_rfl) (by kernel_rfl) (by kernel_rfl) (fun _ _ _ h => h) (Or.inl ⟨by rfl, ?_⟩) hHeld ?_
  rotate_left
  · (intro w hSw; (try dsimp only at hSw); go_simp; all_goals (try with_reducible rfl))
  try simp only [Act.put, List.setIfInBounds_toArray, List.set_cons_zero, List.set_cons_succ]
  refine wpAnyH_take (i := 7) (oi := { dst := some 15, op := Op.load 52 (Operand.tmp 2), type := 52, pos := "kinds.go:320", after := #[{ on := 6, ground := Ground.guard }], guard := some (6, false) }) (v := ?_) rfl (by kernel_rfl) (by kernel_rfl) (by kernel_rfl) (fun _ _ _ h => h) (Or.inl ⟨by rfl, ?_⟩) hHeld ?_
  rotate_left
  · (intro w hSw; (try dsimp only at hSw); go_simp; all_goals (try with_reducible rfl))
  try simp only [Act.put, List.setIfInBounds_toArray, List.set_cons_zero, List.set_cons_succ]
  refine wpAnyH_take (i := 9) (oi := { dst := some 17, op := Op.load 52 (Operand.tmp 6), type := 52, pos := "kinds.go:320", after := #[{ on := 6, ground := Ground.guard }], guard := some (6, false) }) (v := ?_) rfl (by kernel_rfl) (by kernel_rfl) (by kernel_rfl) (fun _ _ _ h => h) (Or.inl ⟨by rfl, ?_⟩) hHeld ?_
  rotate_left
  · (intro w hSw; (try dsimp only at hSw); go_simp; all_goals (try with_reducible rfl))
  try simp only [Act.put, List.setIfInBounds_toArray, List.set_cons_zero, List.set_cons_succ]
  refine wpAnyH_ready (rs := [8]) (by kernel_rfl) (by simp) ?_
  refine AllReadyH.cons (o := { dst := some 16, op := Op.call { callee := Callee.value (Operand.func 16), args := #[Operand.const (Value.int IntKind.i64 (-9223372036854775808))], argTypes := #[3] }, type := 52, pos := "kinds.go:320", after := #[{ on := 6, ground := Ground.chain }, { on := 6, ground := Ground.guard }], guard := some (6, false) }) rfl (fun K hK => ?_) AllReadyH.nil
  go_simp
  refine Calls.mono (HO.out _ _ (by omega) (by omega)) ?_
  rintro e V1 ⟨v2, rfl, hv1, hb⟩
  have HV : Hid (IsBig v2 (-9223372036854775808)) := hv1
  have HB : Hid (Below W2.heap.size W2 V1) := HB.out.trans (hb.mono HB.out.size)
  clear hb hv1
  go_wp2_with fail
  refine hK.out _ _ (HK.out _ HB.out) (fun hHeld => ?_)
  clear hK K
  try simp only [Act.put, List.setIfInBounds_toArray, List.set_cons_zero, List.set_cons_succ]
  refine wpAnyH_ready (rs := [10]) (by kernel_rfl) (by simp) ?_
  refine AllReadyH.cons (o := { dst := some 18, op := Op.call { callee := Callee.value (Operand.func 15), args := #[Operand.tmp 16, Operand.tmp 17], argTypes := #[52, 52] }, type := 52, pos := "kinds.go:320", after := #[{ on := 8, ground := Ground.data }, { on := 9, ground := Ground.data }, { on := 8, ground := Ground.chain }, { on := 6, ground := Ground.guard }], guard := some (6, false) }) rfl (fun K hK => ?_) AllReadyH.nil
  go_simp
  refine Calls.mono (HM.out _ _ _ _ HV.out HZ.out (by omega) (by omega)) ?_
  rintro e V1 ⟨v3, rfl, hv1, hb⟩
  have HV : Hid (IsBig v3 (-9223372036854775808 * 4294967296)) := hv1
  have HB : Hid (Below W2.heap.size W2 V1) := HB.out.trans (hb.mono HB.out.size)
  clear hb hv1
  go_wp2_with fail
  refine hK.out _ _ (HK.out _ HB.out) (fun hHeld => ?_)
  clear hK K
  try simp only [Act.put, List.setIfInBounds_toArray, List.set_cons_zero, List.set_cons_succ]
  refine wpAnyH_ready (rs := [11]) (by kernel_rfl) (by simp) ?_
  refine AllReadyH.cons (o := { dst := some 19, op := Op.call { callee := Callee.value (Operand.func 29), args := #[Operand.tmp 15, Operand.tmp 18], argTypes := #[52, 52] }, type := 3, pos := "kinds.go:320", after := #[{ on := 7, ground := Ground.data }, { on := 10, ground := Ground.data }, { on := 10, ground := Ground.chain }, { on := 6, ground := Ground.guard }], guard := some (6, false) }) rfl (fun K hK => ?_) AllReadyH.nil
  go_simp
  refine Calls.mono (H2.out _ _ HV.out) ?_
  rintro e V1 ⟨rfl, hb⟩
  have HB : Hid (Below W2.heap.size W2 V1) := HB.out.trans (hb.mono HB.out.size)
  clear hb
  go_wp2_with fail
  refine hK.out _ _ (HK.out _ HB.out) (fun hHeld => ?_)
  clear hK K
  try simp only [Act.put, List.setIfInBounds_toArray, List.set_cons_zero, List.set_cons_succ]
  refine wpAnyH_take (i := 12) (oi := { dst := some 20, op := Op.binOp BinOp.lss 3 (Operand.tmp 19) (Operand.const (Value.int IntKind.i64 0)) 3, type := 4, pos := "kinds.go:320", after := #[{ on := 11, ground := Ground.data }, { on := 6, ground := Ground.guard }], guard := some (6, false) }) (v := ?_) rfl (by kernel_rfl) (by kernel_rfl) (by kernel_rfl) (fun _ _ _ h => h) (Or.inl ⟨by rfl, ?_⟩) hHeld ?_
  rotate_left
  · (intro w hSw; (try dsimp only at hSw); go_simp; all_goals (try with_reducible rfl))
  try simp only [Act.put, List.setIfInBounds_toArray, List.set_cons_zero, List.set_cons_succ]
  refine wpAnyH_take (i := 13) (oi := { dst := some 21, op := Op.pick (Operand.tmp 14) (Operand.const (Value.bool true)) (Operand.tmp 20), type := 4, pos := "kinds.go:320", after := #[{ on := 6, ground := Ground.data }, { on := 12, ground := Ground.data }], guard := none }) (v := ?_) rfl (by kernel_rfl) (by kernel_rfl) (by kernel_rfl) (fun _ _ _ h => h) (Or.inl ⟨by rfl, ?_⟩) hHeld ?_
  rotate_left
  · (intro w hSw; (try dsimp only at hSw); go_simp; all_goals (try with_reducible rfl))
  try simp only [Act.put, List.setIfInBounds_toArray, List.set_cons_zero, List.set_cons_succ]
  refine wpAnyH_done (by kernel_rfl) ?_ _
  clear hHeld
  go_wp2_with fail
  have HB : Hid (Below W2.heap.size W2 _) := HB.out.drew
  refine wp_region_held_drew (S := fun W' => W'.cell? ⟨w.heap.size, 0, none⟩ = some (.bool m) ∧ W'.cell? ⟨w.heap.size, 1, none⟩ = some (.int .i64 (d 0)) ∧ W'.cell? ⟨w.heap.size, 2, none⟩ = some (.int .i64 (d 1)) ∧ W'.cell? ⟨w.heap.size, 3, none⟩ = some (.int .i64 (d 2)) ∧ W'.cell? ⟨w.heap.size, 4, none⟩ = some (.int .i64 (d 3)) ∧ W'.cell? ⟨w.heap.size, 5, none⟩ = some (.int .i64 (d 4)) ∧ W'.cell? ⟨w.heap.size, 6, none⟩ = some (.int .i64 (d 5)) ∧ W'.cell? ⟨W1.heap.size, 0, none⟩ = some (.bool m1) ∧ W'.cell? ⟨W1.heap.size, 1, none⟩ = some (.int .i64 (d1 0)) ∧ W'.cell? ⟨W1.heap.size, 2, none⟩ = some (.int .i64 (d1 1)) ∧ W'.cell? ⟨W1.heap.size, 3, none⟩ = some (.int .i64 (d1 2)) ∧ W'.cell? ⟨W1.heap.size, 4, none⟩ = some (.int .i64 (d1 3)) ∧ W'.cell? ⟨W1.heap.size, 5, none⟩ = some (.int .i64 (d1 4)) ∧ W'.cell? ⟨W1.heap.size, 6, none⟩ = some (.int .i64 (d1 5))) (by kernel_rfl) (HK.out _ HB.out) (fun hHeld => ?_)
  refine wpAnyH_take (i := 0) (oi := { dst := some 22, op := Op.load 52 (Operand.tmp 2), type := 52, pos := "kinds.go:323", after := #[], guard := none }) (v := ?_) rfl (by kernel_rfl) (by kernel_rfl) (by kernel_rfl) (fun _ _ _ h => h) (Or.inl ⟨by rfl, ?_⟩) hHeld ?_
  rotate_left
  · (intro w hSw; (try dsimp only at hSw); go_simp; all_goals (try with_reducible rfl))
  try simp only [Act.put, List.setIfInBounds_toArray, List.set_cons_zero, List.set_cons_succ]
  refine wpAnyH_take (i := 1) (oi := { dst := some 23, op := Op.move (Operand.tmp 1), type := 3, pos := "kinds.go:323", after := #[], guard := none }) (v := ?_) rfl (by kernel_rfl) (by kernel_rfl) (by kernel_rfl) (fun _ _ _ h => h) (Or.inl ⟨by rfl, ?_⟩) hHeld ?_
  rotate_left
  · (intro w hSw; (try dsimp only at hSw); go_simp; all_goals (try with_reducible rfl))
  try simp only [Act.put, List.setIfInBounds_toArray, List.set_cons_zero, List.set_cons_succ]
  refine wpAnyH_take (i := 3) (oi := { dst := some 25, op := Op.load 52 (Operand.tmp 6), type := 52, pos := "kinds.go:323", after := #[], guard := none }) (v := ?_) rfl (by kernel_rfl) (by kernel_rfl) (by kernel_rfl) (fun _ _ _ h => h) (Or.inl ⟨by rfl, ?_⟩) hHeld ?_
  rotate_left
  · (intro w hSw; (try dsimp only at hSw); go_simp; all_goals (try with_reducible rfl))
  try simp only [Act.put, List.setIfInBounds_toArray, List.set_cons_zero, List.set_cons_succ]
  refine wpAnyH_ready (rs := [2]) (by kernel_rfl) (by simp) ?_
  refine AllReadyH.cons (o := { dst := some 24, op := Op.call { callee := Callee.value (Operand.func 16), args := #[Operand.tmp 23], argTypes := #[3] }, type := 52, pos := "kinds.go:323", after := #[{ on := 1, ground := Ground.data }], guard := none }) rfl (fun K hK => ?_) AllReadyH.nil
  go_simp
  refine Calls.mono (HO.out _ _ HN.out.1 HN.out.2) ?_
  rintro e V1 ⟨v4, rfl, hv1, hb⟩
  have HV : Hid (IsBig v4 num) := hv1
  have HB : Hid (Below W2.heap.size W2 V1) := HB.out.trans (hb.mono HB.out.size)
  clear hb hv1
  go_wp2_with fail
  refine hK.out _ _ (HK.out _ HB.out) (fun hHeld => ?_)
  clear hK K
  try simp only [Act.put, List.setIfInBounds_toArray, List.set_cons_zero, List.set_cons_succ]
  refine wpAnyH_ready (rs := [4]) (by kernel_rfl) (by simp) ?_
  refine AllReadyH.cons (o := { dst := some 26, op := Op.call { callee := Callee.value (Operand.func 15), args := #[Operand.tmp 24, Operand.tmp 25], argTypes := #[52, 52] }, type := 52, pos := "kinds.go:323", after := #[{ on := 2, ground := Ground.data }, { on := 3, ground := Ground.data }, { on := 2, ground := Ground.chain }], guard := none }) rfl (fun K hK => ?_) AllReadyH.nil
  go_simp
  refine Calls.mono (HM.out _ _ _ _ HV.out HZ.out HN.out.1 HN.out.2) ?_
  rintro e V1 ⟨v5, rfl, hv1, hb⟩
  have HV : Hid (IsBig v5 (num * 4294967296)) := hv1
  have HB : Hid (Below W2.heap.size W2 V1) := HB.out.trans (hb.mono HB.out.size)
  clear hb hv1
  go_wp2_with fail
  refine hK.out _ _ (HK.out _ HB.out) (fun hHeld => ?_)
  clear hK K
  try simp only [Act.put, List.setIfInBounds_toArray, List.set_cons_zero, List.set_cons_succ]
  refine wpAnyH_ready (rs := [5]) (by kernel_rfl) (by simp) ?_
  refine AllReadyH.cons (o := { dst := some 27, op := Op.call { callee := Callee.value (Operand.func 29), args := #[Operand.tmp 22, Operand.tmp 26], argTypes := #[52, 52] }, type := 3, pos := "kinds.go:323", after := #[{ on := 0, ground := Ground.data }, { on := 4, ground := Ground.data }, { on := 4, ground := Ground.chain }], guard := none }) rfl (fun K hK => ?_) AllReadyH.nil
  go_simp
  refine Calls.mono (H3.out _ _ HV.out) ?_
  rintro e V1 ⟨rfl, hb⟩
  have HB : Hid (Below W2.heap.size W2 V1) := HB.out.trans (hb.mono HB.out.size)
  clear hb
  go_wp2_with fail
  refine hK.out _ _ (HK.out _ HB.out) (fun hHeld => ?_)
  clear hK K
  try simp only [Act.put, List.setIfInBounds_toArray, List.set_cons_zero, List.set_cons_succ]
  refine wpAnyH_take (i := 6) (oi := { dst := some 28, op := Op.binOp BinOp.leq 3 (Operand.tmp 27) (Operand.const (Value.int IntKind.i64 0)) 3, type := 4, pos := "kinds.go:323", after := #[{ on := 5, ground := Ground.data }], guard := none }) (v := ?_) rfl (by kernel_rfl) (by kernel_rfl) (by kernel_rfl) (fun _ _ _ h => h) (Or.inl ⟨by rfl, ?_⟩) hHeld ?_
  rotate_left
  · (intro w hSw; (try dsimp only at hSw); go_simp; all_goals (try with_reducible rfl))
  try simp only [Act.put, List.setIfInBounds_toArray, List.set_cons_zero, List.set_cons_succ]
  refine wpAnyH_take (i := 7) (oi := { dst := some 4, op := Op.assign (Operand.tmp 28), type := 4, pos := "kinds.go:323", after := #[{ on := 6, ground := Ground.data }, { on := 5, ground := Ground.chain }, { on := 0, ground := Ground.phase }, { on := 1, ground := Ground.phase }, { on := 2, ground := Ground.phase }, { on := 3, ground := Ground.phase }, { on := 4, ground := Ground.phase }, { on := 5, ground := Ground.phase }, { on := 6, ground := Ground.phase }], guard := none }) (v := ?_) rfl (by kernel_rfl) (by kernel_rfl) (by kernel_rfl) (fun _ _ _ h => h) (Or.inl ⟨by rfl, ?_⟩) hHeld ?_
  rotate_left
  · (intro w hSw; (try dsimp only at hSw); go_simp; all_goals (try with_reducible rfl))
  try simp only [Act.put, List.setIfInBounds_toArray, List.set_cons_zero, List.set_cons_succ]
  refine wpAnyH_take (i := 8) (oi := { dst := some 5, op := Op.assign (Operand.const (Value.bool false)), type := 4, pos := "kinds.go:323", after := #[{ on := 7, ground := Ground.chain }, { on := 0, ground := Ground.phase }, { on := 1, ground := Ground.phase }, { on := 2, ground := Ground.phase }, { on := 3, ground := Ground.phase }, { on := 4, ground := Ground.phase }, { on := 5, ground := Ground.phase }, { on := 6, ground := Ground.phase }, { on := 7, ground := Ground.phase }], guard := none }) (v := ?_) rfl (by kernel_rfl) (by kernel_rfl) (by kernel_rfl) (fun _ _ _ h => h) (Or.inl ⟨by rfl, ?_⟩) hHeld ?_
  rotate_left
  · (intro w hSw; (try dsimp only at hSw); go_simp; all_goals (try with_reducible rfl))
  try simp only [Act.put, List.setIfInBounds_toArray, List.set_cons_zero, List.set_cons_succ]
  refine wpAnyH_done (by kernel_rfl) ?_ _
  clear hHeld
  go_wp2
  exact bodyPost_ret (v := .tuple #[.bool (decide (k3 ≤ 0)), .bool false]) (by simp [results, Try.results17, go_sem]) rfl ⟨rfl, HW2.out.trans (HB.out.mono HW2.out.size)⟩
set_option maxHeartbeats 8000000 in
theorem judge_zz (m : Bool) (d : Nat → Int) (num k3 : Int) (w : World) (hn : B64 num)
    (HM : Hid (∀ u z c X, IsBig u c → IsBig z 4294967296 → -9223372036854775808 ≤ c → c ≤ 9223372036854775807 → Calls Try.prog 15 #[u, z] X fun e X' => ∃ v', e = .returned v' ∧ IsBig v' (c * 4294967296) ∧ Below X.heap.size X X'))
    (H1 : Hid (∀ z X, IsBig z (9223372036854775807 * 4294967296) → Calls Try.prog 29 #[bigC m d, z] X fun e X' => e = .returned (.int .i64 0) ∧ Below X.heap.size X X'))
    (H2 : Hid (∀ z X, IsBig z (-9223372036854775808 * 4294967296) → Calls Try.prog 29 #[bigC m d, z] X fun e X' => e = .returned (.int .i64 0) ∧ Below X.heap.size X X'))
    (H3 : Hid (∀ z X, IsBig z (num * 4294967296) → Calls Try.prog 29 #[bigC m d, z] X fun e X' => e = .returned (.int .i64 k3) ∧ Below X.heap.size X X')) :
    Calls Try.prog 17 #[bigC m d, .int .i64 num] w fun e w' => e = .returned (.tuple #[.bool (decide (k3 ≤ 0)), .bool false]) ∧ Below w.heap.size w w' := by
  unfold bigC at *
  have HO : Hid (∀ c X, -9223372036854775808 ≤ c → c ≤ 9223372036854775807 → Calls Try.prog 16 #[.int .i64 c] X fun e X' => ∃ v', e = .returned v' ∧ IsBig v' c ∧ Below X.heap.size X X') := fun c X a b => of_big c X a b
  have HN : Hid (B64 num) := hn
  clear hn
  go_enter Try.func17, Try.ntmps17
  go_wp2_with fail
  refine Calls.mono (HO.out 4294967296 _ (by omega) (by omega)) ?_
  rintro e W1 ⟨z, rfl, hz, hw⟩
  have HZ : Hid (IsBig z 4294967296) := hz
  obtain ⟨m1, d1, rfl, hd1, hd2, hd3⟩ := hz
  clear hd1 hd2 hd3
  have HW1 : Hid (Below w.heap.size w W1) := ((Below.refl _ _).alloc (Nat.le_refl _) _).trans (hw.mono (by simp))
  have A1 : BigAt W1 w.heap.size m d := BigAt.below (bigAt_of (by simp [go_sem]) (by simp [go_sem]) (by simp [go_sem]) (by simp [go_sem]) (by simp [go_sem]) (by simp [go_sem]) (by simp [go_sem]) (fun j => by simp [go_sem])) hw
  have HA1 : Hid (BigAt W1 w.heap.size m d) := A1
  clear hw A1
  go_wp2_with fail
  obtain ⟨W2, hW2⟩ : ∃ Z, (W1.alloc (.cells #[.bool m1, .int .i64 (d1 0), .int .i64 (d1 1), .int .i64 (d1 2), .int .i64 (d1 3), .int .i64 (d1 4), .int .i64 (d1 5)] 52)) = Z := ⟨_, rfl⟩
  have A2 : BigAt W2 w.heap.size m d := by rw [← hW2]; exact HA1.out.below ((Below.refl _ _).alloc (Nat.le_refl _) _)
  have B2 : BigAt W2 W1.heap.size m1 d1 := by rw [← hW2]; exact bigAt_of (by simp [go_sem]) (by simp [go_sem]) (by simp [go_sem]) (by simp [go_sem]) (by simp [go_sem]) (by simp [go_sem]) (by simp [go_sem]) (fun j => by simp [go_sem])
  have HW2 : Hid (Below w.heap.size w W2) := by rw [← hW2]; exact HW1.out.alloc HW1.out.size _
  rw [hW2]
  clear hW2 HA1
  have HK : Hid (∀ W', Below W2.heap.size W2 W' → W'.cell? ⟨w.heap.size, 0, none⟩ = some (.bool m) ∧ W'.cell? ⟨w.heap.size, 1, none⟩ = some (.int .i64 (d 0)) ∧ W'.cell? ⟨w.heap.size, 2, none⟩ = some (.int .i64 (d 1)) ∧ W'.cell? ⟨w.heap.size, 3, none⟩ = some (.int .i64 (d 2)) ∧ W'.cell? ⟨w.heap.size, 4, none⟩ = some (.int .i64 (d 3)) ∧ W'.cell? ⟨w.heap.size, 5, none⟩ = some (.int .i64 (d 4)) ∧ W'.cell? ⟨w.heap.size, 6, none⟩ = some (.int .i64 (d 5)) ∧ W'.cell? ⟨W1.heap.size, 0, none⟩ = some (.bool m1) ∧ W'.cell? ⟨W1.heap.size, 1, none⟩ = some (.int .i64 (d1 0)) ∧ W'.cell? ⟨W1.heap.size, 2, none⟩ = some (.int .i64 (d1 1)) ∧ W'.cell? ⟨W1.heap.size, 3, none⟩ = some (.int .i64 (d1 2)) ∧ W'.cell? ⟨W1.heap.size, 4, none⟩ = some (.int .i64 (d1 3)) ∧ W'.cell? ⟨W1.heap.size, 5, none⟩ = some (.int .i64 (d1 4)) ∧ W'.cell? ⟨W1.heap.size, 6, none⟩ = some (.int .i64 (d1 5))) := by
    intro W' hb
    have A3 := A2.below hb
    have B3 := B2.below hb
    exact ⟨A3.s, A3.c 0 (by omega), A3.c 1 (by omega), A3.c 2 (by omega), A3.c 3 (by omega), A3.c 4 (by omega), A3.c 5 (by omega), B3.s, B3.c 0 (by omega), B3.c 1 (by omega), B3.c 2 (by omega), B3.c 3 (by omega), B3.c 4 (by omega), B3.c 5 (by omega)⟩
  clear A2 B2
  have HB : Hid (Below W2.heap.size W2 W2.drew) := (Below.refl _ _).drew
  refine wp_region_held_drew (S := fun W' => W'.cell? ⟨w.heap.size, 0, none⟩ = some (.bool m) ∧ W'.cell? ⟨w.heap.size, 1, none⟩ = some (.int .i64 (d 0)) ∧ W'.cell? ⟨w.heap.size, 2, none⟩ = some (.int .i64 (d 1)) ∧ W'.cell? ⟨w.heap.size, 3, none⟩ = some (.int .i64 (d 2)) ∧ W'.cell? ⟨w.heap.size, 4, none⟩ = some (.int .i64 (d 3)) ∧ W'.cell? ⟨w.heap.size, 5, none⟩ = some (.int .i64 (d 4)) ∧ W'.cell? ⟨w.heap.size, 6, none⟩ = some (.int .i64 (d 5)) ∧ W'.cell? ⟨W1.heap.size, 0, none⟩ = some (.bool m1) ∧ W'.cell? ⟨W1.heap.size, 1, none⟩ = some (.int .i64 (d1 0)) ∧ W'.cell? ⟨W1.heap.size, 2, none⟩ = some (.int .i64 (d1 1)) ∧ W'.cell? ⟨W1.heap.size, 3, none⟩ = some (.int .i64 (d1 2)) ∧ W'.cell? ⟨W1.heap.size, 4, none⟩ = some (.int .i64 (d1 3)) ∧ W'.cell? ⟨W1.heap.size, 5, none⟩ = some (.int .i64 (d1 4)) ∧ W'.cell? ⟨W1.heap.size, 6, none⟩ = some (.int .i64 (d1 5))) (by kernel_rfl) (HK.out _ HB.out) (fun hHeld => ?_)
  refine wpAnyH_take (i := 0) (oi := { dst := some 8, op := Op.load 52 (Operand.tmp 2), type := 52, pos := "kinds.go:320", after := #[], guard := none }) (v := ?_) rfl (by kernel_rfl) (by kernel_rfl) (by kernel_rfl) (fun _ _ _ h => h) (Or.inl ⟨by rfl, ?_⟩) hHeld ?_
  rotate_left
  · (intro w hSw; (try dsimp only at hSw); go_simp; all_goals (try with_reducible rfl))
  try simp only [Act.put, List.setIfInBounds_toArray, List.set_cons_zero, List.set_cons_succ]
  refine wpAnyH_take (i := 2) (oi := { dst := some 10, op := Op.load 52 (Operand.tmp 6), type := 52, pos := "kinds.go:320", after := #[], guard := none }) (v := ?_) rfl (by kernel_rfl) (by kernel_rfl) (by kernel_rfl) (fun _ _ _ h => h) (Or.inl ⟨by rfl, ?_⟩) hHeld ?_
  rotate_left
  · (intro w hSw; (try dsimp only at hSw); go_simp; all_goals (try with_reducible rfl))
  try simp only [Act.put, List.setIfInBounds_toArray, List.set_cons_zero, List.set_cons_succ]
  refine wpAnyH_ready (rs := [1]) (by kernel_rfl) (by simp) ?_
  refine AllReadyH.cons (o := { dst := some 9, op := Op.call { callee := Callee.value (Operand.func 16), args := #[Operand.const (Value.int IntKind.i64 9223372036854775807)], argTypes := #[3] }, type := 52, pos := "kinds.go:320", after := #[], guard := none }) rfl (fun K hK => ?_) AllReadyH.nil
  go_simp
  refine Calls.mono (HO.out _ _ (by omega) (by omega)) ?_
  rintro e V1 ⟨v1, rfl, hv1, hb⟩
  have HV : Hid (IsBig v1 9223372036854775807) := hv1
  have HB : Hid (Below W2.heap.size W2 V1) := HB.out.trans (hb.mono HB.out.size)
  clear hb hv1
  go_wp2_with fail
  refine hK.out _ _ (HK.out _ HB.out) (fun hHeld => ?_)
  clear hK K
  try simp only [Act.put, List.setIfInBounds_toArray, List.set_cons_zero, List.set_cons_succ]
  refine wpAnyH_ready (rs := [3]) (by kernel_rfl) (by simp) ?_
  refine AllReadyH.cons (o := { dst := some 11, op := Op.call { callee := Callee.value (Operand.func 15), args := #[Operand.tmp 9, Operand.tmp 10], argTypes := #[52, 52] }, type := 52, pos := "kinds.go:320", after := #[{ on := 1, ground := Ground.data }, { on := 2, ground := Ground.data }, { on := 1, ground := Ground.chain }], guard := none }) rfl (fun K hK => ?_) AllReadyH.nil
  go_simp
  refine Calls.mono (HM.out _ _ _ _ HV.out HZ.out (by omega) (by omega)) ?_
  rintro e V1 ⟨v1, rfl, hv1, hb⟩
  have HV : Hid (IsBig v1 (9223372036854775807 * 4294967296)) := hv1
  have HB : Hid (Below W2.heap.size W2 V1) := HB.out.trans (hb.mono HB.out.size)
  clear hb hv1
  go_wp2_with fail
  refine hK.out _ _ (HK.out _ HB.out) (fun hHeld => ?_)
  clear hK K
  try simp only [Act.put, List.setIfInBounds_toArray, List.set_cons_zero, List.set_cons_succ]
  refine wpAnyH_ready (rs := [4]) (by kernel_rfl) (by simp) ?_
  refine AllReadyH.cons (o := { dst := some 12, op := Op.call { callee := Callee.value (Operand.func 29), args := #[Operand.tmp 8, Operand.tmp 11], argTypes := #[52, 52] }, type := 3, pos := "kinds.go:320", after := #[{ on := 0, ground := Ground.data }, { on := 3, ground := Ground.data }, { on := 3, ground := Ground.chain }], guard := none }) rfl (fun K hK => ?_) AllReadyH.nil
  go_simp
  refine Calls.mono (H1.out _ _ HV.out) ?_
  rintro e V1 ⟨rfl, hb⟩
  have HB : Hid (Below W2.heap.size W2 V1) := HB.out.trans (hb.mono HB.out.size)
  clear hb
  go_wp2_with fail
  refine hK.out _ _ (HK.out _ HB.out) (fun hHeld => ?_)
  clear hK K
  try simp only [Act.put, List.setIfInBounds_toArray, List.set_cons_zero, List.set_cons_succ]
  refine wpAnyH_take (i := 5) (oi := { dst := some 13, op := Op.binOp BinOp.gtr 3 (Operand.tmp 12) (Operand.const (Value.int IntKind.i64 0)) 3, type := 4, pos := "kinds.go:320", after := #[{ on := 4, ground := Ground.data }], guard := none }) (v := ?_) rfl (by kernel_rfl) (by kernel_rfl) (by kernel_rfl) (fun _ _ _ h => h) (Or.inl ⟨by rfl, ?_⟩) hHeld ?_
  rotate_left
  · (intro w hSw; (try dsimp only at hSw); go_simp; all_goals (try with_reducible rfl))
  try simp only [Act.put, List.setIfInBounds_toArray, List.set_cons_zero, List.set_cons_succ]
  refine wpAnyH_take (i := 6) (oi := { dst := some 14, op := Op.move (Operand.tmp 13), type := 4, pos := "kinds.go:320", after := #[{ on := 5, ground := Ground.data }, { on := 4, ground := Ground.chain }], guard := none }) (v := ?_) rfl (by kernel_rfl) (by kernel_rfl) (by kernel_rfl) (fun _ _ _ h => h) (Or.inl ⟨by rfl, ?_⟩) hHeld ?_
  rotate_left
  · (intro w hSw; (try dsimp only at hSw); go_simp; all_goals (try with_reducible rfl))
  try simp only [Act.put, List.setIfInBounds_toArray, List.set_cons_zero, List.set_cons_succ]
  refine wpAnyH_take (i := 7) (oi := { dst := some 15, op := Op.load 52 (Operand.tmp 2), type := 52, pos := "kinds.go:320", after := #[{ on := 6, ground := Ground.guard }], guard := some (6, false) }) (v := ?_) rfl (by kernel_rfl) (by kernel_rfl) (by kernel_rfl) (fun _ _ _ h => h) (Or.inl ⟨by rfl, ?_⟩) hHeld ?_
  rotate_left
  · (intro w hSw; (try dsimp only at hSw); go_simp; all_goals (try with_reducible rfl))
  try simp only [Act.put, List.setIfInBounds_toArray, List.set_cons_zero, List.set_cons_succ]
  refine wpAnyH_take (i := 9) (oi := { dst := some 17, op := Op.load 52 (Operand.tmp 6), type := 52, pos := "kinds.go:320", after := #[{ on := 6, ground := Ground.guard }], guard := some (6, false) }) (v := ?_) rfl (by kernel_rfl) (by kernel_rfl) (by kernel_rfl) (fun _ _ _ h => h) (Or.inl ⟨by rfl, ?_⟩) hHeld ?_
  rotate_left
  · (intro w hSw; (try dsimp only at hSw); go_simp; all_goals (try with_reducible rfl))
  try simp only [Act.put, List.setIfInBounds_toArray, List.set_cons_zero, List.set_cons_succ]
  refine wpAnyH_ready (rs := [8]) (by kernel_rfl) (by simp) ?_
  refine AllReadyH.cons (o := { dst := some 16, op := Op.call { callee := Callee.value (Operand.func 16), args := #[Operand.const (Value.int IntKind.i64 (-9223372036854775808))], argTypes := #[3] }, type := 52, pos := "kinds.go:320", after := #[{ on := 6, ground := Ground.chain }, { on := 6, ground := Ground.guard }], guard := some (6, false) }) rfl (fun K hK => ?_) AllReadyH.nil
  go_simp
  refine Calls.mono (HO.out _ _ (by omega) (by omega)) ?_
  rintro e V1 ⟨v2, rfl, hv1, hb⟩
  have HV : Hid (IsBig v2 (-9223372036854775808)) := hv1
  have HB : Hid (Below W2.heap.size W2 V1) := HB.out.trans (hb.mono HB.out.size)
  clear hb hv1
  go_wp2_with fail
  refine hK.out _ _ (HK.out _ HB.out) (fun hHeld => ?_)
  clear hK K
  try simp only [Act.put, List.setIfInBounds_toArray, List.set_cons_zero, List.set_cons_succ]
  refine wpAnyH_ready (rs := [10]) (by kernel_rfl) (by simp) ?_
  refine AllReadyH.cons (o := { dst := some 18, op := Op.call { callee := Callee.value (Operand.func 15), args := #[Operand.tmp 16, Operand.tmp 17], argTypes := #[52, 52] }, type := 52, pos := "kinds.go:320", after := #[{ on := 8, ground := Ground.data }, { on := 9, ground := Ground.data }, { on := 8, ground := Ground.chain }, { on := 6, ground := Ground.guard }], guard := some (6, false) }) rfl (fun K hK => ?_) AllReadyH.nil
  go_simp
  refine Calls.mono (HM.out _ _ _ _ HV.out HZ.out (by omega) (by omega)) ?_
  rintro e V1 ⟨v3, rfl, hv1, hb⟩
  have HV : Hid (IsBig v3 (-9223372036854775808 * 4294967296)) := hv1
  have HB : Hid (Below W2.heap.size W2 V1) := HB.out.trans (hb.mono HB.out.size)
  clear hb hv1
  go_wp2_with fail
  refine hK.out _ _ (HK.out _ HB.out) (fun hHeld => ?_)
  clear hK K
  try simp only [Act.put, List.setIfInBounds_toArray, List.set_cons_zero, List.set_cons_succ]
  refine wpAnyH_ready (rs := [11]) (by kernel_rfl) (by simp) ?_
  refine AllReadyH.cons (o := { dst := some 19, op := Op.call { callee := Callee.value (Operand.func 29), args := #[Operand.tmp 15, Operand.tmp 18], argTypes := #[52, 52] }, type := 3, pos := "kinds.go:320", after := #[{ on := 7, ground := Ground.data }, { on := 10, ground := Ground.data }, { on := 10, ground := Ground.chain }, { on := 6, ground := Ground.guard }], guard := some (6, false) }) rfl (fun K hK => ?_) AllReadyH.nil
  go_simp
  refine Calls.mono (H2.out _ _ HV.out) ?_
  rintro e V1 ⟨rfl, hb⟩
  have HB : Hid (Below W2.heap.size W2 V1) := HB.out.trans (hb.mono HB.out.size)
  clear hb
  go_wp2_with fail
  refine hK.out _ _ (HK.out _ HB.out) (fun hHeld => ?_)
  clear hK K
  try simp only [Act.put, List.setIfInBounds_toArray, List.set_cons_zero, List.set_cons_succ]
  refine wpAnyH_take (i := 12) (oi := { dst := some 20, op := Op.binOp BinOp.lss 3 (Operand.tmp 19) (Operand.const (Value.int IntKind.i64 0)) 3, type := 4, pos := "kinds.go:320", after := #[{ on := 11, ground := Ground.data }, { on := 6, ground := Ground.guard }], guard := some (6, false) }) (v := ?_) rfl (by kernel_rfl) (by kernel_rfl) (by kernel_rfl) (fun _ _ _ h => h) (Or.inl ⟨by rfl, ?_⟩) hHeld ?_
  rotate_left
  · (intro w hSw; (try dsimp only at hSw); go_simp; all_goals (try with_reducible rfl))
  try simp only [Act.put, List.setIfInBounds_toArray, List.set_cons_zero, List.set_cons_succ]
  refine wpAnyH_take (i := 13) (oi := { dst := some 21, op := Op.pick (Operand.tmp 14) (Operand.const (Value.bool true)) (Operand.tmp 20), type := 4, pos := "kinds.go:320", after := #[{ on := 6, ground := Ground.data }, { on := 12, ground := Ground.data }], guard := none }) (v := ?_) rfl (by kernel_rfl) (by kernel_rfl) (by kernel_rfl) (fun _ _ _ h => h) (Or.inl ⟨by rfl, ?_⟩) hHeld ?_
  rotate_left
  · (intro w hSw; (try dsimp only at hSw); go_simp; all_goals (try with_reducible rfl))
  try simp only [Act.put, List.setIfInBounds_toArray, List.set_cons_zero, List.set_cons_succ]
  refine wpAnyH_done (by kernel_rfl) ?_ _
  clear hHeld
  go_wp2_with fail
  have HB : Hid (Below W2.heap.size W2 _) := HB.out.drew
  refine wp_region_held_drew (S := fun W' => W'.cell? ⟨w.heap.size, 0, none⟩ = some (.bool m) ∧ W'.cell? ⟨w.heap.size, 1, none⟩ = some (.int .i64 (d 0)) ∧ W'.cell? ⟨w.heap.size, 2, none⟩ = some (.int .i64 (d 1)) ∧ W'.cell? ⟨w.heap.size, 3, none⟩ = some (.int .i64 (d 2)) ∧ W'.cell? ⟨w.heap.size, 4, none⟩ = some (.int .i64 (d 3)) ∧ W'.cell? ⟨w.heap.size, 5, none⟩ = some (.int .i64 (d 4)) ∧ W'.cell? ⟨w.heap.size, 6, none⟩ = some (.int .i64 (d 5)) ∧ W'.cell? ⟨W1.heap.size, 0, none⟩ = some (.bool m1) ∧ W'.cell? ⟨W1.heap.size, 1, none⟩ = some (.int .i64 (d1 0)) ∧ W'.cell? ⟨W1.heap.size, 2, none⟩ = some (.int .i64 (d1 1)) ∧ W'.cell? ⟨W1.heap.size, 3, none⟩ = some (.int .i64 (d1 2)) ∧ W'.cell? ⟨W1.heap.size, 4, none⟩ = some (.int .i64 (d1 3)) ∧ W'.cell? ⟨W1.heap.size, 5, none⟩ = some (.int .i64 (d1 4)) ∧ W'.cell? ⟨W1.heap.size, 6, none⟩ = some (.int .i64 (d1 5))) (by kernel_rfl) (HK.out _ HB.out) (fun hHeld => ?_)
  refine wpAnyH_take (i := 0) (oi := { dst := some 22, op := Op.load 52 (Operand.tmp 2), type := 52, pos := "kinds.go:323", after := #[], guard := none }) (v := ?_) rfl (by kernel_rfl) (by kernel_rfl) (by kernel_rfl) (fun _ _ _ h => h) (Or.inl ⟨by rfl, ?_⟩) hHeld ?_
  rotate_left
  · (intro w hSw; (try dsimp only at hSw); go_simp; all_goals (try with_reducible rfl))
  try simp only [Act.put, List.setIfInBounds_toArray, List.set_cons_zero, List.set_cons_succ]
  refine wpAnyH_take (i := 1) (oi := { dst := some 23, op := Op.move (Operand.tmp 1), type := 3, pos := "kinds.go:323", after := #[], guard := none }) (v := ?_) rfl (by kernel_rfl) (by kernel_rfl) (by kernel_rfl) (fun _ _ _ h => h) (Or.inl ⟨by rfl, ?_⟩) hHeld ?_
  rotate_left
  · (intro w hSw; (try dsimp only at hSw); go_simp; all_goals (try with_reducible rfl))
  try simp only [Act.put, List.setIfInBounds_toArray, List.set_cons_zero, List.set_cons_succ]
  refine wpAnyH_take (i := 3) (oi := { dst := some 25, op := Op.load 52 (Operand.tmp 6), type := 52, pos := "kinds.go:323", after := #[], guard := none }) (v := ?_) rfl (by kernel_rfl) (by kernel_rfl) (by kernel_rfl) (fun _ _ _ h => h) (Or.inl ⟨by rfl, ?_⟩) hHeld ?_
  rotate_left
  · (intro w hSw; (try dsimp only at hSw); go_simp; all_goals (try with_reducible rfl))
  try simp only [Act.put, List.setIfInBounds_toArray, List.set_cons_zero, List.set_cons_succ]
  refine wpAnyH_ready (rs := [2]) (by kernel_rfl) (by simp) ?_
  refine AllReadyH.cons (o := { dst := some 24, op := Op.call { callee := Callee.value (Operand.func 16), args := #[Operand.tmp 23], argTypes := #[3] }, type := 52, pos := "kinds.go:323", after := #[{ on := 1, ground := Ground.data }], guard := none }) rfl (fun K hK => ?_) AllReadyH.nil
  go_simp
  refine Calls.mono (HO.out _ _ HN.out.1 HN.out.2) ?_
  rintro e V1 ⟨v4, rfl, hv1, hb⟩
  have HV : Hid (IsBig v4 num) := hv1
  have HB : Hid (Below W2.heap.size W2 V1) := HB.out.trans (hb.mono HB.out.size)
  clear hb hv1
  go_wp2_with fail
  refine hK.out _ _ (HK.out _ HB.out) (fun hHeld => ?_)
  clear hK K
  try simp only [Act.put, List.setIfInBounds_toArray, List.set_cons_zero, List.set_cons_succ]
  refine wpAnyH_ready (rs := [4]) (by kernel_rfl) (by simp) ?_
  refine AllReadyH.cons (o := { dst := some 26, op := Op.call { callee := Callee.value (Operand.func 15), args := #[Operand.tmp 24, Operand.tmp 25], argTypes := #[52, 52] }, type := 52, pos := "kinds.go:323", after := #[{ on := 2, ground := Ground.data }, { on := 3, ground := Ground.data }, { on := 2, ground := Ground.chain }], guard := none }) rfl (fun K hK => ?_) AllReadyH.nil
  go_simp
  refine Calls.mono (HM.out _ _ _ _ HV.out HZ.out HN.out.1 HN.out.2) ?_
  rintro e V1 ⟨v5, rfl, hv1, hb⟩
  have HV : Hid (IsBig v5 (num * 4294967296)) := hv1
  have HB : Hid (Below W2.heap.size W2 V1) := HB.out.trans (hb.mono HB.out.size)
  clear hb hv1
  go_wp2_with fail
  refine hK.out _ _ (HK.out _ HB.out) (fun hHeld => ?_)
  clear hK K
  try simp only [Act.put, List.setIfInBounds_toArray, List.set_cons_zero, List.set_cons_succ]
  refine wpAnyH_ready (rs := [5]) (by kernel_rfl) (by simp) ?_
  refine AllReadyH.cons (o := { dst := some 27, op := Op.call { callee := Callee.value (Operand.func 29), args := #[Operand.tmp 22, Operand.tmp 26], argTypes := #[52, 52] }, type := 3, pos := "kinds.go:323", after := #[{ on := 0, ground := Ground.data }, { on := 4, ground := Ground.data }, { on := 4, ground := Ground.chain }], guard := none }) rfl (fun K hK => ?_) AllReadyH.nil
  go_simp
  refine Calls.mono (H3.out _ _ HV.out) ?_
  rintro e V1 ⟨rfl, hb⟩
  have HB : Hid (Below W2.heap.size W2 V1) := HB.out.trans (hb.mono HB.out.size)
  clear hb
  go_wp2_with fail
  refine hK.out _ _ (HK.out _ HB.out) (fun hHeld => ?_)
  clear hK K
  try simp only [Act.put, List.setIfInBounds_toArray, List.set_cons_zero, List.set_cons_succ]
  refine wpAnyH_take (i := 6) (oi := { dst := some 28, op := Op.binOp BinOp.leq 3 (Operand.tmp 27) (Operand.const (Value.int IntKind.i64 0)) 3, type := 4, pos := "kinds.go:323", after := #[{ on := 5, ground := Ground.data }], guard := none }) (v := ?_) rfl (by kernel_rfl) (by kernel_rfl) (by kernel_rfl) (fun _ _ _ h => h) (Or.inl ⟨by rfl, ?_⟩) hHeld ?_
  rotate_left
  · (intro w hSw; (try dsimp only at hSw); go_simp; all_goals (try with_reducible rfl))
  try simp only [Act.put, List.setIfInBounds_toArray, List.set_cons_zero, List.set_cons_succ]
  refine wpAnyH_take (i := 7) (oi := { dst := some 4, op := Op.assign (Operand.tmp 28), type := 4, pos := "kinds.go:323", after := #[{ on := 6, ground := Ground.data }, { on := 5, ground := Ground.chain }, { on := 0, ground := Ground.phase }, { on := 1, ground := Ground.phase }, { on := 2, ground := Ground.phase }, { on := 3, ground := Ground.phase }, { on := 4, ground := Ground.phase }, { on := 5, ground := Ground.phase }, { on := 6, ground := Ground.phase }], guard := none }) (v := ?_) rfl (by kernel_rfl) (by kernel_rfl) (by kernel_rfl) (fun _ _ _ h => h) (Or.inl ⟨by rfl, ?_⟩) hHeld ?_
  rotate_left
  · (intro w hSw; (try dsimp only at hSw); go_simp; all_goals (try with_reducible rfl))
  try simp only [Act.put, List.setIfInBounds_toArray, List.set_cons_zero, List.set_cons_succ]
  refine wpAnyH_take (i := 8) (oi := { dst := some 5, op := Op.assign (Operand.const (Value.bool false)), type := 4, pos := "kinds.go:323", after := #[{ on := 7, ground := Ground.chain }, { on := 0, ground := Ground.phase }, { on := 1, ground := Ground.phase }, { on := 2, ground := Ground.phase }, { on := 3, ground := Ground.phase }, { on := 4, ground := Ground.phase }, { on := 5, ground := Ground.phase }, { on := 6, ground := Ground.phase }, { on := 7, ground := Ground.phase }], guard := none }) (v := ?_) rfl (by kernel_rfl) (by kernel_rfl) (by kernel_rfl) (fun _ _ _ h => h) (Or.inl ⟨by rfl, ?_⟩) hHeld ?_
  rotate_left
  · (intro w hSw; (try dsimp only at hSw); go_simp; all_goals (try with_reducible rfl))
  try simp only [Act.put, List.setIfInBounds_toArray, List.set_cons_zero, List.set_cons_succ]
  refine wpAnyH_done (by kernel_rfl) ?_ _
  clear hHeld
  go_wp2
  exact bodyPost_ret (v := .tuple #[.bool (decide (k3 ≤ 0)), .bool false]) (by simp [results, Try.results17, go_sem]) rfl ⟨rfl, HW2.out.trans (HB.out.mono HW2.out.size)⟩
set_option maxHeartbeats 8000000 in
theorem judge_zp (m : Bool) (d : Nat → Int) (num k3 : Int) (w : World) (hn : B64 num)
    (HM : Hid (∀ u z c X, IsBig u c → IsBig z 4294967296 → -9223372036854775808 ≤ c → c ≤ 9223372036854775807 → Calls Try.prog 15 #[u, z] X fun e X' => ∃ v', e = .returned v' ∧ IsBig v' (c * 4294967296) ∧ Below X.heap.size X X'))
    (H1 : Hid (∀ z X, IsBig z (9223372036854775807 * 4294967296) → Calls Try.prog 29 #[bigC m d, z] X fun e X' => e = .returned (.int .i64 0) ∧ Below X.heap.size X X'))
    (H2 : Hid (∀ z X, IsBig z (-9223372036854775808 * 4294967296) → Calls Try.prog 29 #[bigC m d, z] X fun e X' => e = .returned (.int .i64 1) ∧ Below X.heap.size X X'))
    (H3 : Hid (∀ z X, IsBig z (num * 4294967296) → Calls Try.prog 29 #[bigC m d, z] X fun e X' => e = .returned (.int .i64 k3) ∧ Below X.heap.size X X')) :
    Calls Try.prog 17 #[bigC m d, .int .i64 num] w fun e w' => e = .returned (.tuple #[.bool (decide (k3 ≤ 0)), .bool false]) ∧ Below w.heap.size w w' := by
  unfold bigC at *
  have HO : Hid (∀ c X, -9223372036854775808 ≤ c → c ≤ 9223372036854775807 → Calls Try.prog 16 #[.int .i64 c] X fun e X' => ∃ v', e = .returned v' ∧ IsBig v' c ∧ Below X.heap.size X X') := fun c X a b => of_big c X a b
  have HN : Hid (B64 num) := hn
  clear hn
  go_enter Try.func17, Try.ntmps17
  go_wp2_with fail
  refine Calls.mono (HO.out 4294967296 _ (by omega) (by omega)) ?_
  rintro e W1 ⟨z, rfl, hz, hw⟩
  have HZ : Hid (IsBig z 4294967296) := hz
  obtain ⟨m1, d1, rfl, hd1, hd2, hd3⟩ := hz
  clear hd1 hd2 hd3
  have HW1 : Hid (Below w.heap.size w W1) := ((Below.refl _ _).alloc (Nat.le_refl _) _).trans (hw.mono (by simp))
  have A1 : BigAt W1 w.heap.size m d := BigAt.below (bigAt_of (by simp [go_sem]) (by simp [go_sem]) (by simp [go_sem]) (by simp [go_sem]) (by simp [go_sem]) (by simp [go_sem]) (by simp [go_sem]) (fun j => by simp [go_sem])) hw
  have HA1 : Hid (BigAt W1 w.heap.size m d) := A1
  clear hw A1
  go_wp2_with fail
  obtain ⟨W2, hW2⟩ : ∃ Z, (W1.alloc (.cells #[.bool m1, .int .i64 (d1 0), .int .i64 (d1 1), .int .i64 (d1 2), .int .i64 (d1 3), .int .i64 (d1 4), .int .i64 (d1 5)] 52)) = Z := ⟨_, rfl⟩
  have A2 : BigAt W2 w.heap.size m d := by rw [← hW2]; exact HA1.out.below ((Below.refl _ _).alloc (Nat.le_refl _) _)
  have B2 : BigAt W2 W1.heap.size m1 d1 := by rw [← hW2]; exact bigAt_of (by simp [go_sem]) (by simp [go_sem]) (by simp [go_sem]) (by simp [go_sem]) (by simp [go_sem]) (by simp [go_sem]) (by simp [go_sem]) (fun j => by simp [go_sem])
  have HW2 : Hid (Below w.heap.size w W2) := by rw [← hW2]; exact HW1.out.alloc HW1.out.size _
  rw [hW2]
  clear hW2 HA1
  have HK : Hid (∀ W', Below W2.heap.size W2 W' → W'.cell? ⟨w.heap.size, 0, none⟩ = some (.bool m) ∧ W'.cell? ⟨w.heap.size, 1, none⟩ = some (.int .i64 (d 0)) ∧ W'.cell? ⟨w.heap.size, 2, none⟩ = some (.int .i64 (d 1)) ∧ W'.cell? ⟨w.heap.size, 3, none⟩ = some (.int .i64 (d 2)) ∧ W'.cell? ⟨w.heap.size, 4, none⟩ = some (.int .i64 (d 3)) ∧ W'.cell? ⟨w.heap.size, 5, none⟩ = some (.int .i64 (d 4)) ∧ W'.cell? ⟨w.heap.size, 6, none⟩ = some (.int .i64 (d 5)) ∧ W'.cell? ⟨W1.heap.size, 0, none⟩ = some (.bool m1) ∧ W'.cell? ⟨W1.heap.size, 1, none⟩ = some (.int .i64 (d1 0)) ∧ W'.cell? ⟨W1.heap.size, 2, none⟩ = some (.int .i64 (d1 1)) ∧ W'.cell? ⟨W1.heap.size, 3, none⟩ = some (.int .i64 (d1 2)) ∧ W'.cell? ⟨W1.heap.size, 4, none⟩ = some (.int .i64 (d1 3)) ∧ W'.cell? ⟨W1.heap.size, 5, none⟩ = some (.int .i64 (d1 4)) ∧ W'.cell? ⟨W1.heap.size, 6, none⟩ = some (.int .i64 (d1 5))) := by
    intro W' hb
    have A3 := A2.below hb
    have B3 := B2.below hb
    exact ⟨A3.s, A3.c 0 (by omega), A3.c 1 (by omega), A3.c 2 (by omega), A3.c 3 (by omega), A3.c 4 (by omega), A3.c 5 (by omega), B3.s, B3.c 0 (by omega), B3.c 1 (by omega), B3.c 2 (by omega), B3.c 3 (by omega), B3.c 4 (by omega), B3.c 5 (by omega)⟩
  clear A2 B2
  have HB : Hid (Below W2.heap.size W2 W2.drew) := (Below.refl _ _).drew
  refine wp_region_held_drew (S := fun W' => W'.cell? ⟨w.heap.size, 0, none⟩ = some (.bool m) ∧ W'.cell? ⟨w.heap.size, 1, none⟩ = some (.int .i64 (d 0)) ∧ W'.cell? ⟨w.heap.size, 2, none⟩ = some (.int .i64 (d 1)) ∧ W'.cell? ⟨w.heap.size, 3, none⟩ = some (.int .i64 (d 2)) ∧ W'.cell? ⟨w.heap.size, 4, none⟩ = some (.int .i64 (d 3)) ∧ W'.cell? ⟨w.heap.size, 5, none⟩ = some (.int .i64 (d 4)) ∧ W'.cell? ⟨w.heap.size, 6, none⟩ = some (.int .i64 (d 5)) ∧ W'.cell? ⟨W1.heap.size, 0, none⟩ = some (.bool m1) ∧ W'.cell? ⟨W1.heap.size, 1, none⟩ = some (.int .i64 (d1 0)) ∧ W'.cell? ⟨W1.heap.size, 2, none⟩ = some (.int .i64 (d1 1)) ∧ W'.cell? ⟨W1.heap.size, 3, none⟩ = some (.int .i64 (d1 2)) ∧ W'.cell? ⟨W1.heap.size, 4, none⟩ = some (.int .i64 (d1 3)) ∧ W'.cell? ⟨W1.heap.size, 5, none⟩ = some (.int .i64 (d1 4)) ∧ W'.cell? ⟨W1.heap.size, 6, none⟩ = some (.int .i64 (d1 5))) (by kernel_rfl) (HK.out _ HB.out) (fun hHeld => ?_)
  refine wpAnyH_take (i := 0) (oi := { dst := some 8, op := Op.load 52 (Operand.tmp 2), type := 52, pos := "kinds.go:320", after := #[], guard := none }) (v := ?_) rfl (by kernel_rfl) (by kernel_rfl) (by kernel_rfl) (fun _ _ _ h => h) (Or.inl ⟨by rfl, ?_⟩) hHeld ?_
  rotate_left
  · (intro w hSw; (try dsimp only at hSw); go_simp; all_goals (try with_reducible rfl))
  try simp only [Act.put, List.setIfInBounds_toArray, List.set_cons_zero, List.set_cons_succ]
  refine wpAnyH_take (i := 2) (oi := { dst := some 10, op := Op.load 52 (Operand.tmp 6), type := 52, pos := "kinds.go:320", after := #[], guard := none }) (v := ?_) rfl (by kernel_rfl) (by kernel_rfl) (by kernel_rfl) (fun _ _ _ h => h) (Or.inl ⟨by rfl, ?_⟩) hHeld ?_
  rotate_left
  · (intro w hSw; (try dsimp only at hSw); go_simp; all_goals (try with_reducible rfl))
  try simp only [Act.put, List.setIfInBounds_toArray, List.set_cons_zero, List.set_cons_succ]
  refine wpAnyH_ready (rs := [1]) (by kernel_rfl) (by simp) ?_
  refine AllReadyH.cons (o := { dst := some 9, op := Op.call { callee := Callee.value (Operand.func 16), args := #[Operand.const (Value.int IntKind.i64 9223372036854775807)], argTypes := #[3] }, type := 52, pos := "kinds.go:320", after := #[], guard := none }) rfl (fun K hK => ?_) AllReadyH.nil
  go_simp
  refine Calls.mono (HO.out _ _ (by omega) (by omega)) ?_
  rintro e V1 ⟨v1, rfl, hv1, hb⟩
  have HV : Hid (IsBig v1 9223372036854775807) := hv1
  have HB : Hid (Below W2.heap.size W2 V1) := HB.out.trans (hb.mono HB.out.size)
  clear hb hv1
  go_wp2_with fail
  refine hK.out _ _ (HK.out _ HB.out) (fun hHeld => ?_)
  clear hK K
  try simp only [Act.put, List.setIfInBounds_toArray, List.set_cons_zero, List.set_cons_succ]
  refine wpAnyH_ready (rs := [3]) (by kernel_rfl) (by simp) ?_
  refine AllReadyH.cons (o := { dst := some 11, op := Op.call { callee := Callee.value (Operand.func 15), args := #[Operand.tmp 9, Operand.tmp 10], argTypes := #[52, 52] }, type := 52, pos := "kinds.go:320", after := #[{ on := 1, ground := Ground.data }, { on := 2, ground := Ground.data }, { on := 1, ground := Ground.chain }], guard := none }) rfl (fun K hK => ?_) AllReadyH.nil
  go_simp
  refine Calls.mono (HM.out _ _ _ _ HV.out HZ.out (by omega) (by omega)) ?_
  rintro e V1 ⟨v1, rfl, hv1, hb⟩
  have HV : Hid (IsBig v1 (9223372036854775807 * 4294967296)) := hv1
  have HB : Hid (Below W2.heap.size W2 V1) := HB.out.trans (hb.mono HB.out.size)
  clear hb hv1
  go_wp2_with fail
  refine hK.out _ _ (HK.out _ HB.out) (fun hHeld => ?_)
  clear hK K
  try simp only [Act.put, List.setIfInBounds_toArray, List.set_cons_zero, List.set_cons_succ]
  refine wpAnyH_ready (rs := [4]) (by kernel_rfl) (by simp) ?_
  refine AllReadyH.cons (o := { dst := some 12, op := Op.call { callee := Callee.value (Operand.func 29), args := #[Operand.tmp 8, Operand.tmp 11], argTypes := #[52, 52] }, type := 3, pos := "kinds.go:320", after := #[{ on := 0, ground := Ground.data }, { on := 3, ground := Ground.data }, { on := 3, ground := Ground.chain }], guard := none }) rfl (fun K hK => ?_) AllReadyH.nil
  go_simp
  refine Calls.mono (H1.out _ _ HV.out) ?_
  rintro e V1 ⟨rfl, hb⟩
  have HB : Hid (Below W2.heap.size W2 V1) := HB.out.trans (hb.mono HB.out.size)
  clear hb
  go_wp2_with fail
  refine hK.out _ _ (HK.out _ HB.out) (fun hHeld => ?_)
  clear hK K
  try simp only [Act.put, List.setIfInBounds_toArray, List.set_cons_zero, List.set_cons_succ]
  refine wpAnyH_take (i := 5) (oi := { dst := some 13, op := Op.binOp BinOp.gtr 3 (Operand.tmp 12) (Operand.const (Value.int IntKind.i64 0)) 3, type := 4, pos := "kinds.go:320", after := #[{ on := 4, ground := Ground.data }], guard := none }) (v := ?_) rfl (by kernel_rfl) (by kernel_rfl) (by kernel_rfl) (fun _ _ _ h => h) (Or.inl ⟨by rfl, ?_⟩) hHeld ?_
  rotate_left
  · (intro w hSw; (try dsimp only at hSw); go_simp; all_goals (try with_reducible rfl))
  try simp only [Act.put, List.setIfInBounds_toArray, List.set_cons_zero, List.set_cons_succ]
  refine wpAnyH_take (i := 6) (oi := { dst := some 14, op := Op.move (Operand.tmp 13), type := 4, pos := "kinds.go:320", after := #[{ on := 5, ground := Ground.data }, { on := 4, ground := Ground.chain }], guard := none }) (v := ?_) rfl (by kernel_rfl) (by kernel_rfl) (by kernel_rfl) (fun _ _ _ h => h) (Or.inl ⟨by rfl, ?_⟩) hHeld ?_
  rotate_left
  · (intro w hSw; (try dsimp only at hSw); go_simp; all_goals (try with_reducible rfl))
  try simp only [Act.put, List.setIfInBounds_toArray, List.set_cons_zero, List.set_cons_succ]
  refine wpAnyH_take (i := 7) (oi := { dst := some 15, op := Op.load 52 (Operand.tmp 2), type := 52, pos := "kinds.go:320", after := #[{ on := 6, ground := Ground.guard }], guard := some (6, false) }) (v := ?_) rfl (by kernel_rfl) (by kernel_rfl) (by kernel_rfl) (fun _ _ _ h => h) (Or.inl ⟨by rfl, ?_⟩) hHeld ?_
  rotate_left
  · (intro w hSw; (try dsimp only at hSw); go_simp; all_goals (try with_reducible rfl))
  try simp only [Act.put, List.setIfInBounds_toArray, List.set_cons_zero, List.set_cons_succ]
  refine wpAnyH_take (i := 9) (oi := { dst := some 17, op := Op.load 52 (Operand.tmp 6), type := 52, pos := "kinds.go:320", after := #[{ on := 6, ground := Ground.guard }], guard := some (6, false) }) (v := ?_) rfl (by kernel_rfl) (by kernel_rfl) (by kernel_rfl) (fun _ _ _ h => h) (Or.inl ⟨by rfl, ?_⟩) hHeld ?_
  rotate_left
  · (intro w hSw; (try dsimp only at hSw); go_simp; all_goals (try with_reducible rfl))
  try simp only [Act.put, List.setIfInBounds_toArray, List.set_cons_zero, List.set_cons_succ]
  refine wpAnyH_ready (rs := [8]) (by kernel_rfl) (by simp) ?_
  refine AllReadyH.cons (o := { dst := some 16, op := Op.call { callee := Callee.value (Operand.func 16), args := #[Operand.const (Value.int IntKind.i64 (-9223372036854775808))], argTypes := #[3] }, type := 52, pos := "kinds.go:320", after := #[{ on := 6, ground := Ground.chain }, { on := 6, ground := Ground.guard }], guard := some (6, false) }) rfl (fun K hK => ?_) AllReadyH.nil
  go_simp
  refine Calls.mono (HO.out _ _ (by omega) (by omega)) ?_
  rintro e V1 ⟨v2, rfl, hv1, hb⟩
  have HV : Hid (IsBig v2 (-9223372036854775808)) := hv1
  have HB : Hid (Below W2.heap.size W2 V1) := HB.out.trans (hb.mono HB.out.size)
  clear hb hv1
  go_wp2_with fail
  refine hK.out _ _ (HK.out _ HB.out) (fun hHeld => ?_)
  clear hK K
  try simp only [Act.put, List.setIfInBounds_toArray, List.set_cons_zero, List.set_cons_succ]
  refine wpAnyH_ready (rs := [10]) (by kernel_rfl) (by simp) ?_
  refine AllReadyH.cons (o := { dst := some 18, op := Op.call { callee := Callee.value (Operand.func 15), args := #[Operand.tmp 16, Operand.tmp 17], argTypes := #[52, 52] }, type := 52, pos := "kinds.go:320", after := #[{ on := 8, ground := Ground.data }, { on := 9, ground := Ground.data }, { on := 8, ground := Ground.chain }, { on := 6, ground := Ground.guard }], guard := some (6, false) }) rfl (fun K hK => ?_) AllReadyH.nil
  go_simp
  refine Calls.mono (HM.out _ _ _ _ HV.out HZ.out (by omega) (by omega)) ?_
  rintro e V1 ⟨v3, rfl, hv1, hb⟩
  have HV : Hid (IsBig v3 (-9223372036854775808 * 4294967296)) := hv1
  have HB : Hid (Below W2.heap.size W2 V1) := HB.out.trans (hb.mono HB.out.size)
  clear hb hv1
  go_wp2_with fail
  refine hK.out _ _ (HK.out _ HB.out) (fun hHeld => ?_)
  clear hK K
  try simp only [Act.put, List.setIfInBounds_toArray, List.set_cons_zero, List.set_cons_succ]
  refine wpAnyH_ready (rs := [11]) (by kernel_rfl) (by simp) ?_
  refine AllReadyH.cons (o := { dst := some 19, op := Op.call { callee := Callee.value (Operand.func 29), args := #[Operand.tmp 15, Operand.tmp 18], argTypes := #[52, 52] }, type := 3, pos := "kinds.go:320", after := #[{ on := 7, ground := Ground.data }, { on := 10, ground := Ground.data }, { on := 10, ground := Ground.chain }, { on := 6, ground := Ground.guard }], guard := some (6, false) }) rfl (fun K hK => ?_) AllReadyH.nil
  go_simp
  refine Calls.mono (H2.out _ _ HV.out) ?_
  rintro e V1 ⟨rfl, hb⟩
  have HB : Hid (Below W2.heap.size W2 V1) := HB.out.trans (hb.mono HB.out.size)
  clear hb
  go_wp2_with fail
  refine hK.out _ _ (HK.out _ HB.out) (fun hHeld => ?_)
  clear hK K
  try simp only [Act.put, List.setIfInBounds_toArray, List.set_cons_zero, List.set_cons_succ]
  refine wpAnyH_take (i := 12) (oi := { dst := some 20, op := Op.binOp BinOp.lss 3 (Operand.tmp 19) (Operand.const (Value.int IntKind.i64 0)) 3, type := 4, pos := "kinds.go:320", after := #[{ on := 11, ground := Ground.data }, { on := 6, ground := Ground.guard }], guard := some (6, false) }) (v := ?_) rfl (by kernel_rfl) (by kernel_rfl) (by kernel_rfl) (fun _ _ _ h => h) (Or.inl ⟨by rfl, ?_⟩) hHeld ?_
  rotate_left
  · (intro w hSw; (try dsimp only at hSw); go_simp; all_goals (try with_reducible rfl))
  try simp only [Act.put, List.setIfInBounds_toArray, List.set_cons_zero, List.set_cons_succ]
  refine wpAnyH_take (i := 13) (oi := { dst := some 21, op := Op.pick (Operand.tmp 14) (Operand.const (Value.bool true)) (Operand.tmp 20), type := 4, pos := "kinds.go:320", after := #[{ on := 6, ground := Ground.data }, { on := 12, ground := Ground.data }], guard := none }) (v := ?_) rfl (by kernel_rfl) (by kernel_rfl) (by kernel_rfl) (fun _ _ _ h => h) (Or.inl ⟨by rfl, ?_⟩) hHeld ?_
  rotate_left
  · (intro w hSw; (try dsimp only at hSw); go_simp; all_goals (try with_reducible rfl))
  try simp only [Act.put, List.setIfInBounds_toArray, List.set_cons_zero, List.set_cons_succ]
  refine wpAnyH_done (by kernel_rfl) ?_ _
  clear hHeld
  go_wp2_with fail
  have HB : Hid (Below W2.heap.size W2 _) := HB.out.drew
  refine wp_region_held_drew (S := fun W' => W'.cell? ⟨w.heap.size, 0, none⟩ = some (.bool m) ∧ W'.cell? ⟨w.heap.size, 1, none⟩ = some (.int .i64 (d 0)) ∧ W'.cell? ⟨w.heap.size, 2, none⟩ = some (.int .i64 (d 1)) ∧ W'.cell? ⟨w.heap.size, 3, none⟩ = some (.int .i64 (d 2)) ∧ W'.cell? ⟨w.heap.size, 4, none⟩ = some (.int .i64 (d 3)) ∧ W'.cell? ⟨w.heap.size, 5, none⟩ = some (.int .i64 (d 4)) ∧ W'.cell? ⟨w.heap.size, 6, none⟩ = some (.int .i64 (d 5)) ∧ W'.cell? ⟨W1.heap.size, 0, none⟩ = some (.bool m1) ∧ W'.cell? ⟨W1.heap.size, 1, none⟩ = some (.int .i64 (d1 0)) ∧ W'.cell? ⟨W1.heap.size, 2, none⟩ = some (.int .i64 (d1 1)) ∧ W'.cell? ⟨W1.heap.size, 3, none⟩ = some (.int .i64 (d1 2)) ∧ W'.cell? ⟨W1.heap.size, 4, none⟩ = some (.int .i64 (d1 3)) ∧ W'.cell? ⟨W1.heap.size, 5, none⟩ = some (.int .i64 (d1 4)) ∧ W'.cell? ⟨W1.heap.size, 6, none⟩ = some (.int .i64 (d1 5))) (by kernel_rfl) (HK.out _ HB.out) (fun hHeld => ?_)
  refine wpAnyH_take (i := 0) (oi := { dst := some 22, op := Op.load 52 (Operand.tmp 2), type := 52, pos := "kinds.go:323", after := #[], guard := none }) (v := ?_) rfl (by kernel_rfl) (by kernel_rfl) (by kernel_rfl) (fun _ _ _ h => h) (Or.inl ⟨by rfl, ?_⟩) hHeld ?_
  rotate_left
  · (intro w hSw; (try dsimp only at hSw); go_simp; all_goals (try with_reducible rfl))
  try simp only [Act.put, List.setIfInBounds_toArray, List.set_cons_zero, List.set_cons_succ]
  refine wpAnyH_take (i := 1) (oi := { dst := some 23, op := Op.move (Operand.tmp 1), type := 3, pos := "kinds.go:323", after := #[], guard := none }) (v := ?_) rfl (by kernel_rfl) (by kernel_rfl) (by kernel_rfl) (fun _ _ _ h => h) (Or.inl ⟨by rfl, ?_⟩) hHeld ?_
  rotate_left
  · (intro w hSw; (try dsimp only at hSw); go_simp; all_goals (try with_reducible rfl))
  try simp only [Act.put, List.setIfInBounds_toArray, List.set_cons_zero, List.set_cons_succ]
  refine wpAnyH_take (i := 3) (oi := { dst := some 25, op := Op.load 52 (Operand.tmp 6), type := 52, pos := "kinds.go:323", after := #[], guard := none }) (v := ?_) rfl (by kernel_rfl) (by kernel_rfl) (by kernel_rfl) (fun _ _ _ h => h) (Or.inl ⟨by rfl, ?_⟩) hHeld ?_
  rotate_left
  · (intro w hSw; (try dsimp only at hSw); go_simp; all_goals (try with_reducible rfl))
  try simp only [Act.put, List.setIfInBounds_toArray, List.set_cons_zero, List.set_cons_succ]
  refine wpAnyH_ready (rs := [2]) (by kernel_rfl) (by simp) ?_
  refine AllReadyH.cons (o := { dst := some 24, op := Op.call { callee := Callee.value (Operand.func 16), args := #[Operand.tmp 23], argTypes := #[3] }, type := 52, pos := "kinds.go:323", after := #[{ on := 1, ground := Ground.data }], guard := none }) rfl (fun K hK => ?_) AllReadyH.nil
  go_simp
  refine Calls.mono (HO.out _ _ HN.out.1 HN.out.2) ?_
  rintro e V1 ⟨v4, rfl, hv1, hb⟩
  have HV : Hid (IsBig v4 num) := hv1
  have HB : Hid (Below W2.heap.size W2 V1) := HB.out.trans (hb.mono HB.out.size)
  clear hb hv1
  go_wp2_with fail
  refine hK.out _ _ (HK.out _ HB.out) (fun hHeld => ?_)
  clear hK K
  try simp only [Act.put, List.setIfInBounds_toArray, List.set_cons_zero, List.set_cons_succ]
  refine wpAnyH_ready (rs := [4]) (by kernel_rfl) (by simp) ?_
  refine AllReadyH.cons (o := { dst := some 26, op := Op.call { callee := Callee.value (Operand.func 15), args := #[Operand.tmp 24, Operand.tmp 25], argTypes := #[52, 52] }, type := 52, pos := "kinds.go:323", after := #[{ on := 2, ground := Ground.data }, { on := 3, ground := Ground.data }, { on := 2, ground := Ground.chain }], guard := none }) rfl (fun K hK => ?_) AllReadyH.nil
  go_simp
  refine Calls.mono (HM.out _ _ _ _ HV.out HZ.out HN.out.1 HN.out.2) ?_
  rintro e V1 ⟨v5, rfl, hv1, hb⟩
  have HV : Hid (IsBig v5 (num * 4294967296)) := hv1
  have HB : Hid (Below W2.heap.size W2 V1) := HB.out.trans (hb.mono HB.out.size)
  clear hb hv1
  go_wp2_with fail
  refine hK.out _ _ (HK.out _ HB.out) (fun hHeld => ?_)
  clear hK K
  try simp only [Act.put, List.setIfInBounds_toArray, List.set_cons_zero, List.set_cons_succ]
  refine wpAnyH_ready (rs := [5]) (by kernel_rfl) (by simp) ?_
  refine AllReadyH.cons (o := { dst := some 27, op := Op.call { callee := Callee.value (Operand.func 29), args := #[Operand.tmp 22, Operand.tmp 26], argTypes := #[52, 52] }, type := 3, pos := "kinds.go:323", after := #[{ on := 0, ground := Ground.data }, { on := 4, ground := Ground.data }, { on := 4, ground := Ground.chain }], guard := none }) rfl (fun K hK => ?_) AllReadyH.nil
  go_simp
  refine Calls.mono (H3.out _ _ HV.out) ?_
  rintro e V1 ⟨rfl, hb⟩
  have HB : Hid (Below W2.heap.size W2 V1) := HB.out.trans (hb.mono HB.out.size)
  clear hb
  go_wp2_with fail
  refine hK.out _ _ (HK.out _ HB.out) (fun hHeld => ?_)
  clear hK K
  try simp only [Act.put, List.setIfInBounds_toArray, List.set_cons_zero, List.set_cons_succ]
  refine wpAnyH_take (i := 6) (oi := { dst := some 28, op := Op.binOp BinOp.leq 3 (Operand.tmp 27) (Operand.const (Value.int IntKind.i64 0)) 3, type := 4, pos := "kinds.go:323", after := #[{ on := 5, ground := Ground.data }], guard := none }) (v := ?_) rfl (by kernel_rfl) (by kernel_rfl) (by kernel_rfl) (fun _ _ _ h => h) (Or.inl ⟨by rfl, ?_⟩) hHeld ?_
  rotate_left
  · (intro w hSw; (try dsimp only at hSw); go_simp; all_goals (try with_reducible rfl))
  try simp only [Act.put, List.setIfInBounds_toArray, List.set_cons_zero, List.set_cons_succ]
  refine wpAnyH_take (i := 7) (oi := { dst := some 4, op := Op.assign (Operand.tmp 28), type := 4, pos := "kinds.go:323", after := #[{ on := 6, ground := Ground.data }, { on := 5, ground := Ground.chain }, { on := 0, ground := Ground.phase }, { on := 1, ground := Ground.phase }, { on := 2, ground := Ground.phase }, { on := 3, ground := Ground.phase }, { on := 4, ground := Ground.phase }, { on := 5, ground := Ground.phase }, { on := 6, ground := Ground.phase }], guard := none }) (v := ?_) rfl (by kernel_rfl) (by kernel_rfl) (by kernel_rfl) (fun _ _ _ h => h) (Or.inl ⟨by rfl, ?_⟩) hHeld ?_
  rotate_left
  · (intro w hSw; (try dsimp only at hSw); go_simp; all_goals (try with_reducible rfl))
  try simp only [Act.put, List.setIfInBounds_toArray, List.set_cons_zero, List.set_cons_succ]
  refine wpAnyH_take (i := 8) (oi := { dst := some 5, op := Op.assign (Operand.const (Value.bool false)), type := 4, pos := "kinds.go:323", after := #[{ on := 7, ground := Ground.chain }, { on := 0, ground := Ground.phase }, { on := 1, ground := Ground.phase }, { on := 2, ground := Ground.phase }, { on := 3, ground := Ground.phase }, { on := 4, ground := Ground.phase }, { on := 5, ground := Ground.phase }, { on := 6, ground := Ground.phase }, { on := 7, ground := Ground.phase }], guard := none }) (v := ?_) rfl (by kernel_rfl) (by kernel_rfl) (by kernel_rfl) (fun _ _ _ h => h) (Or.inl ⟨by rfl, ?_⟩) hHeld ?_
  rotate_left
  · (intro w hSw; (try dsimp only at hSw); go_simp; all_goals (try with_reducible rfl))
  try simp only [Act.put, List.setIfInBounds_toArray, List.set_cons_zero, List.set_cons_succ]
  refine wpAnyH_done (by kernel_rfl) ?_ _
  clear hHeld
  go_wp2
  exact bodyPost_ret (v := .tuple #[.bool (decide (k3 ≤ 0)), .bool false]) (by simp [results, Try.results17, go_sem]) rfl ⟨rfl, HW2.out.trans (HB.out.mono HW2.out.size)⟩
set_option maxHeartbeats 8000000 in
theorem judge_pp (m : Bool) (d : Nat → Int) (num k3 : Int) (w : World) (hn : B64 num)
    (HM : Hid (∀ u z c X, IsBig u c → IsBig z 4294967296 → -9223372036854775808 ≤ c → c ≤ 9223372036854775807 → Calls Try.prog 15 #[u, z] X fun e X' => ∃ v', e = .returned v' ∧ IsBig v' (c * 4294967296) ∧ Below X.heap.size X X'))
    (H1 : Hid (∀ z X, IsBig z (9223372036854775807 * 4294967296) → Calls Try.prog 29 #[bigC m d, z] X fun e X' => e = .returned (.int .i64 1) ∧ Below X.heap.size X X'))
    (H2 : Hid (∀ z X, IsBig z (-9223372036854775808 * 4294967296) → Calls Try.prog 29 #[bigC m d, z] X fun e X' => e = .returned (.int .i64 1) ∧ Below X.heap.size X X'))
    (H3 : Hid (∀ z X, IsBig z (num * 4294967296) → Calls Try.prog 29 #[bigC m d, z] X fun e X' => e = .returned (.int .i64 k3) ∧ Below X.heap.size X X')) :
    Calls Try.prog 17 #[bigC m d, .int .i64 num] w fun e w' => e = .returned (.tuple #[.bool false, .bool true]) ∧ Below w.heap.size w w' := by
  unfold bigC at *
  have HO : Hid (∀ c X, -9223372036854775808 ≤ c → c ≤ 9223372036854775807 → Calls Try.prog 16 #[.int .i64 c] X fun e X' => ∃ v', e = .returned v' ∧ IsBig v' c ∧ Below X.heap.size X X') := fun c X a b => of_big c X a b
  have HN : Hid (B64 num) := hn
  clear hn
  go_enter Try.func17, Try.ntmps17
  go_wp2_with fail
  refine Calls.mono (HO.out 4294967296 _ (by omega) (by omega)) ?_
  rintro e W1 ⟨z, rfl, hz, hw⟩
  have HZ : Hid (IsBig z 4294967296) := hz
  obtain ⟨m1, d1, rfl, hd1, hd2, hd3⟩ := hz
  clear hd1 hd2 hd3
  have HW1 : Hid (Below w.heap.size w W1) := ((Below.refl _ _).alloc (Nat.le_refl _) _).trans (hw.mono (by simp))
  have A1 : BigAt W1 w.heap.size m d := BigAt.below (bigAt_of (by simp [go_sem]) (by simp [go_sem]) (by simp [go_sem]) (by simp [go_sem]) (by simp [go_sem]) (by simp [go_sem]) (by simp [go_sem]) (fun j => by simp [go_sem])) hw
  have HA1 : Hid (BigAt W1 w.heap.size m d) := A1
  clear hw A1
  go_wp2_with fail
  obtain ⟨W2, hW2⟩ : ∃ Z, (W1.alloc (.cells #[.bool m1, .int .i64 (d1 0), .int .i64 (d1 1), .int .i64 (d1 2), .int .i64 (d1 3), .int .i64 (d1 4), .int .i64 (d1 5)] 52)) = Z := ⟨_, rfl⟩
  have A2 : BigAt W2 w.heap.size m d := by rw [← hW2]; exact HA1.out.below ((Below.refl _ _).alloc (Nat.le_refl _) _)
  have B2 : BigAt W2 W1.heap.size m1 d1 := by rw [← hW2]; exact bigAt_of (by simp [go_sem]) (by simp [go_sem]) (by simp [go_sem]) (by simp [go_sem]) (by simp [go_sem]) (by simp [go_sem]) (by simp [go_sem]) (fun j => by simp [go_sem])
  have HW2 : Hid (Below w.heap.size w W2) := by rw [← hW2]; exact HW1.out.alloc HW1.out.size _
  rw [hW2]
  clear hW2 HA1
  have HK : Hid (∀ W', Below W2.heap.size W2 W' → W'.cell? ⟨w.heap.size, 0, none⟩ = some (.bool m) ∧ W'.cell? ⟨w.heap.size, 1, none⟩ = some (.int .i64 (d 0)) ∧ W'.cell? ⟨w.heap.size, 2, none⟩ = some (.int .i64 (d 1)) ∧ W'.cell? ⟨w.heap.size, 3, none⟩ = some (.int .i64 (d 2)) ∧ W'.cell? ⟨w.heap.size, 4, none⟩ = some (.int .i64 (d 3)) ∧ W'.cell? ⟨w.heap.size, 5, none⟩ = some (.int .i64 (d 4)) ∧ W'.cell? ⟨w.heap.size, 6, none⟩ = some (.int .i64 (d 5)) ∧ W'.cell? ⟨W1.heap.size, 0, none⟩ = some (.bool m1) ∧ W'.cell? ⟨W1.heap.size, 1, none⟩ = some (.int .i64 (d1 0)) ∧ W'.cell? ⟨W1.heap.size, 2, none⟩ = some (.int .i64 (d1 1)) ∧ W'.cell? ⟨W1.heap.size, 3, none⟩ = some (.int .i64 (d1 2)) ∧ W'.cell? ⟨W1.heap.size, 4, none⟩ = some (.int .i64 (d1 3)) ∧ W'.cell? ⟨W1.heap.size, 5, none⟩ = some (.int .i64 (d1 4)) ∧ W'.cell? ⟨W1.heap.size, 6, none⟩ = some (.int .i64 (d1 5))) := by
    intro W' hb
    have A3 := A2.below hb
    have B3 := B2.below hb
    exact ⟨A3.s, A3.c 0 (by omega), A3.c 1 (by omega), A3.c 2 (by omega), A3.c 3 (by omega), A3.c 4 (by omega), A3.c 5 (by omega), B3.s, B3.c 0 (by omega), B3.c 1 (by omega), B3.c 2 (by omega), B3.c 3 (by omega), B3.c 4 (by omega), B3.c 5 (by omega)⟩
  clear A2 B2
  have HB : Hid (Below W2.heap.size W2 W2.drew) := (Below.refl _ _).drew
  refine wp_region_held_drew (S := fun W' => W'.cell? ⟨w.heap.size, 0, none⟩ = some (.bool m) ∧ W'.cell? ⟨w.heap.size, 1, none⟩ = some (.int .i64 (d 0)) ∧ W'.cell? ⟨w.heap.size, 2, none⟩ = some (.int .i64 (d 1)) ∧ W'.cell? ⟨w.heap.size, 3, none⟩ = some (.int .i64 (d 2)) ∧ W'.cell? ⟨w.heap.size, 4, none⟩ = some (.int .i64 (d 3)) ∧ W'.cell? ⟨w.heap.size, 5, none⟩ = some (.int .i64 (d 4)) ∧ W'.cell? ⟨w.heap.size, 6, none⟩ = some (.int .i64 (d 5)) ∧ W'.cell? ⟨W1.heap.size, 0, none⟩ = some (.bool m1) ∧ W'.cell? ⟨W1.heap.size, 1, none⟩ = some (.int .i64 (d1 0)) ∧ W'.cell? ⟨W1.heap.size, 2, none⟩ = some (.int .i64 (d1 1)) ∧ W'.cell? ⟨W1.heap.size, 3, none⟩ = some (.int .i64 (d1 2)) ∧ W'.cell? ⟨W1.heap.size, 4, none⟩ = some (.int .i64 (d1 3)) ∧ W'.cell? ⟨W1.heap.size, 5, none⟩ = some (.int .i64 (d1 4)) ∧ W'.cell? ⟨W1.heap.size, 6, none⟩ = some (.int .i64 (d1 5))) (by kernel_rfl) (HK.out _ HB.out) (fun hHeld => ?_)
  refine wpAnyH_take (i := 0) (oi := { dst := some 8, op := Op.load 52 (Operand.tmp 2), type := 52, pos := "kinds.go:320", after := #[], guard := none }) (v := ?_) rfl (by kernel_rfl) (by kernel_rfl) (by kernel_rfl) (fun _ _ _ h => h) (Or.inl ⟨by rfl, ?_⟩) hHeld ?_
  rotate_left
  · (intro w hSw; (try dsimp only at hSw); go_simp; all_goals (try with_reducible rfl))
  try simp only [Act.put, List.setIfInBounds_toArray, List.set_cons_zero, List.set_cons_succ]
  refine wpAnyH_take (i := 2) (oi := { dst := some 10, op := Op.load 52 (Operand.tmp 6), type := 52, pos := "kinds.go:320", after := #[], guard := none }) (v := ?_) rfl (by kernel_rfl) (by kernel_rfl) (by kernel_rfl) (fun _ _ _ h => h) (Or.inl ⟨by rfl, ?_⟩) hHeld ?_
  rotate_left
  · (intro w hSw; (try dsimp only at hSw); go_simp; all_goals (try with_reducible rfl))
  try simp only [Act.put, List.setIfInBounds_toArray, List.set_cons_zero, List.set_cons_succ]
  refine wpAnyH_ready (rs := [1]) (by kernel_rfl) (by simp) ?_
  refine AllReadyH.cons (o := { dst := some 9, op := Op.call { callee := Callee.value (Operand.func 16), args := #[Operand.const (Value.int IntKind.i64 9223372036854775807)], argTypes := #[3] }, type := 52, pos := "kinds.go:320", after := #[], guard := none }) rfl (fun K hK => ?_) AllReadyH.nil
  go_simp
  refine Calls.mono (HO.out _ _ (by omega) (by omega)) ?_
  rintro e V1 ⟨v1, rfl, hv1, hb⟩
  have HV : Hid (IsBig v1 9223372036854775807) := hv1
  have HB : Hid (Below W2.heap.size W2 V1) := HB.out.trans (hb.mono HB.out.size)
  clear hb hv1
  go_wp2_with fail
  refine hK.out _ _ (HK.out _ HB.out) (fun hHeld => ?_)
  clear hK K
  try simp only [Act.put, List.setIfInBounds_toArray, List.set_cons_zero, List.set_cons_succ]
  refine wpAnyH_ready (rs := [3]) (by kernel_rfl) (by simp) ?_
  refine AllReadyH.cons (o := { dst := some 11, op := Op.call { callee := Callee.value (Operand.func 15), args := #[Operand.tmp 9, Operand.tmp 10], argTypes := #[52, 52] }, type := 52, pos := "kinds.go:320", after := #[{ on := 1, ground := Ground.data }, { on := 2, ground := Ground.data }, { on := 1, ground := Ground.chain }], guard := none }) rfl (fun K hK => ?_) AllReadyH.nil
  go_simp
  refine Calls.mono (HM.out _ _ _ _ HV.out HZ.out (by omega) (by omega)) ?_
  rintro e V1 ⟨v1, rfl, hv1, hb⟩
  have HV : Hid (IsBig v1 (9223372036854775807 * 4294967296)) := hv1
  have HB : Hid (Below W2.heap.size W2 V1) := HB.out.trans (hb.mono HB.out.size)
  clear hb hv1
  go_wp2_with fail
  refine hK.out _ _ (HK.out _ HB.out) (fun hHeld => ?_)
  clear hK K
  try simp only [Act.put, List.setIfInBounds_toArray, List.set_cons_zero, List.set_cons_succ]
  refine wpAnyH_ready (rs := [4]) (by kernel_rfl) (by simp) ?_
  refine AllReadyH.cons (o := { dst := some 12, op := Op.call { callee := Callee.value (Operand.func 29), args := #[Operand.tmp 8, Operand.tmp 11], argTypes := #[52, 52] }, type := 3, pos := "kinds.go:320", after := #[{ on := 0, ground := Ground.data }, { on := 3, ground := Ground.data }, { on := 3, ground := Ground.chain }], guard := none }) rfl (fun K hK => ?_) AllReadyH.nil
  go_simp
  refine Calls.mono (H1.out _ _ HV.out) ?_
  rintro e V1 ⟨rfl, hb⟩
  have HB : Hid (Below W2.heap.size W2 V1) := HB.out.trans (hb.mono HB.out.size)
  clear hb
  go_wp2_with fail
  refine hK.out _ _ (HK.out _ HB.out) (fun hHeld => ?_)
  clear hK K
  try simp only [Act.put, List.setIfInBounds_toArray, List.set_cons_zero, List.set_cons_succ]
  refine wpAnyH_take (i := 5) (oi := { dst := some 13, op := Op.binOp BinOp.gtr 3 (Operand.tmp 12) (Operand.const (Value.int IntKind.i64 0)) 3, type := 4, pos := "kinds.go:320", after := #[{ on := 4, ground := Ground.data }], guard := none }) (v := ?_) rfl (by kernel_rfl) (by kernel_rfl) (by kernel_rfl) (fun _ _ _ h => h) (Or.inl ⟨by rfl, ?_⟩) hHeld ?_
  rotate_left
  · (intro w hSw; (try dsimp only at hSw); go_simp; all_goals (try with_reducible rfl))
  try simp only [Act.put, List.setIfInBounds_toArray, List.set_cons_zero, List.set_cons_succ]
  refine wpAnyH_take (i := 6) (oi := { dst := some 14, op := Op.move (Operand.tmp 13), type := 4, pos := "kinds.go:320", after := #[{ on := 5, ground := Ground.data }, { on := 4, ground := Ground.chain }], guard := none }) (v := ?_) rfl (by kernel_rfl) (by kernel_rfl) (by kernel_rfl) (fun _ _ _ h => h) (Or.inl ⟨by rfl, ?_⟩) hHeld ?_
  rotate_left
  · (intro w hSw; (try dsimp only at hSw); go_simp; all_goals (try with_reducible rfl))
  try simp only [Act.put, List.setIfInBounds_toArray, List.set_cons_zero, List.set_cons_succ]
  refine wpAnyH_take (i := 7) (oi := { dst := some 15, op := Op.load 52 (Operand.tmp 2), type := 52, pos := "kinds.go:320", after := #[{ on := 6, ground := Ground.guard }], guard := some (6, false) }) (v := undef) rfl (by kernel_rfl) (by kernel_rfl) (by kernel_rfl) (fun _ _ _ h => h) (Or.inr ⟨by rfl, rfl⟩) hHeld ?_
  try simp only [Act.put, List.setIfInBounds_toArray, List.set_cons_zero, List.set_cons_succ]
  refine wpAnyH_take (i := 8) (oi := { dst := some 16, op := Op.call { callee := Callee.value (Operand.func 16), args := #[Operand.const (Value.int IntKind.i64 (-9223372036854775808))], argTypes := #[3] }, type := 52, pos := "kinds.go:320", after := #[{ on := 6, ground := Ground.chain }, { on := 6, ground := Ground.guard }], guard := some (6, false) }) (v := undef) rfl (by kernel_rfl) (by kernel_rfl) (by kernel_rfl) (fun _ _ _ h => h) (Or.inr ⟨by rfl, rfl⟩) hHeld ?_
  try simp only [Act.put, List.setIfInBounds_toArray, List.set_cons_zero, List.set_cons_succ]
  refine wpAnyH_take (i := 9) (oi := { dst := some 17, op := Op.load 52 (Operand.tmp 6), type := 52, pos := "kinds.go:320", after := #[{ on := 6, ground := Ground.guard }], guard := some (6, false) }) (v := undef) rfl (by kernel_rfl) (by kernel_rfl) (by kernel_rfl) (fun _ _ _ h => h) (Or.inr ⟨by rfl, rfl⟩) hHeld ?_
  try simp only [Act.put, List.setIfInBounds_toArray, List.set_cons_zero, List.set_cons_succ]
  refine wpAnyH_take (i := 10) (oi := { dst := some 18, op := Op.call { callee := Callee.value (Operand.func 15), args := #[Operand.tmp 16, Operand.tmp 17], argTypes := #[52, 52] }, type := 52, pos := "kinds.go:320", after := #[{ on := 8, ground := Ground.data }, { on := 9, ground := Ground.data }, { on := 8, ground := Ground.chain }, { on := 6, ground := Ground.guard }], guard := some (6, false) }) (v := undef) rfl (by kernel_rfl) (by kernel_rfl) (by kernel_rfl) (fun _ _ _ h => h) (Or.inr ⟨by rfl, rfl⟩) hHeld ?_
  try simp only [Act.put, List.setIfInBounds_toArray, List.set_cons_zero, List.set_cons_succ]
  refine wpAnyH_take (i := 11) (oi := { dst := some 19, op := Op.call { callee := Callee.value (Operand.func 29), args := #[Operand.tmp 15, Operand.tmp 18], argTypes := #[52, 52] }, type := 3, pos := "kinds.go:320", after := #[{ on := 7, ground := Ground.data }, { on := 10, ground := Ground.data }, { on := 10, ground := Ground.chain }, { on := 6, ground := Ground.guard }], guard := some (6, false) }) (v := undef) rfl (by kernel_rfl) (by kernel_rfl) (by kernel_rfl) (fun _ _ _ h => h) (Or.inr ⟨by rfl, rfl⟩) hHeld ?_
  try simp only [Act.put, List.setIfInBounds_toArray, List.set_cons_zero, List.set_cons_succ]
  refine wpAnyH_take (i := 12) (oi := { dst := some 20, op := Op.binOp BinOp.lss 3 (Operand.tmp 19) (Operand.const (Value.int IntKind.i64 0)) 3, type := 4, pos := "kinds.go:320", after := #[{ on := 11, ground := Ground.data }, { on := 6, ground := Ground.guard }], guard := some (6, false) }) (v := undef) rfl (by kernel_rfl) (by kernel_rfl) (by kernel_rfl) (fun _ _ _ h => h) (Or.inr ⟨by rfl, rfl⟩) hHeld ?_
  try simp only [Act.put, List.setIfInBounds_toArray, List.set_cons_zero, List.set_cons_succ]
  refine wpAnyH_take (i := 13) (oi := { dst := some 21, op := Op.pick (Operand.tmp 14) (Operand.const (Value.bool true)) (Operand.tmp 20), type := 4, pos := "kinds.go:320", after := #[{ on := 6, ground := Ground.data }, { on := 12, ground := Ground.data }], guard := none }) (v := ?_) rfl (by kernel_rfl) (by kernel_rfl) (by kernel_rfl) (fun _ _ _ h => h) (Or.inl ⟨by rfl, ?_⟩) hHeld ?_
  rotate_left
  · (intro w hSw; (try dsimp only at hSw); go_simp; all_goals (try with_reducible rfl))
  try simp only [Act.put, List.setIfInBounds_toArray, List.set_cons_zero, List.set_cons_succ]
  refine wpAnyH_done (by kernel_rfl) ?_ _
  clear hHeld
  go_wp2
  exact bodyPost_ret (v := .tuple #[.bool false, .bool true]) (by simp [results, Try.results17, go_sem]) rfl ⟨rfl, HW2.out.trans (HB.out.mono HW2.out.size)⟩
set_option maxHeartbeats 8000000 in
theorem judge_mm (m : Bool) (d : Nat → Int) (num k3 : Int) (w : World) (hn : B64 num)
    (HM : Hid (∀ u z c X, IsBig u c → IsBig z 4294967296 → -9223372036854775808 ≤ c → c ≤ 9223372036854775807 → Calls Try.prog 15 #[u, z] X fun e X' => ∃ v', e = .returned v' ∧ IsBig v' (c * 4294967296) ∧ Below X.heap.size X X'))
    (H1 : Hid (∀ z X, IsBig z (9223372036854775807 * 4294967296) → Calls Try.prog 29 #[bigC m d, z] X fun e X' => e = .returned (.int .i64 (-1)) ∧ Below X.heap.size X X'))
    (H2 : Hid (∀ z X, IsBig z (-9223372036854775808 * 4294967296) → Calls Try.prog 29 #[bigC m d, z] X fun e X' => e = .returned (.int .i64 (-1)) ∧ Below X.heap.size X X'))
    (H3 : Hid (∀ z X, IsBig z (num * 4294967296) → Calls Try.prog 29 #[bigC m d, z] X fun e X' => e = .returned (.int .i64 k3) ∧ Below X.heap.size X X')) :
    Calls Try.prog 17 #[bigC m d, .int .i64 num] w fun e w' => e = .returned (.tuple #[.bool false, .bool true]) ∧ Below w.heap.size w w' := by
  unfold bigC at *
  have HO : Hid (∀ c X, -9223372036854775808 ≤ c → c ≤ 9223372036854775807 → Calls Try.prog 16 #[.int .i64 c] X fun e X' => ∃ v', e = .returned v' ∧ IsBig v' c ∧ Below X.heap.size X X') := fun c X a b => of_big c X a b
  have HN : Hid (B64 num) := hn
  clear hn
  go_enter Try.func17, Try.ntmps17
  go_wp2_with fail
  refine Calls.mono (HO.out 4294967296 _ (by omega) (by omega)) ?_
  rintro e W1 ⟨z, rfl, hz, hw⟩
  have HZ : Hid (IsBig z 4294967296) := hz
  obtain ⟨m1, d1, rfl, hd1, hd2, hd3⟩ := hz
  clear hd1 hd2 hd3
  have HW1 : Hid (Below w.heap.size w W1) := ((Below.refl _ _).alloc (Nat.le_refl _) _).trans (hw.mono (by simp))
  have A1 : BigAt W1 w.heap.size m d := BigAt.below (bigAt_of (by simp [go_sem]) (by simp [go_sem]) (by simp [go_sem]) (by simp [go_sem]) (by simp [go_sem]) (by simp [go_sem]) (by simp [go_sem]) (fun j => by simp [go_sem])) hw
  have HA1 : Hid (BigAt W1 w.heap.size m d) := A1
  clear hw A1
  go_wp2_with fail
  obtain ⟨W2, hW2⟩ : ∃ Z, (W1.alloc (.cells #[.bool m1, .int .i64 (d1 0), .int .i64 (d1 1), .int .i64 (d1 2), .int .i64 (d1 3), .int .i64 (d1 4), .int .i64 (d1 5)] 52)) = Z := ⟨_, rfl⟩
  have A2 : BigAt W2 w.heap.size m d := by rw [← hW2]; exact HA1.out.below ((Below.refl _ _).alloc (Nat.le_refl _) _)
  have B2 : BigAt W2 W1.heap.size m1 d1 := by rw [← hW2]; exact bigAt_of (by simp [go_sem]) (by simp [go_sem]) (by simp [go_sem]) (by simp [go_sem]) (by simp [go_sem]) (by simp [go_sem]) (by simp [go_sem]) (fun j => by simp [go_sem])
  have HW2 : Hid (Below w.heap.size w W2) := by rw [← hW2]; exact HW1.out.alloc HW1.out.size _
  rw [hW2]
  clear hW2 HA1
  have HK : Hid (∀ W', Below W2.heap.size W2 W' → W'.cell? ⟨w.heap.size, 0, none⟩ = some (.bool m) ∧ W'.cell? ⟨w.heap.size, 1, none⟩ = some (.int .i64 (d 0)) ∧ W'.cell? ⟨w.heap.size, 2, none⟩ = some (.int .i64 (d 1)) ∧ W'.cell? ⟨w.heap.size, 3, none⟩ = some (.int .i64 (d 2)) ∧ W'.cell? ⟨w.heap.size, 4, none⟩ = some (.int .i64 (d 3)) ∧ W'.cell? ⟨w.heap.size, 5, none⟩ = some (.int .i64 (d 4)) ∧ W'.cell? ⟨w.heap.size, 6, none⟩ = some (.int .i64 (d 5)) ∧ W'.cell? ⟨W1.heap.size, 0, none⟩ = some (.bool m1) ∧ W'.cell? ⟨W1.heap.size, 1, none⟩ = some (.int .i64 (d1 0)) ∧ W'.cell? ⟨W1.heap.size, 2, none⟩ = some (.int .i64 (d1 1)) ∧ W'.cell? ⟨W1.heap.size, 3, none⟩ = some (.int .i64 (d1 2)) ∧ W'.cell? ⟨W1.heap.size, 4, none⟩ = some (.int .i64 (d1 3)) ∧ W'.cell? ⟨W1.heap.size, 5, none⟩ = some (.int .i64 (d1 4)) ∧ W'.cell? ⟨W1.heap.size, 6, none⟩ = some (.int .i64 (d1 5))) := by
    intro W' hb
    have A3 := A2.below hb
    have B3 := B2.below hb
    exact ⟨A3.s, A3.c 0 (by omega), A3.c 1 (by omega), A3.c 2 (by omega), A3.c 3 (by omega), A3.c 4 (by omega), A3.c 5 (by omega), B3.s, B3.c 0 (by omega), B3.c 1 (by omega), B3.c 2 (by omega), B3.c 3 (by omega), B3.c 4 (by omega), B3.c 5 (by omega)⟩
  clear A2 B2
  have HB : Hid (Below W2.heap.size W2 W2.drew) := (Below.refl _ _).drew
  refine wp_region_held_drew (S := fun W' => W'.cell? ⟨w.heap.size, 0, none⟩ = some (.bool m) ∧ W'.cell? ⟨w.heap.size, 1, none⟩ = some (.int .i64 (d 0)) ∧ W'.cell? ⟨w.heap.size, 2, none⟩ = some (.int .i64 (d 1)) ∧ W'.cell? ⟨w.heap.size, 3, none⟩ = some (.int .i64 (d 2)) ∧ W'.cell? ⟨w.heap.size, 4, none⟩ = some (.int .i64 (d 3)) ∧ W'.cell? ⟨w.heap.size, 5, none⟩ = some (.int .i64 (d 4)) ∧ W'.cell? ⟨w.heap.size, 6, none⟩ = some (.int .i64 (d 5)) ∧ W'.cell? ⟨W1.heap.size, 0, none⟩ = some (.bool m1) ∧ W'.cell? ⟨W1.heap.size, 1, none⟩ = some (.int .i64 (d1 0)) ∧ W'.cell? ⟨W1.heap.size, 2, none⟩ = some (.int .i64 (d1 1)) ∧ W'.cell? ⟨W1.heap.size, 3, none⟩ = some (.int .i64 (d1 2)) ∧ W'.cell? ⟨W1.heap.size, 4, none⟩ = some (.int .i64 (d1 3)) ∧ W'.cell? ⟨W1.heap.size, 5, none⟩ = some (.int .i64 (d1 4)) ∧ W'.cell? ⟨W1.heap.size, 6, none⟩ = some (.int .i64 (d1 5))) (by kernel_rfl) (HK.out _ HB.out) (fun hHeld => ?_)
  refine wpAnyH_take (i := 0) (oi := { dst := some 8, op := Op.load 52 (Operand.tmp 2), type := 52, pos := "kinds.go:320", after := #[], guard := none }) (v := ?_) rfl (by kernel_rfl) (by kernel_rfl) (by kernel_rfl) (fun _ _ _ h => h) (Or.inl ⟨by rfl, ?_⟩) hHeld ?_
  rotate_left
  · (intro w hSw; (try dsimp only at hSw); go_simp; all_goals (try with_reducible rfl))
  try simp only [Act.put, List.setIfInBounds_toArray, List.set_cons_zero, List.set_cons_succ]
  refine wpAnyH_take (i := 2) (oi := { dst := some 10, op := Op.load 52 (Operand.tmp 6), type := 52, pos := "kinds.go:320", after := #[], guard := none }) (v := ?_) rfl (by kernel_rfl) (by kernel_rfl) (by kernel_rfl) (fun _ _ _ h => h) (Or.inl ⟨by rfl, ?_⟩) hHeld ?_
  rotate_left
  · (intro w hSw; (try dsimp only at hSw); go_simp; all_goals (try with_reducible rfl))
  try simp only [Act.put, List.setIfInBounds_toArray, List.set_cons_zero, List.set_cons_succ]
  refine wpAnyH_ready (rs := [1]) (by kernel_rfl) (by simp) ?_
  refine AllReadyH.cons (o := { dst := some 9, op := Op.call { callee := Callee.value (Operand.func 16), args := #[Operand.const (Value.int IntKind.i64 9223372036854775807)], argTypes := #[3] }, type := 52, pos := "kinds.go:320", after := #[], guard := none }) rfl (fun K hK => ?_) AllReadyH.nil
  go_simp
  refine Calls.mono (HO.out _ _ (by omega) (by omega)) ?_
  rintro e V1 ⟨v1, rfl, hv1, hb⟩
  have HV : Hid (IsBig v1 9223372036854775807) := hv1
  have HB : Hid (Below W2.heap.size W2 V1) := HB.out.trans (hb.mono HB.out.size)
  clear hb hv1
  go_wp2_with fail
  refine hK.out _ _ (HK.out _ HB.out) (fun hHeld => ?_)
  clear hK K
  try simp only [Act.put, List.setIfInBounds_toArray, List.set_cons_zero, List.set_cons_succ]
  refine wpAnyH_ready (rs := [3]) (by kernel_rfl) (by simp) ?_
  refine AllReadyH.cons (o := { dst := some 11, op := Op.call { callee := Callee.value (Operand.func 15), args := #[Operand.tmp 9, Operand.tmp 10], argTypes := #[52, 52] }, type := 52, pos := "kinds.go:320", after := #[{ on := 1, ground := Ground.data }, { on := 2, ground := Ground.data }, { on := 1, ground := Ground.chain }], guard := none }) rfl (fun K hK => ?_) AllReadyH.nil
  go_simp
  refine Calls.mono (HM.out _ _ _ _ HV.out HZ.out (by omega) (by omega)) ?_
  rintro e V1 ⟨v1, rfl, hv1, hb⟩
  have HV : Hid (IsBig v1 (9223372036854775807 * 4294967296)) := hv1
  have HB : Hid (Below W2.heap.size W2 V1) := HB.out.trans (hb.mono HB.out.size)
  clear hb hv1
  go_wp2_with fail
  refine hK.out _ _ (HK.out _ HB.out) (fun hHeld => ?_)
  clear hK K
  try simp only [Act.put, List.setIfInBounds_toArray, List.set_cons_zero, List.set_cons_succ]
  refine wpAnyH_ready (rs := [4]) (by kernel_rfl) (by simp) ?_
  refine AllReadyH.cons (o := { dst := some 12, op := Op.call { callee := Callee.value (Operand.func 29), args := #[Operand.tmp 8, Operand.tmp 11], argTypes := #[52, 52] }, type := 3, pos := "kinds.go:320", after := #[{ on := 0, ground := Ground.data }, { on := 3, ground := Ground.data }, { on := 3, ground := Ground.chain }], guard := none }) rfl (fun K hK => ?_) AllReadyH.nil
  go_simp
  refine Calls.mono (H1.out _ _ HV.out) ?_
  rintro e V1 ⟨rfl, hb⟩
  have HB : Hid (Below W2.heap.size W2 V1) := HB.out.trans (hb.mono HB.out.size)
  clear hb
  go_wp2_with fail
  refine hK.out _ _ (HK.out _ HB.out) (fun hHeld => ?_)
  clear hK K
  try simp only [Act.put, List.setIfInBounds_toArray, List.set_cons_zero, List.set_cons_succ]
  refine wpAnyH_take (i := 5) (oi := { dst := some 13, op := Op.binOp BinOp.gtr 3 (Operand.tmp 12) (Operand.const (Value.int IntKind.i64 0)) 3, type := 4, pos := "kinds.go:320", after := #[{ on := 4, ground := Ground.data }], guard := none }) (v := ?_) rfl (by kernel_rfl) (by kernel_rfl) (by kernel_rfl) (fun _ _ _ h => h) (Or.inl ⟨by rfl, ?_⟩) hHeld ?_
  rotate_left
  · (intro w hSw; (try dsimp only at hSw); go_simp; all_goals (try with_reducible rfl))
  try simp only [Act.put, List.setIfInBounds_toArray, List.set_cons_zero, List.set_cons_succ]
  refine wpAnyH_take (i := 6) (oi := { dst := some 14, op := Op.move (Operand.tmp 13), type := 4, pos := "kinds.go:320", after := #[{ on := 5, ground := Ground.data }, { on := 4, ground := Ground.chain }], guard := none }) (v := ?_) rfl (by kernel_rfl) (by kernel_rfl) (by kernel_rfl) (fun _ _ _ h => h) (Or.inl ⟨by rfl, ?_⟩) hHeld ?_
  rotate_left
  · (intro w hSw; (try dsimp only at hSw); go_simp; all_goals (try with_reducible rfl))
  try simp only [Act.put, List.setIfInBounds_toArray, List.set_cons_zero, List.set_cons_succ]
  refine wpAnyH_take (i := 7) (oi := { dst := some 15, op := Op.load 52 (Operand.tmp 2), type := 52, pos := "kinds.go:320", after := #[{ on := 6, ground := Ground.guard }], guard := some (6, false) }) (v := ?_) rfl (by kernel_rfl) (by kernel_rfl) (by kernel_rfl) (fun _ _ _ h => h) (Or.inl ⟨by rfl, ?_⟩) hHeld ?_
  rotate_left
  · (intro w hSw; (try dsimp only at hSw); go_simp; all_goals (try with_reducible rfl))
  try simp only [Act.put, List.setIfInBounds_toArray, List.set_cons_zero, List.set_cons_succ]
  refine wpAnyH_take (i := 9) (oi := { dst := some 17, op := Op.load 52 (Operand.tmp 6), type := 52, pos := "kinds.go:320", after := #[{ on := 6, ground := Ground.guard }], guard := some (6, false) }) (v := ?_) rfl (by kernel_rfl) (by kernel_rfl) (by kernel_rfl) (fun _ _ _ h => h) (Or.inl ⟨by rfl, ?_⟩) hHeld ?_
  rotate_left
  · (intro w hSw; (try dsimp only at hSw); go_simp; all_goals (try with_reducible rfl))
  try simp only [Act.put, List.setIfInBounds_toArray, List.set_cons_zero, List.set_cons_succ]
  refine wpAnyH_ready (rs := [8]) (by kernel_rfl) (by simp) ?_
  refine AllReadyH.cons (o := { dst := some 16, op := Op.call { callee := Callee.value (Operand.func 16), args := #[Operand.const (Value.int IntKind.i64 (-9223372036854775808))], argTypes := #[3] }, type := 52, pos := "kinds.go:320", after := #[{ on := 6, ground := Ground.chain }, { on := 6, ground := Ground.guard }], guard := some (6, false) }) rfl (fun K hK => ?_) AllReadyH.nil
  go_simp
  refine Calls.mono (HO.out _ _ (by omega) (by omega)) ?_
  rintro e V1 ⟨v2, rfl, hv1, hb⟩
  have HV : Hid (IsBig v2 (-9223372036854775808)) := hv1
  have HB : Hid (Below W2.heap.size W2 V1) := HB.out.trans (hb.mono HB.out.size)
  clear hb hv1
  go_wp2_with fail
  refine hK.out _ _ (HK.out _ HB.out) (fun hHeld => ?_)
  clear hK K
  try simp only [Act.put, List.setIfInBounds_toArray, List.set_cons_zero, List.set_cons_succ]
  refine wpAnyH_ready (rs := [10]) (by kernel_rfl) (by simp) ?_
  refine AllReadyH.cons (o := { dst := some 18, op := Op.call { callee := Callee.value (Operand.func 15), args := #[Operand.tmp 16, Operand.tmp 17], argTypes := #[52, 52] }, type := 52, pos := "kinds.go:320", after := #[{ on := 8, ground := Ground.data }, { on := 9, ground := Ground.data }, { on := 8, ground := Ground.chain }, { on := 6, ground := Ground.guard }], guard := some (6, false) }) rfl (fun K hK => ?_) AllReadyH.nil
  go_simp
  refine Calls.mono (HM.out _ _ _ _ HV.out HZ.out (by omega) (by omega)) ?_
  rintro e V1 ⟨v3, rfl, hv1, hb⟩
  have HV : Hid (IsBig v3 (-9223372036854775808 * 4294967296)) := hv1
  have HB : Hid (Below W2.heap.size W2 V1) := HB.out.trans (hb.mono HB.out.size)
  clear hb hv1
  go_wp2_with fail
  refine hK.out _ _ (HK.out _ HB.out) (fun hHeld => ?_)
  clear hK K
  try simp only [Act.put, List.setIfInBounds_toArray, List.set_cons_zero, List.set_cons_succ]
  refine wpAnyH_ready (rs := [11]) (by kernel_rfl) (by simp) ?_
  refine AllReadyH.cons (o := { dst := some 19, op := Op.call { callee := Callee.value (Operand.func 29), args := #[Operand.tmp 15, Operand.tmp 18], argTypes := #[52, 52] }, type := 3, pos := "kinds.go:320", after := #[{ on := 7, ground := Ground.data }, { on := 10, ground := Ground.data }, { on := 10, ground := Ground.chain }, { on := 6, ground := Ground.guard }], guard := some (6, false) }) rfl (fun K hK => ?_) AllReadyH.nil
  go_simp
  refine Calls.mono (H2.out _ _ HV.out) ?_
  rintro e V1 ⟨rfl, hb⟩
  have HB : Hid (Below W2.heap.size W2 V1) := HB.out.trans (hb.mono HB.out.size)
  clear hb
  go_wp2_with fail
  refine hK.out _ _ (HK.out _ HB.out) (fun hHeld => ?_)
  clear hK K
  try simp only [Act.put, List.setIfInBounds_toArray, List.set_cons_zero, List.set_cons_succ]
  refine wpAnyH_take (i := 12) (oi := { dst := some 20, op := Op.binOp BinOp.lss 3 (Operand.tmp 19) (Operand.const (Value.int IntKind.i64 0)) 3, type := 4, pos := "kinds.go:320", after := #[{ on := 11, ground := Ground.data }, { on := 6, ground := Ground.guard }], guard := some (6, false) }) (v := ?_) rfl (by kernel_rfl) (by kernel_rfl) (by kernel_rfl) (fun _ _ _ h => h) (Or.inl ⟨by rfl, ?_⟩) hHeld ?_
  rotate_left
  · (intro w hSw; (try dsimp only at hSw); go_simp; all_goals (try with_reducible rfl))
  try simp only [Act.put, List.setIfInBounds_toArray, List.set_cons_zero, List.set_cons_succ]
  refine wpAnyH_take (i := 13) (oi := { dst := some 21, op := Op.pick (Operand.tmp 14) (Operand.const (Value.bool true)) (Operand.tmp 20), type := 4, pos := "kinds.go:320", after := #[{ on := 6, ground := Ground.data }, { on := 12, ground := Ground.data }], guard := none }) (v := ?_) rfl (by kernel_rfl) (by kernel_rfl) (by kernel_rfl) (fun _ _ _ h => h) (Or.inl ⟨by rfl, ?_⟩) hHeld ?_
  rotate_left
  · (intro w hSw; (try dsimp only at hSw); go_simp; all_goals (try with_reducible rfl))
  try simp only [Act.put, List.setIfInBounds_toArray, List.set_cons_zero, List.set_cons_succ]
  refine wpAnyH_done (by kernel_rfl) ?_ _
  clear hHeld
  go_wp2
  exact bodyPost_ret (v := .tuple #[.bool false, .bool true]) (by simp [results, Try.results17, go_sem]) rfl ⟨rfl, HW2.out.trans (HB.out.mono HW2.out.size)⟩

theorem rjudge_any (v : Value) (x num : Int) (w : World) (hv : IsBig v x) (h1 : -3138550867693340381917894711603833208051177722232017256448 < x) (h2 : x < 3138550867693340381917894711603833208051177722232017256448) (hn : B64 num) :
    Calls Try.prog 17 #[v, .int .i64 num] w fun e w' => e = .returned (.tuple #[.bool (holdsB x num), .bool (overB x)]) ∧ Below w.heap.size w w' := by
  have HM : Hid (∀ u z c X, IsBig u c → IsBig z 4294967296 → -9223372036854775808 ≤ c → c ≤ 9223372036854775807 → Calls Try.prog 15 #[u, z] X fun e X' => ∃ v', e = .returned v' ∧ IsBig v' (c * 4294967296) ∧ Below X.heap.size X X') := fun u z c X a b h1 h2 => rmul_big u z c _ X a b (by omega) (by omega) (by omega) (by omega)
  have HC : ∀ c z X, IsBig z (c * 4294967296) → -9223372036854775808 ≤ c → c ≤ 9223372036854775807 → Calls Try.prog 29 #[v, z] X fun e X' => e = .returned (.int .i64 (cmpI x (c * 4294967296))) ∧ Below X.heap.size X X' := fun c z X hz a b => rcompare_any v z x (c * 4294967296) X hv hz (by omega) (by omega) (by omega) (by omega)
  have X3 : decide (x ≤ num * 4294967296) = decide (cmpI x (num * 4294967296) ≤ 0) := by
    rw [decide_eq_decide]; unfold cmpI; split <;> (try split) <;> omega
  obtain ⟨m, d, rfl, _, _, _⟩ := hv
  have C1 := HC 9223372036854775807
  have C2 := HC (-9223372036854775808)
  by_cases g1 : 9223372036854775807 * 4294967296 < x
  · have e1 : cmpI x (9223372036854775807 * 4294967296) = 1 := by unfold cmpI; split <;> (try split) <;> omega
    have e2 : cmpI x (-9223372036854775808 * 4294967296) = 1 := by unfold cmpI; split <;> (try split) <;> omega
    rw [e1] at C1; rw [e2] at C2
    have o : overB x = true := by unfold overB; simp; omega
    rw [show holdsB x num = false by unfold holdsB; rw [o]; rfl, o]
    exact judge_pp m d num _ w hn HM (fun z X h => C1 z X h (by omega) (by omega)) (fun z X h => C2 z X h (by omega) (by omega)) (fun z X h => HC num z X h hn.1 hn.2)
  · by_cases g2 : x < -9223372036854775808 * 4294967296
    · have e1 : cmpI x (9223372036854775807 * 4294967296) = -1 := by unfold cmpI; split <;> (try split) <;> omega
      have e2 : cmpI x (-9223372036854775808 * 4294967296) = -1 := by unfold cmpI; split <;> (try split) <;> omega
      rw [e1] at C1; rw [e2] at C2
      have o : overB x = true := by unfold overB; simp; omega
      rw [show holdsB x num = false by unfold holdsB; rw [o]; rfl, o]
      exact judge_mm m d num _ w hn HM (fun z X h => C1 z X h (by omega) (by omega)) (fun z X h => C2 z X h (by omega) (by omega)) (fun z X h => HC num z X h hn.1 hn.2)
    · have o : overB x = false := by unfold overB; simp; omega
      rw [show holdsB x num = decide (x ≤ num * 4294967296) by unfold holdsB; rw [o]; simp, o, X3]
      have X1 : cmpI x (9223372036854775807 * 4294967296) = -1 ∨ cmpI x (9223372036854775807 * 4294967296) = 0 := by
        unfold cmpI; split <;> (try split) <;> omega
      have X2 : cmpI x (-9223372036854775808 * 4294967296) = 0 ∨ cmpI x (-9223372036854775808 * 4294967296) = 1 := by
        unfold cmpI; split <;> (try split) <;> omega
      rcases X1 with e1 | e1 <;> rcases X2 with e2 | e2 <;> rw [e1] at C1 <;> rw [e2] at C2
      · exact judge_mz m d num _ w hn HM (fun z X h => C1 z X h (by omega) (by omega)) (fun z X h => C2 z X h (by omega) (by omega)) (fun z X h => HC num z X h hn.1 hn.2)
      · exact judge_mp m d num _ w hn HM (fun z X h => C1 z X h (by omega) (by omega)) (fun z X h => C2 z X h (by omega) (by omega)) (fun z X h => HC num z X h hn.1 hn.2)
      · exact judge_zz m d num _ w hn HM (fun z X h => C1 z X h (by omega) (by omega)) (fun z X h => C2 z X h (by omega) (by omega)) (fun z X h => HC num z X h hn.1 hn.2)
      · exact judge_zp m d num _ w hn HM (fun z X h => C1 z X h (by omega) (by omega)) (fun z X h => C2 z X h (by omega) (by omega)) (fun z X h => HC num z X h hn.1 hn.2)
end Go.Proofs.Ytipbjoeekbgnbaa
