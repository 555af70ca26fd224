/- FixQuotients: by one it is the number, by minus one the other one, nought by whatever is nought; by itself it is one: the law's walk. Conditions: the library's own variables as they are laid. -/
import Derived.Test.YtpojkaeclfgfkabDoorQuot
import Derived.Deep.RegionHeld3
namespace Go.Proofs.YtpojkaeclfgfkabDoor
open Go.RowKit
set_option linter.unusedVariables false
set_option maxRecDepth 100000

set_option maxHeartbeats 20000000 in
theorem quot_n (x y : Int) (up : Bool) (w : World) (hm : MaxLenIs w) (ht : PowsAre w) (y1 : -9223372036854775808 ≤ y) (y2 : y ≤ 9223372036854775807) (hy : y ≠ 0) (hx : x = -9223372036854775808) :
    Calls Tryd.prog 4 #[.int .i64 (-9223372036854775808), .int .i64 y, .bool up] w fun e w' => e = .returned (.bool true) ∧ Below w.heap.size w w' := by
  subst hx
  have x1 : (-9223372036854775808 : Int) ≤ -9223372036854775808 := by omega
  have x2 : (-9223372036854775808 : Int) ≤ 9223372036854775807 := by omega
  have HM : Hid (MaxLenIs w ∧ PowsAre w) := ⟨hm, ht⟩
  have HS0 : Hid (Two w w.heap.size (w.heap.size + 1) ((w.alloc (.cells #[.bool false] 28)).alloc (.cells #[.bool false] 28)).drew false false) := by
    have h := Live.make w (w.alloc (.cells #[.bool false] 28)) false ((Below.refl _ w).alloc (Nat.le_refl _) _)
    have e : (w.alloc (.cells #[.bool false] 28)).heap.size = w.heap.size + 1 := by simp
    rw [e] at h
    exact Two.drew ⟨(Live.make w w false (Below.refl _ w)).alloc _, h⟩
  have HD1 : Hid (∀ W m, Two w w.heap.size (w.heap.size + 1) W false false → m = 4294967296 → Calls Tryd.prog 12 #[.pointer (some ⟨w.heap.size, 0, none⟩), .int .i64 (-9223372036854775808), .int .i64 m, .bool up] W fun e W' => e = .returned (.int .i64 (-9223372036854775808)) ∧ W'.cell? ⟨w.heap.size, 0, none⟩ = some (.bool false) ∧ W'.cell? ⟨w.heap.size + 1, 0, none⟩ = some (.bool false) ∧ Two w w.heap.size (w.heap.size + 1) W' false false) := fun W m h hme => by
    subst hme
    refine Calls.mono (div_live h.1 up x1 x2 (by omega) (by omega) (by omega)) fun e W' s => ?_
    rw [divF_one] at s
    obtain ⟨r1, r2⟩ := h.left (by omega) s
    rw [clampF_in x1 x2] at r1
    rw [overF_in x1 x2] at r2
    exact ⟨r1, r2.1.cell, r2.2.cell, r2⟩
  obtain ⟨V, hV⟩ : ∃ V, clampF (-(-9223372036854775808)) = V := ⟨_, rfl⟩
  have hO : overF (-(-9223372036854775808)) = true := overF_hi (by omega)
  have HD2 : Hid (∀ W m, Two w w.heap.size (w.heap.size + 1) W false false → m = -4294967296 → Calls Tryd.prog 12 #[.pointer (some ⟨w.heap.size, 0, none⟩), .int .i64 (-9223372036854775808), .int .i64 m, .bool up] W fun e W' => e = .returned (.int .i64 V) ∧ W'.cell? ⟨w.heap.size, 0, none⟩ = some (.bool true) ∧ W'.cell? ⟨w.heap.size + 1, 0, none⟩ = some (.bool false) ∧ Two w w.heap.size (w.heap.size + 1) W' true false) := fun W m h hme => by
    subst hme
    refine Calls.mono (div_live h.1 up x1 x2 (by omega) (by omega) (by omega)) fun e W' s => ?_
    rw [divF_minus] at s
    obtain ⟨r1, r2⟩ := h.left (by omega) s
    rw [hV] at r1
    rw [hO, Bool.false_or] at r2
    exact ⟨r1, r2.1.cell, r2.2.cell, r2⟩
  have HN : Hid (∀ W, Two w w.heap.size (w.heap.size + 1) W true false → Calls Tryd.prog 13 #[.pointer (some ⟨w.heap.size + 1, 0, none⟩), .int .i64 (-9223372036854775808)] W fun e W' => e = .returned (.int .i64 V) ∧ W'.cell? ⟨w.heap.size, 0, none⟩ = some (.bool true) ∧ W'.cell? ⟨w.heap.size + 1, 0, none⟩ = some (.bool true) ∧ Hid (Below w.heap.size w W')) := fun W h => by
    refine Calls.mono (neg_live h.2 x1 x2) fun e W' s => ?_
    obtain ⟨r1, r2⟩ := h.right (by omega) s
    rw [hV] at r1
    rw [hO, Bool.false_or] at r2
    exact ⟨r1, r2.1.cell, r2.2.cell, r2.1.below⟩
  have hVV : (V != V) = false := bne_self_eq_false _
  clear hm ht hV hO
  go_enter Tryd.func4, Tryd.ntmps4
  go_wp2_with fail
  have hs0 := HS0.out
  refine wp_region_held_drew (S := fun _ => True) (by kernel_rfl) trivial (fun _ => ?_)
  refine wpAnyH_take (i := 0) (oi := { dst := some 15, op := Op.move (Operand.tmp 7), type := 26, pos := "more.go:56", after := #[], guard := none }) (v := ?_) rfl (by kernel_rfl) (by kernel_rfl) (by kernel_rfl) (fun _ _ _ h => h) (Or.inl ⟨by rfl, ?_⟩) trivial ?_
  rotate_left
  · (intro w hSw; go_simp; all_goals (try with_reducible rfl))
  try simp only [Act.put, List.setIfInBounds_toArray, List.set_cons_zero, List.set_cons_succ]
  refine wpAnyH_take (i := 1) (oi := { dst := some 16, op := Op.move (Operand.tmp 0), type := 3, pos := "more.go:56", after := #[], guard := none }) (v := ?_) rfl (by kernel_rfl) (by kernel_rfl) (by kernel_rfl) (fun _ _ _ h => h) (Or.inl ⟨by rfl, ?_⟩) trivial ?_
  rotate_left
  · (intro w hSw; go_simp; all_goals (try with_reducible rfl))
  try simp only [Act.put, List.setIfInBounds_toArray, List.set_cons_zero, List.set_cons_succ]
  refine wpAnyH_take (i := 2) (oi := { dst := some 17, op := Op.move (Operand.tmp 2), type := 4, pos := "more.go:56", after := #[], guard := none }) (v := ?_) rfl (by kernel_rfl) (by kernel_rfl) (by kernel_rfl) (fun _ _ _ h => h) (Or.inl ⟨by rfl, ?_⟩) trivial ?_
  rotate_left
  · (intro w hSw; go_simp; all_goals (try with_reducible rfl))
  try simp only [Act.put, List.setIfInBounds_toArray, List.set_cons_zero, List.set_cons_succ]
  refine wpAnyH_take (i := 4) (oi := { dst := some 19, op := Op.move (Operand.tmp 0), type := 3, pos := "more.go:56", after := #[], guard := none }) (v := ?_) rfl (by kernel_rfl) (by kernel_rfl) (by kernel_rfl) (fun _ _ _ h => h) (Or.inl ⟨by rfl, ?_⟩) trivial ?_
  rotate_left
  · (intro w hSw; go_simp; all_goals (try with_reducible rfl))
  try simp only [Act.put, List.setIfInBounds_toArray, List.set_cons_zero, List.set_cons_succ]
  refine wpAnyH_ready (rs := [3]) (by kernel_rfl) (by simp) ?_
  refine AllReadyH.cons (o := { dst := some 18, op := Op.call { callee := Callee.value (Operand.func 12), args := #[Operand.tmp 15, Operand.tmp 16, Operand.const (Value.int IntKind.i64 4294967296), Operand.tmp 17], argTypes := #[26, 3, 3, 4] }, type := 3, pos := "more.go:56", after := #[{ on := 0, ground := Ground.data }, { on := 1, ground := Ground.data }, { on := 2, ground := Ground.data }], guard := none }) rfl (fun K hK => ?_) AllReadyH.nil
  go_simp
  refine Calls.mono (HD1.out _ _ hs0 (by decide)) ?_
  rintro e W1 ⟨rfl, hc1, hd1, hs1⟩
  go_wp2_with fail
  refine hK.out _ _ trivial (fun _ => ?_)
  clear hK K
  try simp only [Act.put, List.setIfInBounds_toArray, List.set_cons_zero, List.set_cons_succ]
  refine wpAnyH_take (i := 5) (oi := { dst := some 20, op := Op.binOp BinOp.neq 3 (Operand.tmp 18) (Operand.tmp 19) 3, type := 4, pos := "more.go:56", after := #[{ on := 3, ground := Ground.data }, { on := 4, ground := Ground.data }], guard := none }) (v := ?_) rfl (by kernel_rfl) (by kernel_rfl) (by kernel_rfl) (fun _ _ _ h => h) (Or.inl ⟨by rfl, ?_⟩) trivial ?_
  rotate_left
  · (intro w hSw; go_simp; all_goals (try with_reducible rfl))
  try simp only [Act.put, List.setIfInBounds_toArray, List.set_cons_zero, List.set_cons_succ]
  refine wpAnyH_take (i := 6) (oi := { dst := some 21, op := Op.move (Operand.tmp 20), type := 4, pos := "more.go:56", after := #[{ on := 5, ground := Ground.data }, { on := 3, ground := Ground.chain }], guard := none }) (v := ?_) rfl (by kernel_rfl) (by kernel_rfl) (by kernel_rfl) (fun _ _ _ h => h) (Or.inl ⟨by rfl, ?_⟩) trivial ?_
  rotate_left
  · (intro w hSw; go_simp; all_goals (try with_reducible rfl))
  try simp only [Act.put, List.setIfInBounds_toArray, List.set_cons_zero, List.set_cons_succ]
  refine wpAnyH_take (i := 7) (oi := { dst := some 22, op := Op.move (Operand.tmp 7), type := 26, pos := "more.go:56", after := #[{ on := 6, ground := Ground.guard }], guard := some (6, false) }) (v := ?_) rfl (by kernel_rfl) (by kernel_rfl) (by kernel_rfl) (fun _ _ _ h => h) (Or.inl ⟨by rfl, ?_⟩) trivial ?_
  rotate_left
  · (intro w hSw; go_simp; all_goals (try with_reducible rfl))
  try simp only [Act.put, List.setIfInBounds_toArray, List.set_cons_zero, List.set_cons_succ]
  refine wpAnyH_take (i := 8) (oi := { dst := some 23, op := Op.nilCheck (Operand.tmp 22), type := 0, pos := "more.go:56", after := #[{ on := 7, ground := Ground.data }, { on := 6, ground := Ground.guard }], guard := some (6, false) }) (v := ?_) rfl (by kernel_rfl) (by kernel_rfl) (by kernel_rfl) (fun _ _ _ h => h) (Or.inl ⟨by rfl, ?_⟩) trivial ?_
  rotate_left
  · (intro w hSw; go_simp; all_goals (try with_reducible rfl))
  try simp only [Act.put, List.setIfInBounds_toArray, List.set_cons_zero, List.set_cons_succ]
  refine wpAnyH_take (i := 9) (oi := { dst := some 24, op := Op.fieldAddr 28 (Operand.tmp 23) 0, type := 0, pos := "more.go:56", after := #[{ on := 8, ground := Ground.data }, { on := 6, ground := Ground.guard }], guard := some (6, false) }) (v := ?_) rfl (by kernel_rfl) (by kernel_rfl) (by kernel_rfl) (fun _ _ _ h => h) (Or.inl ⟨by rfl, ?_⟩) trivial ?_
  rotate_left
  · (intro w hSw; go_simp; all_goals (try with_reducible rfl))
  try simp only [Act.put, List.setIfInBounds_toArray, List.set_cons_zero, List.set_cons_succ]
  refine wpAnyH_ready (rs := [10]) (by kernel_rfl) (by simp) ?_
  refine AllReadyH.cons (o := { dst := some 25, op := Op.load 4 (Operand.tmp 24), type := 4, pos := "more.go:56", after := #[{ on := 9, ground := Ground.data }, { on := 6, ground := Ground.guard }], guard := some (6, false) }) rfl (fun K hK => ?_) AllReadyH.nil
  go_simp
  refine hK.out _ _ trivial (fun _ => ?_)
  clear hK K
  try simp only [Act.put, List.setIfInBounds_toArray, List.set_cons_zero, List.set_cons_succ]
  refine wpAnyH_take (i := 11) (oi := { dst := some 26, op := Op.pick (Operand.tmp 21) (Operand.const (Value.bool true)) (Operand.tmp 25), type := 4, pos := "more.go:56", after := #[{ on := 6, ground := Ground.data }, { on := 10, ground := Ground.data }], guard := none }) (v := ?_) rfl (by kernel_rfl) (by kernel_rfl) (by kernel_rfl) (fun _ _ _ h => h) (Or.inl ⟨by rfl, ?_⟩) trivial ?_
  rotate_left
  · (intro w hSw; go_simp; all_goals (try with_reducible rfl))
  try simp only [Act.put, List.setIfInBounds_toArray, List.set_cons_zero, List.set_cons_succ]
  refine wpAnyH_take (i := 12) (oi := { dst := some 27, op := Op.move (Operand.tmp 26), type := 4, pos := "more.go:56", after := #[{ on := 11, ground := Ground.data }, { on := 6, ground := Ground.chain }], guard := none }) (v := ?_) rfl (by kernel_rfl) (by kernel_rfl) (by kernel_rfl) (fun _ _ _ h => h) (Or.inl ⟨by rfl, ?_⟩) trivial ?_
  rotate_left
  · (intro w hSw; go_simp; all_goals (try with_reducible rfl))
  try simp only [Act.put, List.setIfInBounds_toArray, List.set_cons_zero, List.set_cons_succ]
  refine wpAnyH_take (i := 13) (oi := { dst := some 28, op := Op.move (Operand.tmp 7), type := 26, pos := "more.go:56", after := #[{ on := 12, ground := Ground.guard }], guard := some (12, false) }) (v := ?_) rfl (by kernel_rfl) (by kernel_rfl) (by kernel_rfl) (fun _ _ _ h => h) (Or.inl ⟨by rfl, ?_⟩) trivial ?_
  rotate_left
  · (intro w hSw; go_simp; all_goals (try with_reducible rfl))
  try simp only [Act.put, List.setIfInBounds_toArray, List.set_cons_zero, List.set_cons_succ]
  refine wpAnyH_take (i := 14) (oi := { dst := some 29, op := Op.move (Operand.tmp 0), type := 3, pos := "more.go:56", after := #[{ on := 12, ground := Ground.guard }], guard := some (12, false) }) (v := ?_) rfl (by kernel_rfl) (by kernel_rfl) (by kernel_rfl) (fun _ _ _ h => h) (Or.inl ⟨by rfl, ?_⟩) trivial ?_
  rotate_left
  · (intro w hSw; go_simp; all_goals (try with_reducible rfl))
  try simp only [Act.put, List.setIfInBounds_toArray, List.set_cons_zero, List.set_cons_succ]
  refine wpAnyH_take (i := 15) (oi := { dst := some 30, op := Op.move (Operand.tmp 2), type := 4, pos := "more.go:56", after := #[{ on := 12, ground := Ground.guard }], guard := some (12, false) }) (v := ?_) rfl (by kernel_rfl) (by kernel_rfl) (by kernel_rfl) (fun _ _ _ h => h) (Or.inl ⟨by rfl, ?_⟩) trivial ?_
  rotate_left
  · (intro w hSw; go_simp; all_goals (try with_reducible rfl))
  try simp only [Act.put, List.setIfInBounds_toArray, List.set_cons_zero, List.set_cons_succ]
  refine wpAnyH_take (i := 17) (oi := { dst := some 32, op := Op.move (Operand.tmp 8), type := 26, pos := "more.go:56", after := #[{ on := 12, ground := Ground.guard }], guard := some (12, false) }) (v := ?_) rfl (by kernel_rfl) (by kernel_rfl) (by kernel_rfl) (fun _ _ _ h => h) (Or.inl ⟨by rfl, ?_⟩) trivial ?_
  rotate_left
  · (intro w hSw; go_simp; all_goals (try with_reducible rfl))
  try simp only [Act.put, List.setIfInBounds_toArray, List.set_cons_zero, List.set_cons_succ]
  refine wpAnyH_take (i := 18) (oi := { dst := some 33, op := Op.move (Operand.tmp 0), type := 3, pos := "more.go:56", after := #[{ on := 12, ground := Ground.guard }], guard := some (12, false) }) (v := ?_) rfl (by kernel_rfl) (by kernel_rfl) (by kernel_rfl) (fun _ _ _ h => h) (Or.inl ⟨by rfl, ?_⟩) trivial ?_
  rotate_left
  · (intro w hSw; go_simp; all_goals (try with_reducible rfl))
  try simp only [Act.put, List.setIfInBounds_toArray, List.set_cons_zero, List.set_cons_succ]
  refine wpAnyH_ready (rs := [16]) (by kernel_rfl) (by simp) ?_
  refine AllReadyH.cons (o := { dst := some 31, op := Op.call { callee := Callee.value (Operand.func 12), args := #[Operand.tmp 28, Operand.tmp 29, Operand.const (Value.int IntKind.i64 (-4294967296)), Operand.tmp 30], argTypes := #[26, 3, 3, 4] }, type := 3, pos := "more.go:56", after := #[{ on := 13, ground := Ground.data }, { on := 14, ground := Ground.data }, { on := 15, ground := Ground.data }, { on := 12, ground := Ground.chain }, { on := 12, ground := Ground.guard }], guard := some (12, false) }) rfl (fun K hK => ?_) AllReadyH.nil
  go_simp
  refine Calls.mono (HD2.out _ _ hs1 (by decide)) ?_
  rintro e W2 ⟨rfl, hc2, hd2, hs2⟩
  go_wp2_with fail
  refine hK.out _ _ trivial (fun _ => ?_)
  clear hK K
  try simp only [Act.put, List.setIfInBounds_toArray, List.set_cons_zero, List.set_cons_succ]
  refine wpAnyH_ready (rs := [19]) (by kernel_rfl) (by simp) ?_
  refine AllReadyH.cons (o := { dst := some 34, op := Op.call { callee := Callee.value (Operand.func 13), args := #[Operand.tmp 32, Operand.tmp 33], argTypes := #[26, 3] }, type := 3, pos := "more.go:56", after := #[{ on := 17, ground := Ground.data }, { on := 18, ground := Ground.data }, { on := 16, ground := Ground.chain }, { on := 12, ground := Ground.guard }], guard := some (12, false) }) rfl (fun K hK => ?_) AllReadyH.nil
  go_simp
  refine Calls.mono (HN.out _ hs2) ?_
  rintro e W3 ⟨rfl, hc3, hd3, HB3⟩
  go_wp2_with fail
  refine hK.out _ _ trivial (fun _ => ?_)
  clear hK K
  try simp only [Act.put, List.setIfInBounds_toArray, List.set_cons_zero, List.set_cons_succ]
  refine wpAnyH_take (i := 20) (oi := { dst := some 35, op := Op.binOp BinOp.neq 3 (Operand.tmp 31) (Operand.tmp 34) 3, type := 4, pos := "more.go:56", after := #[{ on := 16, ground := Ground.data }, { on := 19, ground := Ground.data }, { on := 12, ground := Ground.guard }], guard := some (12, false) }) (v := ?_) rfl (by kernel_rfl) (by kernel_rfl) (by kernel_rfl) (fun _ _ _ h => h) (Or.inl ⟨by rfl, ?_⟩) trivial ?_
  rotate_left
  · (intro w hSw; go_simp; all_goals (try with_reducible rfl))
  try simp only [Act.put, List.setIfInBounds_toArray, List.set_cons_zero, List.set_cons_succ]
  refine wpAnyH_take (i := 21) (oi := { dst := some 36, op := Op.pick (Operand.tmp 27) (Operand.const (Value.bool true)) (Operand.tmp 35), type := 4, pos := "more.go:56", after := #[{ on := 12, ground := Ground.data }, { on := 20, ground := Ground.data }], guard := none }) (v := ?_) rfl (by kernel_rfl) (by kernel_rfl) (by kernel_rfl) (fun _ _ _ h => h) (Or.inl ⟨by rfl, ?_⟩) trivial ?_
  rotate_left
  · (intro w hSw; go_simp; all_goals (try with_reducible rfl))
  try simp only [Act.put, List.setIfInBounds_toArray, List.set_cons_zero, List.set_cons_succ]
  refine wpAnyH_take (i := 22) (oi := { dst := some 37, op := Op.move (Operand.tmp 36), type := 4, pos := "more.go:56", after := #[{ on := 21, ground := Ground.data }, { on := 19, ground := Ground.chain }], guard := none }) (v := ?_) rfl (by kernel_rfl) (by kernel_rfl) (by kernel_rfl) (fun _ _ _ h => h) (Or.inl ⟨by rfl, ?_⟩) trivial ?_
  rotate_left
  · (intro w hSw; go_simp; all_goals (try with_reducible rfl))
  try simp only [Act.put, List.setIfInBounds_toArray, List.set_cons_zero, List.set_cons_succ]
  refine wpAnyH_take (i := 23) (oi := { dst := some 38, op := Op.move (Operand.tmp 7), type := 26, pos := "more.go:56", after := #[{ on := 22, ground := Ground.guard }], guard := some (22, false) }) (v := ?_) rfl (by kernel_rfl) (by kernel_rfl) (by kernel_rfl) (fun _ _ _ h => h) (Or.inl ⟨by rfl, ?_⟩) trivial ?_
  rotate_left
  · (intro w hSw; go_simp; all_goals (try with_reducible rfl))
  try simp only [Act.put, List.setIfInBounds_toArray, List.set_cons_zero, List.set_cons_succ]
  refine wpAnyH_take (i := 24) (oi := { dst := some 39, op := Op.nilCheck (Operand.tmp 38), type := 0, pos := "more.go:56", after := #[{ on := 23, ground := Ground.data }, { on := 22, ground := Ground.guard }], guard := some (22, false) }) (v := ?_) rfl (by kernel_rfl) (by kernel_rfl) (by kernel_rfl) (fun _ _ _ h => h) (Or.inl ⟨by rfl, ?_⟩) trivial ?_
  rotate_left
  · (intro w hSw; go_simp; all_goals (try with_reducible rfl))
  try simp only [Act.put, List.setIfInBounds_toArray, List.set_cons_zero, List.set_cons_succ]
  refine wpAnyH_take (i := 25) (oi := { dst := some 40, op := Op.fieldAddr 28 (Operand.tmp 39) 0, type := 0, pos := "more.go:56", after := #[{ on := 24, ground := Ground.data }, { on := 22, ground := Ground.guard }], guard := some (22, false) }) (v := ?_) rfl (by kernel_rfl) (by kernel_rfl) (by kernel_rfl) (fun _ _ _ h => h) (Or.inl ⟨by rfl, ?_⟩) trivial ?_
  rotate_left
  · (intro w hSw; go_simp; all_goals (try with_reducible rfl))
  try simp only [Act.put, List.setIfInBounds_toArray, List.set_cons_zero, List.set_cons_succ]
  refine wpAnyH_take (i := 27) (oi := { dst := some 42, op := Op.move (Operand.tmp 8), type := 26, pos := "more.go:56", after := #[{ on := 22, ground := Ground.guard }], guard := some (22, false) }) (v := ?_) rfl (by kernel_rfl) (by kernel_rfl) (by kernel_rfl) (fun _ _ _ h => h) (Or.inl ⟨by rfl, ?_⟩) trivial ?_
  rotate_left
  · (intro w hSw; go_simp; all_goals (try with_reducible rfl))
  try simp only [Act.put, List.setIfInBounds_toArray, List.set_cons_zero, List.set_cons_succ]
  refine wpAnyH_take (i := 28) (oi := { dst := some 43, op := Op.nilCheck (Operand.tmp 42), type := 0, pos := "more.go:56", after := #[{ on := 27, ground := Ground.data }, { on := 22, ground := Ground.guard }], guard := some (22, false) }) (v := ?_) rfl (by kernel_rfl) (by kernel_rfl) (by kernel_rfl) (fun _ _ _ h => h) (Or.inl ⟨by rfl, ?_⟩) trivial ?_
  rotate_left
  · (intro w hSw; go_simp; all_goals (try with_reducible rfl))
  try simp only [Act.put, List.setIfInBounds_toArray, List.set_cons_zero, List.set_cons_succ]
  refine wpAnyH_take (i := 29) (oi := { dst := some 44, op := Op.fieldAddr 28 (Operand.tmp 43) 0, type := 0, pos := "more.go:56", after := #[{ on := 28, ground := Ground.data }, { on := 22, ground := Ground.guard }], guard := some (22, false) }) (v := ?_) rfl (by kernel_rfl) (by kernel_rfl) (by kernel_rfl) (fun _ _ _ h => h) (Or.inl ⟨by rfl, ?_⟩) trivial ?_
  rotate_left
  · (intro w hSw; go_simp; all_goals (try with_reducible rfl))
  try simp only [Act.put, List.setIfInBounds_toArray, List.set_cons_zero, List.set_cons_succ]
  refine wpAnyH_ready (rs := [26, 30]) (by kernel_rfl) (by simp) ?_
  refine AllReadyH.cons (o := { dst := some 41, op := Op.load 4 (Operand.tmp 40), type := 4, pos := "more.go:56", after := #[{ on := 25, ground := Ground.data }, { on := 22, ground := Ground.guard }], guard := some (22, false) }) rfl (fun K hK => ?_) ?_
  · go_simp
    refine hK.out _ _ trivial (fun _ => ?_)
    clear hK K
    try simp only [Act.put, List.setIfInBounds_toArray, List.set_cons_zero, List.set_cons_succ]
    refine wpAnyH_ready (rs := [30]) (by kernel_rfl) (by simp) ?_
    refine AllReadyH.cons (o := { dst := some 45, op := Op.load 4 (Operand.tmp 44), type := 4, pos := "more.go:56", after := #[{ on := 29, ground := Ground.data }, { on := 22, ground := Ground.guard }], guard := some (22, false) }) rfl (fun K hK => ?_) AllReadyH.nil
    go_simp
    refine hK.out _ _ trivial (fun _ => ?_)
    clear hK K
    try simp only [Act.put, List.setIfInBounds_toArray, List.set_cons_zero, List.set_cons_succ]
    refine wpAnyH_take (i := 31) (oi := { dst := some 46, op := Op.binOp BinOp.neq 4 (Operand.tmp 41) (Operand.tmp 45) 4, type := 4, pos := "more.go:56", after := #[{ on := 26, ground := Ground.data }, { on := 30, ground := Ground.data }, { on := 22, ground := Ground.guard }], guard := some (22, false) }) (v := ?_) rfl (by kernel_rfl) (by kernel_rfl) (by kernel_rfl) (fun _ _ _ h => h) (Or.inl ⟨by rfl, ?_⟩) trivial ?_
    rotate_left
    · (intro w hSw; go_simp; all_goals (try with_reducible rfl))
    try simp only [Act.put, List.setIfInBounds_toArray, List.set_cons_zero, List.set_cons_succ]
    refine wpAnyH_take (i := 32) (oi := { dst := some 47, op := Op.pick (Operand.tmp 37) (Operand.const (Value.bool true)) (Operand.tmp 46), type := 4, pos := "more.go:56", after := #[{ on := 22, ground := Ground.data }, { on := 31, ground := Ground.data }], guard := none }) (v := ?_) rfl (by kernel_rfl) (by kernel_rfl) (by kernel_rfl) (fun _ _ _ h => h) (Or.inl ⟨by rfl, ?_⟩) trivial ?_
    rotate_left
    · (intro w hSw; go_simp; all_goals (try with_reducible rfl))
    try simp only [Act.put, List.setIfInBounds_toArray, List.set_cons_zero, List.set_cons_succ]
    refine wpAnyH_done (by kernel_rfl) ?_ _
    clear hs0 HS0 HD1 HD2 HN hs1 hs2 hc1 hd1 hc2 hd2 hc3 hd3 W1 W2
    have LC : Live w W3.heap.size (W3.alloc (.cells #[.bool false] 28)) false := Live.make w W3 false HB3.out
    have HE1 : Hid (∀ W m, Live w W3.heap.size W false → m = 0 → Calls Tryd.prog 12 #[.pointer (some ⟨W3.heap.size, 0, none⟩), .int .i64 m, .int .i64 y, .bool up] W fun e W' => e = .returned (.int .i64 0) ∧ W'.cell? ⟨W3.heap.size, 0, none⟩ = some (.bool false) ∧ Live w W3.heap.size W' false) := fun W m h hme => by
      subst hme
      refine Calls.mono (div_live h up (by omega) (by omega) y1 y2 hy) fun e W' s => ?_
      rw [divF_zero] at s
      exact ⟨s.1, s.2.1.cell, s.2.1⟩
    have HE2 : Hid (∀ W, Live w W3.heap.size W false → Calls Tryd.prog 12 #[.pointer (some ⟨W3.heap.size, 0, none⟩), .int .i64 y, .int .i64 y, .bool up] W fun e W' => e = .returned (.int .i64 4294967296) ∧ W'.cell? ⟨W3.heap.size, 0, none⟩ = some (.bool false) ∧ Live w W3.heap.size W' false) := fun W h => by
      refine Calls.mono (div_live h up y1 y2 y1 y2 hy) fun e W' s => ?_
      rw [divF_self y hy] at s
      exact ⟨s.1, s.2.1.cell, s.2.1⟩
    have hy' : (y != 0) = true := by rw [bne_iff_ne]; exact hy
    go_wp2_with fail
    refine Calls.mono (HE1.out _ 0 LC rfl) ?_
    rintro e W4 ⟨rfl, hc4, hs4⟩
    go_wp2_with fail
    refine Calls.mono (HE2.out _ hs4) ?_
    rintro e W5 ⟨rfl, hc5, hs5⟩
    clear HE1 HE2 LC hc4 hs4
    have L5 : Hid (Live w W3.heap.size W5 false) := hs5
    clear hs5
    go_wp2_with fail
    refine Calls.mono (div_nought L5.out up) ?_
    rintro e W6 ⟨rfl, hL6, _⟩
    clear L5
    obtain ⟨Z, hZ⟩ : ∃ Z, noughtF (-9223372036854775808) = Z := ⟨_, rfl⟩
    rw [hZ]
    have HZ : Hid (noughtF (-9223372036854775808) = Z) := hZ
    clear hZ
    go_wp2_with fail
    refine Calls.mono (alive_live hL6 HM.out.1 HM.out.2) ?_
    rintro e W7 ⟨rfl, hL7, _⟩
    have hc7 := hL7.cell
    have HB7 : Hid (Below w.heap.size w W7) := hL7.below
    clear hL6 hL7
    have hz : (-9223372036854775808 : Int) = Z := HZ.out
    subst hz
    clear HZ
    go_wp2
    go_ret
    exact ⟨rfl, HB7.out⟩
  · refine AllReadyH.cons (o := { dst := some 45, op := Op.load 4 (Operand.tmp 44), type := 4, pos := "more.go:56", after := #[{ on := 29, ground := Ground.data }, { on := 22, ground := Ground.guard }], guard := some (22, false) }) rfl (fun K hK => ?_) AllReadyH.nil
    go_simp
    refine hK.out _ _ trivial (fun _ => ?_)
    clear hK K
    try simp only [Act.put, List.setIfInBounds_toArray, List.set_cons_zero, List.set_cons_succ]
    refine wpAnyH_ready (rs := [26]) (by kernel_rfl) (by simp) ?_
    refine AllReadyH.cons (o := { dst := some 41, op := Op.load 4 (Operand.tmp 40), type := 4, pos := "more.go:56", after := #[{ on := 25, ground := Ground.data }, { on := 22, ground := Ground.guard }], guard := some (22, false) }) rfl (fun K hK => ?_) AllReadyH.nil
    go_simp
    refine hK.out _ _ trivial (fun _ => ?_)
    clear hK K
    try simp only [Act.put, List.setIfInBounds_toArray, List.set_cons_zero, List.set_cons_succ]
    refine wpAnyH_take (i := 31) (oi := { dst := some 46, op := Op.binOp BinOp.neq 4 (Operand.tmp 41) (Operand.tmp 45) 4, type := 4, pos := "more.go:56", after := #[{ on := 26, ground := Ground.data }, { on := 30, ground := Ground.data }, { on := 22, ground := Ground.guard }], guard := some (22, false) }) (v := ?_) rfl (by kernel_rfl) (by kernel_rfl) (by kernel_rfl) (fun _ _ _ h => h) (Or.inl ⟨by rfl, ?_⟩) trivial ?_
    rotate_left
    · (intro w hSw; go_simp; all_goals (try with_reducible rfl))
    try simp only [Act.put, List.setIfInBounds_toArray, List.set_cons_zero, List.set_cons_succ]
    refine wpAnyH_take (i := 32) (oi := { dst := some 47, op := Op.pick (Operand.tmp 37) (Operand.const (Value.bool true)) (Operand.tmp 46), type := 4, pos := "more.go:56", after := #[{ on := 22, ground := Ground.data }, { on := 31, ground := Ground.data }], guard := none }) (v := ?_) rfl (by kernel_rfl) (by kernel_rfl) (by kernel_rfl) (fun _ _ _ h => h) (Or.inl ⟨by rfl, ?_⟩) trivial ?_
    rotate_left
    · (intro w hSw; go_simp; all_goals (try with_reducible rfl))
    try simp only [Act.put, List.setIfInBounds_toArray, List.set_cons_zero, List.set_cons_succ]
    refine wpAnyH_done (by kernel_rfl) ?_ _
    clear hs0 HS0 HD1 HD2 HN hs1 hs2 hc1 hd1 hc2 hd2 hc3 hd3 W1 W2
    have LC : Live w W3.heap.size (W3.alloc (.cells #[.bool false] 28)) false := Live.make w W3 false HB3.out
    have HE1 : Hid (∀ W m, Live w W3.heap.size W false → m = 0 → Calls Tryd.prog 12 #[.pointer (some ⟨W3.heap.size, 0, none⟩), .int .i64 m, .int .i64 y, .bool up] W fun e W' => e = .returned (.int .i64 0) ∧ W'.cell? ⟨W3.heap.size, 0, none⟩ = some (.bool false) ∧ Live w W3.heap.size W' false) := fun W m h hme => by
      subst hme
      refine Calls.mono (div_live h up (by omega) (by omega) y1 y2 hy) fun e W' s => ?_
      rw [divF_zero] at s
      exact ⟨s.1, s.2.1.cell, s.2.1⟩
    have HE2 : Hid (∀ W, Live w W3.heap.size W false → Calls Tryd.prog 12 #[.pointer (some ⟨W3.heap.size, 0, none⟩), .int .i64 y, .int .i64 y, .bool up] W fun e W' => e = .returned (.int .i64 4294967296) ∧ W'.cell? ⟨W3.heap.size, 0, none⟩ = some (.bool false) ∧ Live w W3.heap.size W' false) := fun W h => by
      refine Calls.mono (div_live h up y1 y2 y1 y2 hy) fun e W' s => ?_
      rw [divF_self y hy] at s
      exact ⟨s.1, s.2.1.cell, s.2.1⟩
    have hy' : (y != 0) = true := by rw [bne_iff_ne]; exact hy
    go_wp2_with fail
    refine Calls.mono (HE1.out _ 0 LC rfl) ?_
    rintro e W4 ⟨rfl, hc4, hs4⟩
    go_wp2_with fail
    refine Calls.mono (HE2.out _ hs4) ?_
    rintro e W5 ⟨rfl, hc5, hs5⟩
    clear HE1 HE2 LC hc4 hs4
    have L5 : Hid (Live w W3.heap.size W5 false) := hs5
    clear hs5
    go_wp2_with fail
    refine Calls.mono (div_nought L5.out up) ?_
    rintro e W6 ⟨rfl, hL6, _⟩
    clear L5
    obtain ⟨Z, hZ⟩ : ∃ Z, noughtF (-9223372036854775808) = Z := ⟨_, rfl⟩
    rw [hZ]
    have HZ : Hid (noughtF (-9223372036854775808) = Z) := hZ
    clear hZ
    go_wp2_with fail
    refine Calls.mono (alive_live hL6 HM.out.1 HM.out.2) ?_
    rintro e W7 ⟨rfl, hL7, _⟩
    have hc7 := hL7.cell
    have HB7 : Hid (Below w.heap.size w W7) := hL7.below
    clear hL6 hL7
    have hz : (-9223372036854775808 : Int) = Z := HZ.out
    subst hz
    clear HZ
    go_wp2
    go_ret
    exact ⟨rfl, HB7.out⟩
set_option maxHeartbeats 20000000 in
theorem quot_n0 (x y : Int) (up : Bool) (w : World) (hm : MaxLenIs w) (ht : PowsAre w) (y1 : -9223372036854775808 ≤ y) (y2 : y ≤ 9223372036854775807) (hy : y = 0) (hx : x = -9223372036854775808) :
    Calls Tryd.prog 4 #[.int .i64 (-9223372036854775808), .int .i64 y, .bool up] w fun e w' => e = .returned (.bool true) ∧ Below w.heap.size w w' := by
  subst hx
  subst hy
  have x1 : (-9223372036854775808 : Int) ≤ -9223372036854775808 := by omega
  have x2 : (-9223372036854775808 : Int) ≤ 9223372036854775807 := by omega
  have HM : Hid (MaxLenIs w ∧ PowsAre w) := ⟨hm, ht⟩
  have HS0 : Hid (Two w w.heap.size (w.heap.size + 1) ((w.alloc (.cells #[.bool false] 28)).alloc (.cells #[.bool false] 28)).drew false false) := by
    have h := Live.make w (w.alloc (.cells #[.bool false] 28)) false ((Below.refl _ w).alloc (Nat.le_refl _) _)
    have e : (w.alloc (.cells #[.bool false] 28)).heap.size = w.heap.size + 1 := by simp
    rw [e] at h
    exact Two.drew ⟨(Live.make w w false (Below.refl _ w)).alloc _, h⟩
  have HD1 : Hid (∀ W m, Two w w.heap.size (w.heap.size + 1) W false false → m = 4294967296 → Calls Tryd.prog 12 #[.pointer (some ⟨w.heap.size, 0, none⟩), .int .i64 (-9223372036854775808), .int .i64 m, .bool up] W fun e W' => e = .returned (.int .i64 (-9223372036854775808)) ∧ W'.cell? ⟨w.heap.size, 0, none⟩ = some (.bool false) ∧ W'.cell? ⟨w.heap.size + 1, 0, none⟩ = some (.bool false) ∧ Two w w.heap.size (w.heap.size + 1) W' false false) := fun W m h hme => by
    subst hme
    refine Calls.mono (div_live h.1 up x1 x2 (by omega) (by omega) (by omega)) fun e W' s => ?_
    rw [divF_one] at s
    obtain ⟨r1, r2⟩ := h.left (by omega) s
    rw [clampF_in x1 x2] at r1
    rw [overF_in x1 x2] at r2
    exact ⟨r1, r2.1.cell, r2.2.cell, r2⟩
  obtain ⟨V, hV⟩ : ∃ V, clampF (-(-9223372036854775808)) = V := ⟨_, rfl⟩
  have hO : overF (-(-9223372036854775808)) = true := overF_hi (by omega)
  have HD2 : Hid (∀ W m, Two w w.heap.size (w.heap.size + 1) W false false → m = -4294967296 → Calls Tryd.prog 12 #[.pointer (some ⟨w.heap.size, 0, none⟩), .int .i64 (-9223372036854775808), .int .i64 m, .bool up] W fun e W' => e = .returned (.int .i64 V) ∧ W'.cell? ⟨w.heap.size, 0, none⟩ = some (.bool true) ∧ W'.cell? ⟨w.heap.size + 1, 0, none⟩ = some (.bool false) ∧ Two w w.heap.size (w.heap.size + 1) W' true false) := fun W m h hme => by
    subst hme
    refine Calls.mono (div_live h.1 up x1 x2 (by omega) (by omega) (by omega)) fun e W' s => ?_
    rw [divF_minus] at s
    obtain ⟨r1, r2⟩ := h.left (by omega) s
    rw [hV] at r1
    rw [hO, Bool.false_or] at r2
    exact ⟨r1, r2.1.cell, r2.2.cell, r2⟩
  have HN : Hid (∀ W, Two w w.heap.size (w.heap.size + 1) W true false → Calls Tryd.prog 13 #[.pointer (some ⟨w.heap.size + 1, 0, none⟩), .int .i64 (-9223372036854775808)] W fun e W' => e = .returned (.int .i64 V) ∧ W'.cell? ⟨w.heap.size, 0, none⟩ = some (.bool true) ∧ W'.cell? ⟨w.heap.size + 1, 0, none⟩ = some (.bool true) ∧ Hid (Below w.heap.size w W')) := fun W h => by
    refine Calls.mono (neg_live h.2 x1 x2) fun e W' s => ?_
    obtain ⟨r1, r2⟩ := h.right (by omega) s
    rw [hV] at r1
    rw [hO, Bool.false_or] at r2
    exact ⟨r1, r2.1.cell, r2.2.cell, r2.1.below⟩
  have hVV : (V != V) = false := bne_self_eq_false _
  clear hm ht hV hO
  go_enter Tryd.func4, Tryd.ntmps4
  go_wp2_with fail
  have hs0 := HS0.out
  refine wp_region_held_drew (S := fun _ => True) (by kernel_rfl) trivial (fun _ => ?_)
  refine wpAnyH_take (i := 0) (oi := { dst := some 15, op := Op.move (Operand.tmp 7), type := 26, pos := "more.go:56", after := #[], guard := none }) (v := ?_) rfl (by kernel_rfl) (by kernel_rfl) (by kernel_rfl) (fun _ _ _ h => h) (Or.inl ⟨by rfl, ?_⟩) trivial ?_
  rotate_left
  · (intro w hSw; go_simp; all_goals (try with_reducible rfl))
  try simp only [Act.put, List.setIfInBounds_toArray, List.set_cons_zero, List.set_cons_succ]
  refine wpAnyH_take (i := 1) (oi := { dst := some 16, op := Op.move (Operand.tmp 0), type := 3, pos := "more.go:56", after := #[], guard := none }) (v := ?_) rfl (by kernel_rfl) (by kernel_rfl) (by kernel_rfl) (fun _ _ _ h => h) (Or.inl ⟨by rfl, ?_⟩) trivial ?_
  rotate_left
  · (intro w hSw; go_simp; all_goals (try with_reducible rfl))
  try simp only [Act.put, List.setIfInBounds_toArray, List.set_cons_zero, List.set_cons_succ]
  refine wpAnyH_take (i := 2) (oi := { dst := some 17, op := Op.move (Operand.tmp 2), type := 4, pos := "more.go:56", after := #[], guard := none }) (v := ?_) rfl (by kernel_rfl) (by kernel_rfl) (by kernel_rfl) (fun _ _ _ h => h) (Or.inl ⟨by rfl, ?_⟩) trivial ?_
  rotate_left
  · (intro w hSw; go_simp; all_goals (try with_reducible rfl))
  try simp only [Act.put, List.setIfInBounds_toArray, List.set_cons_zero, List.set_cons_succ]
  refine wpAnyH_take (i := 4) (oi := { dst := some 19, op := Op.move (Operand.tmp 0), type := 3, pos := "more.go:56", after := #[], guard := none }) (v := ?_) rfl (by kernel_rfl) (by kernel_rfl) (by kernel_rfl) (fun _ _ _ h => h) (Or.inl ⟨by rfl, ?_⟩) trivial ?_
  rotate_left
  · (intro w hSw; go_simp; all_goals (try with_reducible rfl))
  try simp only [Act.put, List.setIfInBounds_toArray, List.set_cons_zero, List.set_cons_succ]
  refine wpAnyH_ready (rs := [3]) (by kernel_rfl) (by simp) ?_
  refine AllReadyH.cons (o := { dst := some 18, op := Op.call { callee := Callee.value (Operand.func 12), args := #[Operand.tmp 15, Operand.tmp 16, Operand.const (Value.int IntKind.i64 4294967296), Operand.tmp 17], argTypes := #[26, 3, 3, 4] }, type := 3, pos := "more.go:56", after := #[{ on := 0, ground := Ground.data }, { on := 1, ground := Ground.data }, { on := 2, ground := Ground.data }], guard := none }) rfl (fun K hK => ?_) AllReadyH.nil
  go_simp
  refine Calls.mono (HD1.out _ _ hs0 (by decide)) ?_
  rintro e W1 ⟨rfl, hc1, hd1, hs1⟩
  go_wp2_with fail
  refine hK.out _ _ trivial (fun _ => ?_)
  clear hK K
  try simp only [Act.put, List.setIfInBounds_toArray, List.set_cons_zero, List.set_cons_succ]
  refine wpAnyH_take (i := 5) (oi := { dst := some 20, op := Op.binOp BinOp.neq 3 (Operand.tmp 18) (Operand.tmp 19) 3, type := 4, pos := "more.go:56", after := #[{ on := 3, ground := Ground.data }, { on := 4, ground := Ground.data }], guard := none }) (v := ?_) rfl (by kernel_rfl) (by kernel_rfl) (by kernel_rfl) (fun _ _ _ h => h) (Or.inl ⟨by rfl, ?_⟩) trivial ?_
  rotate_left
  · (intro w hSw; go_simp; all_goals (try with_reducible rfl))
  try simp only [Act.put, List.setIfInBounds_toArray, List.set_cons_zero, List.set_cons_succ]
  refine wpAnyH_take (i := 6) (oi := { dst := some 21, op := Op.move (Operand.tmp 20), type := 4, pos := "more.go:56", after := #[{ on := 5, ground := Ground.data }, { on := 3, ground := Ground.chain }], guard := none }) (v := ?_) rfl (by kernel_rfl) (by kernel_rfl) (by kernel_rfl) (fun _ _ _ h => h) (Or.inl ⟨by rfl, ?_⟩) trivial ?_
  rotate_left
  · (intro w hSw; go_simp; all_goals (try with_reducible rfl))
  try simp only [Act.put, List.setIfInBounds_toArray, List.set_cons_zero, List.set_cons_succ]
  refine wpAnyH_take (i := 7) (oi := { dst := some 22, op := Op.move (Operand.tmp 7), type := 26, pos := "more.go:56", after := #[{ on := 6, ground := Ground.guard }], guard := some (6, false) }) (v := ?_) rfl (by kernel_rfl) (by kernel_rfl) (by kernel_rfl) (fun _ _ _ h => h) (Or.inl ⟨by rfl, ?_⟩) trivial ?_
  rotate_left
  · (intro w hSw; go_simp; all_goals (try with_reducible rfl))
  try simp only [Act.put, List.setIfInBounds_toArray, List.set_cons_zero, List.set_cons_succ]
  refine wpAnyH_take (i := 8) (oi := { dst := some 23, op := Op.nilCheck (Operand.tmp 22), type := 0, pos := "more.go:56", after := #[{ on := 7, ground := Ground.data }, { on := 6, ground := Ground.guard }], guard := some (6, false) }) (v := ?_) rfl (by kernel_rfl) (by kernel_rfl) (by kernel_rfl) (fun _ _ _ h => h) (Or.inl ⟨by rfl, ?_⟩) trivial ?_
  rotate_left
  · (intro w hSw; go_simp; all_goals (try with_reducible rfl))
  try simp only [Act.put, List.setIfInBounds_toArray, List.set_cons_zero, List.set_cons_succ]
  refine wpAnyH_take (i := 9) (oi := { dst := some 24, op := Op.fieldAddr 28 (Operand.tmp 23) 0, type := 0, pos := "more.go:56", after := #[{ on := 8, ground := Ground.data }, { on := 6, ground := Ground.guard }], guard := some (6, false) }) (v := ?_) rfl (by kernel_rfl) (by kernel_rfl) (by kernel_rfl) (fun _ _ _ h => h) (Or.inl ⟨by rfl, ?_⟩) trivial ?_
  rotate_left
  · (intro w hSw; go_simp; all_goals (try with_reducible rfl))
  try simp only [Act.put, List.setIfInBounds_toArray, List.set_cons_zero, List.set_cons_succ]
  refine wpAnyH_ready (rs := [10]) (by kernel_rfl) (by simp) ?_
  refine AllReadyH.cons (o := { dst := some 25, op := Op.load 4 (Operand.tmp 24), type := 4, pos := "more.go:56", after := #[{ on := 9, ground := Ground.data }, { on := 6, ground := Ground.guard }], guard := some (6, false) }) rfl (fun K hK => ?_) AllReadyH.nil
  go_simp
  refine hK.out _ _ trivial (fun _ => ?_)
  clear hK K
  try simp only [Act.put, List.setIfInBounds_toArray, List.set_cons_zero, List.set_cons_succ]
  refine wpAnyH_take (i := 11) (oi := { dst := some 26, op := Op.pick (Operand.tmp 21) (Operand.const (Value.bool true)) (Operand.tmp 25), type := 4, pos := "more.go:56", after := #[{ on := 6, ground := Ground.data }, { on := 10, ground := Ground.data }], guard := none }) (v := ?_) rfl (by kernel_rfl) (by kernel_rfl) (by kernel_rfl) (fun _ _ _ h => h) (Or.inl ⟨by rfl, ?_⟩) trivial ?_
  rotate_left
  · (intro w hSw; go_simp; all_goals (try with_reducible rfl))
  try simp only [Act.put, List.setIfInBounds_toArray, List.set_cons_zero, List.set_cons_succ]
  refine wpAnyH_take (i := 12) (oi := { dst := some 27, op := Op.move (Operand.tmp 26), type := 4, pos := "more.go:56", after := #[{ on := 11, ground := Ground.data }, { on := 6, ground := Ground.chain }], guard := none }) (v := ?_) rfl (by kernel_rfl) (by kernel_rfl) (by kernel_rfl) (fun _ _ _ h => h) (Or.inl ⟨by rfl, ?_⟩) trivial ?_
  rotate_left
  · (intro w hSw; go_simp; all_goals (try with_reducible rfl))
  try simp only [Act.put, List.setIfInBounds_toArray, List.set_cons_zero, List.set_cons_succ]
  refine wpAnyH_take (i := 13) (oi := { dst := some 28, op := Op.move (Operand.tmp 7), type := 26, pos := "more.go:56", after := #[{ on := 12, ground := Ground.guard }], guard := some (12, false) }) (v := ?_) rfl (by kernel_rfl) (by kernel_rfl) (by kernel_rfl) (fun _ _ _ h => h) (Or.inl ⟨by rfl, ?_⟩) trivial ?_
  rotate_left
  · (intro w hSw; go_simp; all_goals (try with_reducible rfl))
  try simp only [Act.put, List.setIfInBounds_toArray, List.set_cons_zero, List.set_cons_succ]
  refine wpAnyH_take (i := 14) (oi := { dst := some 29, op := Op.move (Operand.tmp 0), type := 3, pos := "more.go:56", after := #[{ on := 12, ground := Ground.guard }], guard := some (12, false) }) (v := ?_) rfl (by kernel_rfl) (by kernel_rfl) (by kernel_rfl) (fun _ _ _ h => h) (Or.inl ⟨by rfl, ?_⟩) trivial ?_
  rotate_left
  · (intro w hSw; go_simp; all_goals (try with_reducible rfl))
  try simp only [Act.put, List.setIfInBounds_toArray, List.set_cons_zero, List.set_cons_succ]
  refine wpAnyH_take (i := 15) (oi := { dst := some 30, op := Op.move (Operand.tmp 2), type := 4, pos := "more.go:56", after := #[{ on := 12, ground := Ground.guard }], guard := some (12, false) }) (v := ?_) rfl (by kernel_rfl) (by kernel_rfl) (by kernel_rfl) (fun _ _ _ h => h) (Or.inl ⟨by rfl, ?_⟩) trivial ?_
  rotate_left
  · (intro w hSw; go_simp; all_goals (try with_reducible rfl))
  try simp only [Act.put, List.setIfInBounds_toArray, List.set_cons_zero, List.set_cons_succ]
  refine wpAnyH_take (i := 17) (oi := { dst := some 32, op := Op.move (Operand.tmp 8), type := 26, pos := "more.go:56", after := #[{ on := 12, ground := Ground.guard }], guard := some (12, false) }) (v := ?_) rfl (by kernel_rfl) (by kernel_rfl) (by kernel_rfl) (fun _ _ _ h => h) (Or.inl ⟨by rfl, ?_⟩) trivial ?_
  rotate_left
  · (intro w hSw; go_simp; all_goals (try with_reducible rfl))
  try simp only [Act.put, List.setIfInBounds_toArray, List.set_cons_zero, List.set_cons_succ]
  refine wpAnyH_take (i := 18) (oi := { dst := some 33, op := Op.move (Operand.tmp 0), type := 3, pos := "more.go:56", after := #[{ on := 12, ground := Ground.guard }], guard := some (12, false) }) (v := ?_) rfl (by kernel_rfl) (by kernel_rfl) (by kernel_rfl) (fun _ _ _ h => h) (Or.inl ⟨by rfl, ?_⟩) trivial ?_
  rotate_left
  · (intro w hSw; go_simp; all_goals (try with_reducible rfl))
  try simp only [Act.put, List.setIfInBounds_toArray, List.set_cons_zero, List.set_cons_succ]
  refine wpAnyH_ready (rs := [16]) (by kernel_rfl) (by simp) ?_
  refine AllReadyH.cons (o := { dst := some 31, op := Op.call { callee := Callee.value (Operand.func 12), args := #[Operand.tmp 28, Operand.tmp 29, Operand.const (Value.int IntKind.i64 (-4294967296)), Operand.tmp 30], argTypes := #[26, 3, 3, 4] }, type := 3, pos := "more.go:56", after := #[{ on := 13, ground := Ground.data }, { on := 14, ground := Ground.data }, { on := 15, ground := Ground.data }, { on := 12, ground := Ground.chain }, { on := 12, ground := Ground.guard }], guard := some (12, false) }) rfl (fun K hK => ?_) AllReadyH.nil
  go_simp
  refine Calls.mono (HD2.out _ _ hs1 (by decide)) ?_
  rintro e W2 ⟨rfl, hc2, hd2, hs2⟩
  go_wp2_with fail
  refine hK.out _ _ trivial (fun _ => ?_)
  clear hK K
  try simp only [Act.put, List.setIfInBounds_toArray, List.set_cons_zero, List.set_cons_succ]
  refine wpAnyH_ready (rs := [19]) (by kernel_rfl) (by simp) ?_
  refine AllReadyH.cons (o := { dst := some 34, op := Op.call { callee := Callee.value (Operand.func 13), args := #[Operand.tmp 32, Operand.tmp 33], argTypes := #[26, 3] }, type := 3, pos := "more.go:56", after := #[{ on := 17, ground := Ground.data }, { on := 18, ground := Ground.data }, { on := 16, ground := Ground.chain }, { on := 12, ground := Ground.guard }], guard := some (12, false) }) rfl (fun K hK => ?_) AllReadyH.nil
  go_simp
  refine Calls.mono (HN.out _ hs2) ?_
  rintro e W3 ⟨rfl, hc3, hd3, HB3⟩
  go_wp2_with fail
  refine hK.out _ _ trivial (fun _ => ?_)
  clear hK K
  try simp only [Act.put, List.setIfInBounds_toArray, List.set_cons_zero, List.set_cons_succ]
  refine wpAnyH_take (i := 20) (oi := { dst := some 35, op := Op.binOp BinOp.neq 3 (Operand.tmp 31) (Operand.tmp 34) 3, type := 4, pos := "more.go:56", after := #[{ on := 16, ground := Ground.data }, { on := 19, ground := Ground.data }, { on := 12, ground := Ground.guard }], guard := some (12, false) }) (v := ?_) rfl (by kernel_rfl) (by kernel_rfl) (by kernel_rfl) (fun _ _ _ h => h) (Or.inl ⟨by rfl, ?_⟩) trivial ?_
  rotate_left
  · (intro w hSw; go_simp; all_goals (try with_reducible rfl))
  try simp only [Act.put, List.setIfInBounds_toArray, List.set_cons_zero, List.set_cons_succ]
  refine wpAnyH_take (i := 21) (oi := { dst := some 36, op := Op.pick (Operand.tmp 27) (Operand.const (Value.bool true)) (Operand.tmp 35), type := 4, pos := "more.go:56", after := #[{ on := 12, ground := Ground.data }, { on := 20, ground := Ground.data }], guard := none }) (v := ?_) rfl (by kernel_rfl) (by kernel_rfl) (by kernel_rfl) (fun _ _ _ h => h) (Or.inl ⟨by rfl, ?_⟩) trivial ?_
  rotate_left
  · (intro w hSw; go_simp; all_goals (try with_reducible rfl))
  try simp only [Act.put, List.setIfInBounds_toArray, List.set_cons_zero, List.set_cons_succ]
  refine wpAnyH_take (i := 22) (oi := { dst := some 37, op := Op.move (Operand.tmp 36), type := 4, pos := "more.go:56", after := #[{ on := 21, ground := Ground.data }, { on := 19, ground := Ground.chain }], guard := none }) (v := ?_) rfl (by kernel_rfl) (by kernel_rfl) (by kernel_rfl) (fun _ _ _ h => h) (Or.inl ⟨by rfl, ?_⟩) trivial ?_
  rotate_left
  · (intro w hSw; go_simp; all_goals (try with_reducible rfl))
  try simp only [Act.put, List.setIfInBounds_toArray, List.set_cons_zero, List.set_cons_succ]
  refine wpAnyH_take (i := 23) (oi := { dst := some 38, op := Op.move (Operand.tmp 7), type := 26, pos := "more.go:56", after := #[{ on := 22, ground := Ground.guard }], guard := some (22, false) }) (v := ?_) rfl (by kernel_rfl) (by kernel_rfl) (by kernel_rfl) (fun _ _ _ h => h) (Or.inl ⟨by rfl, ?_⟩) trivial ?_
  rotate_left
  · (intro w hSw; go_simp; all_goals (try with_reducible rfl))
  try simp only [Act.put, List.setIfInBounds_toArray, List.set_cons_zero, List.set_cons_succ]
  refine wpAnyH_take (i := 24) (oi := { dst := some 39, op := Op.nilCheck (Operand.tmp 38), type := 0, pos := "more.go:56", after := #[{ on := 23, ground := Ground.data }, { on := 22, ground := Ground.guard }], guard := some (22, false) }) (v := ?_) rfl (by kernel_rfl) (by kernel_rfl) (by kernel_rfl) (fun _ _ _ h => h) (Or.inl ⟨by rfl, ?_⟩) trivial ?_
  rotate_left
  · (intro w hSw; go_simp; all_goals (try with_reducible rfl))
  try simp only [Act.put, List.setIfInBounds_toArray, List.set_cons_zero, List.set_cons_succ]
  refine wpAnyH_take (i := 25) (oi := { dst := some 40, op := Op.fieldAddr 28 (Operand.tmp 39) 0, type := 0, pos := "more.go:56", after := #[{ on := 24, ground := Ground.data }, { on := 22, ground := Ground.guard }], guard := some (22, false) }) (v := ?_) rfl (by kernel_rfl) (by kernel_rfl) (by kernel_rfl) (fun _ _ _ h => h) (Or.inl ⟨by rfl, ?_⟩) trivial ?_
  rotate_left
  · (intro w hSw; go_simp; all_goals (try with_reducible rfl))
  try simp only [Act.put, List.setIfInBounds_toArray, List.set_cons_zero, List.set_cons_succ]
  refine wpAnyH_take (i := 27) (oi := { dst := some 42, op := Op.move (Operand.tmp 8), type := 26, pos := "more.go:56", after := #[{ on := 22, ground := Ground.guard }], guard := some (22, false) }) (v := ?_) rfl (by kernel_rfl) (by kernel_rfl) (by kernel_rfl) (fun _ _ _ h => h) (Or.inl ⟨by rfl, ?_⟩) trivial ?_
  rotate_left
  · (intro w hSw; go_simp; all_goals (try with_reducible rfl))
  try simp only [Act.put, List.setIfInBounds_toArray, List.set_cons_zero, List.set_cons_succ]
  refine wpAnyH_take (i := 28) (oi := { dst := some 43, op := Op.nilCheck (Operand.tmp 42), type := 0, pos := "more.go:56", after := #[{ on := 27, ground := Ground.data }, { on := 22, ground := Ground.guard }], guard := some (22, false) }) (v := ?_) rfl (by kernel_rfl) (by kernel_rfl) (by kernel_rfl) (fun _ _ _ h => h) (Or.inl ⟨by rfl, ?_⟩) trivial ?_
  rotate_left
  · (intro w hSw; go_simp; all_goals (try with_reducible rfl))
  try simp only [Act.put, List.setIfInBounds_toArray, List.set_cons_zero, List.set_cons_succ]
  refine wpAnyH_take (i := 29) (oi := { dst := some 44, op := Op.fieldAddr 28 (Operand.tmp 43) 0, type := 0, pos := "more.go:56", after := #[{ on := 28, ground := Ground.data }, { on := 22, ground := Ground.guard }], guard := some (22, false) }) (v := ?_) rfl (by kernel_rfl) (by kernel_rfl) (by kernel_rfl) (fun _ _ _ h => h) (Or.inl ⟨by rfl, ?_⟩) trivial ?_
  rotate_left
  · (intro w hSw; go_simp; all_goals (try with_reducible rfl))
  try simp only [Act.put, List.setIfInBounds_toArray, List.set_cons_zero, List.set_cons_succ]
  refine wpAnyH_ready (rs := [26, 30]) (by kernel_rfl) (by simp) ?_
  refine AllReadyH.cons (o := { dst := some 41, op := Op.load 4 (Operand.tmp 40), type := 4, pos := "more.go:56", after := #[{ on := 25, ground := Ground.data }, { on := 22, ground := Ground.guard }], guard := some (22, false) }) rfl (fun K hK => ?_) ?_
  · go_simp
    refine hK.out _ _ trivial (fun _ => ?_)
    clear hK K
    try simp only [Act.put, List.setIfInBounds_toArray, List.set_cons_zero, List.set_cons_succ]
    refine wpAnyH_ready (rs := [30]) (by kernel_rfl) (by simp) ?_
    refine AllReadyH.cons (o := { dst := some 45, op := Op.load 4 (Operand.tmp 44), type := 4, pos := "more.go:56", after := #[{ on := 29, ground := Ground.data }, { on := 22, ground := Ground.guard }], guard := some (22, false) }) rfl (fun K hK => ?_) AllReadyH.nil
    go_simp
    refine hK.out _ _ trivial (fun _ => ?_)
    clear hK K
    try simp only [Act.put, List.setIfInBounds_toArray, List.set_cons_zero, List.set_cons_succ]
    refine wpAnyH_take (i := 31) (oi := { dst := some 46, op := Op.binOp BinOp.neq 4 (Operand.tmp 41) (Operand.tmp 45) 4, type := 4, pos := "more.go:56", after := #[{ on := 26, ground := Ground.data }, { on := 30, ground := Ground.data }, { on := 22, ground := Ground.guard }], guard := some (22, false) }) (v := ?_) rfl (by kernel_rfl) (by kernel_rfl) (by kernel_rfl) (fun _ _ _ h => h) (Or.inl ⟨by rfl, ?_⟩) trivial ?_
    rotate_left
    · (intro w hSw; go_simp; all_goals (try with_reducible rfl))
    try simp only [Act.put, List.setIfInBounds_toArray, List.set_cons_zero, List.set_cons_succ]
    refine wpAnyH_take (i := 32) (oi := { dst := some 47, op := Op.pick (Operand.tmp 37) (Operand.const (Value.bool true)) (Operand.tmp 46), type := 4, pos := "more.go:56", after := #[{ on := 22, ground := Ground.data }, { on := 31, ground := Ground.data }], guard := none }) (v := ?_) rfl (by kernel_rfl) (by kernel_rfl) (by kernel_rfl) (fun _ _ _ h => h) (Or.inl ⟨by rfl, ?_⟩) trivial ?_
    rotate_left
    · (intro w hSw; go_simp; all_goals (try with_reducible rfl))
    try simp only [Act.put, List.setIfInBounds_toArray, List.set_cons_zero, List.set_cons_succ]
    refine wpAnyH_done (by kernel_rfl) ?_ _
    clear hs0 HS0 HD1 HD2 HN hs1 hs2 hc1 hd1 hc2 hd2 hc3 hd3 W1 W2
    have LC : Live w W3.heap.size (W3.alloc (.cells #[.bool false] 28)) false := Live.make w W3 false HB3.out
    have L5 : Hid (Live w W3.heap.size (W3.alloc (.cells #[.bool false] 28)) false) := LC
    clear LC
    go_wp2_with fail
    refine Calls.mono (div_nought L5.out up) ?_
    rintro e W6 ⟨rfl, hL6, _⟩
    clear L5
    obtain ⟨Z, hZ⟩ : ∃ Z, noughtF (-9223372036854775808) = Z := ⟨_, rfl⟩
    rw [hZ]
    have HZ : Hid (noughtF (-9223372036854775808) = Z) := hZ
    clear hZ
    go_wp2_with fail
    refine Calls.mono (alive_live hL6 HM.out.1 HM.out.2) ?_
    rintro e W7 ⟨rfl, hL7, _⟩
    have hc7 := hL7.cell
    have HB7 : Hid (Below w.heap.size w W7) := hL7.below
    clear hL6 hL7
    have hz : (-9223372036854775808 : Int) = Z := HZ.out
    subst hz
    clear HZ
    go_wp2
    go_ret
    exact ⟨rfl, HB7.out⟩
  · refine AllReadyH.cons (o := { dst := some 45, op := Op.load 4 (Operand.tmp 44), type := 4, pos := "more.go:56", after := #[{ on := 29, ground := Ground.data }, { on := 22, ground := Ground.guard }], guard := some (22, false) }) rfl (fun K hK => ?_) AllReadyH.nil
    go_simp
    refine hK.out _ _ trivial (fun _ => ?_)
    clear hK K
    try simp only [Act.put, List.setIfInBounds_toArray, List.set_cons_zero, List.set_cons_succ]
    refine wpAnyH_ready (rs := [26]) (by kernel_rfl) (by simp) ?_
    refine AllReadyH.cons (o := { dst := some 41, op := Op.load 4 (Operand.tmp 40), type := 4, pos := "more.go:56", after := #[{ on := 25, ground := Ground.data }, { on := 22, ground := Ground.guard }], guard := some (22, false) }) rfl (fun K hK => ?_) AllReadyH.nil
    go_simp
    refine hK.out _ _ trivial (fun _ => ?_)
    clear hK K
    try simp only [Act.put, List.setIfInBounds_toArray, List.set_cons_zero, List.set_cons_succ]
    refine wpAnyH_take (i := 31) (oi := { dst := some 46, op := Op.binOp BinOp.neq 4 (Operand.tmp 41) (Operand.tmp 45) 4, type := 4, pos := "more.go:56", after := #[{ on := 26, ground := Ground.data }, { on := 30, ground := Ground.data }, { on := 22, ground := Ground.guard }], guard := some (22, false) }) (v := ?_) rfl (by kernel_rfl) (by kernel_rfl) (by kernel_rfl) (fun _ _ _ h => h) (Or.inl ⟨by rfl, ?_⟩) trivial ?_
    rotate_left
    · (intro w hSw; go_simp; all_goals (try with_reducible rfl))
    try simp only [Act.put, List.setIfInBounds_toArray, List.set_cons_zero, List.set_cons_succ]
    refine wpAnyH_take (i := 32) (oi := { dst := some 47, op := Op.pick (Operand.tmp 37) (Operand.const (Value.bool true)) (Operand.tmp 46), type := 4, pos := "more.go:56", after := #[{ on := 22, ground := Ground.data }, { on := 31, ground := Ground.data }], guard := none }) (v := ?_) rfl (by kernel_rfl) (by kernel_rfl) (by kernel_rfl) (fun _ _ _ h => h) (Or.inl ⟨by rfl, ?_⟩) trivial ?_
    rotate_left
    · (intro w hSw; go_simp; all_goals (try with_reducible rfl))
    try simp only [Act.put, List.setIfInBounds_toArray, List.set_cons_zero, List.set_cons_succ]
    refine wpAnyH_done (by kernel_rfl) ?_ _
    clear hs0 HS0 HD1 HD2 HN hs1 hs2 hc1 hd1 hc2 hd2 hc3 hd3 W1 W2
    have LC : Live w W3.heap.size (W3.alloc (.cells #[.bool false] 28)) false := Live.make w W3 false HB3.out
    have L5 : Hid (Live w W3.heap.size (W3.alloc (.cells #[.bool false] 28)) false) := LC
    clear LC
    go_wp2_with fail
    refine Calls.mono (div_nought L5.out up) ?_
    rintro e W6 ⟨rfl, hL6, _⟩
    clear L5
    obtain ⟨Z, hZ⟩ : ∃ Z, noughtF (-9223372036854775808) = Z := ⟨_, rfl⟩
    rw [hZ]
    have HZ : Hid (noughtF (-9223372036854775808) = Z) := hZ
    clear hZ
    go_wp2_with fail
    refine Calls.mono (alive_live hL6 HM.out.1 HM.out.2) ?_
    rintro e W7 ⟨rfl, hL7, _⟩
    have hc7 := hL7.cell
    have HB7 : Hid (Below w.heap.size w W7) := hL7.below
    clear hL6 hL7
    have hz : (-9223372036854775808 : Int) = Z := HZ.out
    subst hz
    clear HZ
    go_wp2
    go_ret
    exact ⟨rfl, HB7.out⟩
theorem quot_any (x y : Int) (up : Bool) (w : World) (hm : MaxLenIs w) (ht : PowsAre w) (x1 : -9223372036854775808 ≤ x) (x2 : x ≤ 9223372036854775807) (y1 : -9223372036854775808 ≤ y) (y2 : y ≤ 9223372036854775807) :
    Calls Tryd.prog 4 #[.int .i64 x, .int .i64 y, .bool up] w fun e w' => e = .returned (.bool true) ∧ Below w.heap.size w w' := by
  by_cases hy : y = 0
  · by_cases hx : x = -9223372036854775808
    · subst hx; exact quot_n0 _ y up w hm ht y1 y2 hy rfl
    · exact quot_a0 x y up w hm ht x1 x2 y1 y2 hy (by omega)
  · by_cases hx : x = -9223372036854775808
    · subst hx; exact quot_n _ y up w hm ht y1 y2 hy rfl
    · exact quot_a x y up w hm ht x1 x2 y1 y2 hy (by omega)
end Go.Proofs.YtpojkaeclfgfkabDoor
