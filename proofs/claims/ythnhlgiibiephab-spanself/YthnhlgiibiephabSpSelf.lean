/- SpanSelf: the law's walk. Conditions: none but the numbers' own ranges. -/
import Derived.Test.YthnhlgiibiephabKept2
namespace Go.Proofs.Ythnhlgiibiephab
open Go.RowKit
set_option linter.unusedVariables false
set_option maxRecDepth 100000

theorem cross_one (a b : Int) (ha : B64 a) (hb : B64 b) (h : a ≤ b) : crossLo a b 4294967296 4294967296 = a ∧ crossHi a b 4294967296 4294967296 = b ∧ (crossOv a b 4294967296 4294967296 false || crossOv a b 4294967296 4294967296 true) = false := by
  unfold crossLo crossHi crossOv min4 max4
  simp only [mulF_one, clampF_in ha.1 ha.2, clampF_in hb.1 hb.2, overF_in ha.1 ha.2, overF_in hb.1 hb.2]
  refine ⟨by omega, by omega, rfl⟩
theorem cross_zero (a b : Int) : crossLo a b 0 0 = 0 ∧ crossHi a b 0 0 = 0 ∧ (crossOv a b 0 0 false || crossOv a b 0 0 true) = false := by
  unfold crossLo crossHi crossOv min4 max4
  simp only [mulF_zero]
  exact ⟨by decide, by decide, by decide⟩

set_option maxHeartbeats 2000000 in
theorem self_nx (a b : Int) (w : World) (h1 : b < a) : Calls Try.prog 3 #[(.agg #[.int .i64 a, .int .i64 b])] w fun e w' => e = .returned (.bool true) ∧ Below w.heap.size w w' := by
  go_enter Try.func3, Try.ntmps3
  go_wp2_with fail
  refine Calls.mono (sempty_any a b true _ (by simp; omega)) ?_
  rintro e w1 ⟨rfl, hb⟩
  have HW1 : Hid (Below w.heap.size w w1) := ((Below.refl _ w).alloc (Nat.le_refl _) _).trans (hb.mono (by simp))
  have p1 : w1.cell? ⟨w.heap.size, 0, none⟩ = some (.int .i64 a) := cell_later hb (by simp)
  have p2 : w1.cell? ⟨w.heap.size, 1, none⟩ = some (.int .i64 b) := cell_later hb (by simp)
  have z1 : w.heap.size < w1.heap.size := by have := hb.size; simp at this; omega
  have z2 : w.heap.size < w1.heap.size + 1 := by omega
  clear hb
  go_wp2_with fail
  refine Calls.mono (salive_any _) ?_
  rintro e w9 ⟨rfl, hb⟩
  have HB9 : Hid (Below w.heap.size w w9) := HW1.out.trans (hb.mono HW1.out.size)
  clear hb
  go_wp2
  go_ret
  exact ⟨rfl, HB9.out⟩

set_option maxHeartbeats 16000000 in
theorem self_true (a b : Int) (w : World) (ha : B64 a) (hb' : B64 b) (h1 : a ≤ b) (hov : (overF (a - b) || overF (b - a)) = true) :
    Calls Try.prog 3 #[(.agg #[.int .i64 a, .int .i64 b])] w fun e w' => e = .returned (.bool true) ∧ Below w.heap.size w w' := by
  obtain ⟨X, hX⟩ : ∃ X, clampF (a - b) = X := ⟨_, rfl⟩
  obtain ⟨Y, hY⟩ : ∃ Y, clampF (b - a) = Y := ⟨_, rfl⟩
  have x1 : X ≤ 0 := by have := clampF_mono (show a - b ≤ 0 by omega); rw [hX] at this; exact this
  have x2 : 0 ≤ Y := by have := clampF_mono (show 0 ≤ b - a by omega); rw [hY] at this; exact this
  have HMi : Hid (∀ v W, Live w v W false → Calls Try.prog 11 #[.pointer (some ⟨v, 0, none⟩), (.agg #[.int .i64 a, .int .i64 b]), (.agg #[.int .i64 a, .int .i64 b])] W fun e W' => e = .returned ((.agg #[.int .i64 X, .int .i64 Y])) ∧ Live w v W' true ∧ Kept v W W') := fun v W l => by
    have t := sminus_some l a b a b h1 h1 ha hb' ha hb'
    rw [hX, hY, hov] at t
    exact Calls.mono t fun e W' t => ⟨t.1, t.2.1, t.2.2⟩
  have HT1' : Hid (∀ u W, Live w u W false → Calls Try.prog 13 #[.pointer (some ⟨u, 0, none⟩), (.agg #[.int .i64 a, .int .i64 b]), .int .i64 4294967296] W fun e W' => e = .returned ((.agg #[.int .i64 a, .int .i64 b])) ∧ Live w u W' false ∧ Kept u W W') := fun u W l => by
    have t := stimes_some l a b 4294967296 h1 ha hb' ⟨by omega, by omega⟩
    obtain ⟨e1, e2, e3⟩ := cross_one a b ha hb' h1
    rw [e1, e2, e3] at t
    exact Calls.mono t fun e W' t => ⟨t.1, t.2.1, t.2.2⟩
  have HT0' : Hid (∀ u W, Live w u W false → Calls Try.prog 13 #[.pointer (some ⟨u, 0, none⟩), (.agg #[.int .i64 a, .int .i64 b]), .int .i64 0] W fun e W' => e = .returned ((.agg #[.int .i64 0, .int .i64 0])) ∧ Live w u W' false ∧ Kept u W W') := fun u W l => by
    have t := stimes_some l a b 0 h1 ha hb' ⟨by omega, by omega⟩
    obtain ⟨e1, e2, e3⟩ := cross_zero a b
    rw [e1, e2, e3] at t
    exact Calls.mono t fun e W' t => ⟨t.1, t.2.1, t.2.2⟩
  have HP1' : Hid (∀ u W g, Live w u W false → SpanRow W (some ⟨g, 0, none⟩) [(a, b)] → g ≠ u → Calls Try.prog 14 #[.pointer (some ⟨u, 0, none⟩), .slice (some ⟨g, 0, none⟩) 1 1] W fun e W' => e = .returned ((.agg #[.int .i64 a, .int .i64 b])) ∧ Live w u W' false ∧ Kept u W W') := fun u W g l hr hg => by
    have t := plus_at1 l a b h1 ha hb' g hr hg
    rw [clampF_in ha.1 ha.2, clampF_in hb'.1 hb'.2, overF_in ha.1 ha.2, overF_in hb'.1 hb'.2] at t
    exact Calls.mono t fun e W' t => ⟨t.1, t.2.1, t.2.2⟩
  have HP2' : Hid (∀ u W g, Live w u W false → SpanRow W (some ⟨g, 0, none⟩) [(a, b), (0, 0)] → g ≠ u → Calls Try.prog 14 #[.pointer (some ⟨u, 0, none⟩), .slice (some ⟨g, 0, none⟩) 2 2] W fun e W' => e = .returned ((.agg #[.int .i64 a, .int .i64 b])) ∧ Live w u W' false ∧ Kept u W W') := fun u W g l hr hg => by
    have t := plus_at l a b 0 0 h1 (Int.le_refl 0) ha hb' ⟨by omega, by omega⟩ ⟨by omega, by omega⟩ g hr hg
    rw [Int.add_zero, Int.add_zero, clampF_in ha.1 ha.2, clampF_in hb'.1 hb'.2, overF_in ha.1 ha.2, overF_in hb'.1 hb'.2] at t
    exact Calls.mono t fun e W' t => ⟨t.1, t.2.1, t.2.2⟩
  have haa : (a == a) = true := beq_self_eq_true a
  have hbb : (b == b) = true := beq_self_eq_true b
  clear hX hY hov ha hb'
  go_enter Try.func3, Try.ntmps3
  go_wp2_with fail
  refine Calls.mono (sempty_any a b false _ (by simp; omega)) ?_
  rintro e w1 ⟨rfl, hb⟩
  have HW1 : Hid (Below w.heap.size w w1) := ((Below.refl _ w).alloc (Nat.le_refl _) _).trans (hb.mono (by simp))
  have p1 : w1.cell? ⟨w.heap.size, 0, none⟩ = some (.int .i64 a) := cell_later hb (by simp)
  have p2 : w1.cell? ⟨w.heap.size, 1, none⟩ = some (.int .i64 b) := cell_later hb (by simp)
  have z1 : w.heap.size < w1.heap.size := by have := hb.size; simp at this; omega
  have z2 : w.heap.size < w1.heap.size + 1 := by omega
  clear hb
  have lb1 := Live.sacc w (w1.alloc (.cells #[.bool false] 30)) false 30 (HW1.out.alloc HW1.out.size _)
  have la1 := (Live.sacc w w1 false 30 HW1.out).alloc (.cells #[.bool false] 30)
  have e1 : (w1.alloc (.cells #[.bool false] 30)).heap.size = w1.heap.size + 1 := by simp
  rw [e1] at lb1
  go_wp2_with fail
  refine Calls.mono (HMi.out _ _ la1) ?_
  rintro e w2 ⟨rfl, la2, kx⟩
  have lb2 := lb1.kept kx (by omega) la1.new
  have r1 : w2.cell? ⟨w.heap.size, 0, none⟩ = some (.int .i64 a) := kx.cell (by simp [go_sem, z1, z2, p1]) (by omega)
  have r2 : w2.cell? ⟨w.heap.size, 1, none⟩ = some (.int .i64 b) := kx.cell (by simp [go_sem, z1, z2, p2]) (by omega)
  obtain ⟨v, hv⟩ : ∃ v, w1.heap.size = v := ⟨_, rfl⟩
  obtain ⟨u, hu⟩ : ∃ u, v + 1 = u := ⟨_, rfl⟩
  rw [hv] at la2 lb2
  rw [hu] at lb2
  have z4 := la2.old
  have z5 := lb2.old
  have hne01 : v ≠ u := by omega
  have hne10 : u ≠ v := by omega
  have z6 : w.heap.size < v := by omega
  have HV : Hid (w1.heap.size = v) := hv
  have HU : Hid (v + 1 = u) := hu
  have HT1 : Hid (∀ W, Live w u W false → Calls Try.prog 13 #[.pointer (some ⟨u, 0, none⟩), (.agg #[.int .i64 a, .int .i64 b]), .int .i64 4294967296] W fun e W' => e = .returned ((.agg #[.int .i64 a, .int .i64 b])) ∧ Live w u W' false ∧ Kept u W W') := HT1'.out u
  have HT0 : Hid (∀ W, Live w u W false → Calls Try.prog 13 #[.pointer (some ⟨u, 0, none⟩), (.agg #[.int .i64 a, .int .i64 b]), .int .i64 0] W fun e W' => e = .returned ((.agg #[.int .i64 0, .int .i64 0])) ∧ Live w u W' false ∧ Kept u W W') := HT0'.out u
  have HP1 : Hid (∀ W g, Live w u W false → SpanRow W (some ⟨g, 0, none⟩) [(a, b)] → g ≠ u → Calls Try.prog 14 #[.pointer (some ⟨u, 0, none⟩), .slice (some ⟨g, 0, none⟩) 1 1] W fun e W' => e = .returned ((.agg #[.int .i64 a, .int .i64 b])) ∧ Live w u W' false ∧ Kept u W W') := HP1'.out u
  have HP2 : Hid (∀ W g, Live w u W false → SpanRow W (some ⟨g, 0, none⟩) [(a, b), (0, 0)] → g ≠ u → Calls Try.prog 14 #[.pointer (some ⟨u, 0, none⟩), .slice (some ⟨g, 0, none⟩) 2 2] W fun e W' => e = .returned ((.agg #[.int .i64 a, .int .i64 b])) ∧ Live w u W' false ∧ Kept u W W') := HP2'.out u
  have HK : Hid (∀ W', Kept2 v u (w2.alloc (.cells #[.int .i64 X, .int .i64 Y] 23)) W' → W'.cell? ⟨w.heap.size, 0, none⟩ = some (.int .i64 a) ∧ W'.cell? ⟨w.heap.size, 1, none⟩ = some (.int .i64 b) ∧ W'.cell? ⟨w2.heap.size, 0, none⟩ = some (.int .i64 X) ∧ W'.cell? ⟨w2.heap.size, 1, none⟩ = some (.int .i64 Y)) := fun W' k => by
    have e1 : w.heap.size < w2.heap.size := by omega
    exact ⟨k.cell (by simp [go_sem, e1, r1]) (by omega) (by omega), k.cell (by simp [go_sem, e1, r2]) (by omega) (by omega), k.cell (by simp [go_sem]) (by omega) (by omega), k.cell (by simp [go_sem]) (by omega) (by omega)⟩
  have l0 : Live w v (w2.alloc (.cells #[.int .i64 X, .int .i64 Y] 23)).drew true := (la2.alloc _).drew
  have l1 : Live w u (w2.alloc (.cells #[.int .i64 X, .int .i64 Y] 23)).drew false := (lb2.alloc _).drew
  have m0 : Kept2 v u (w2.alloc (.cells #[.int .i64 X, .int .i64 Y] 23)) (w2.alloc (.cells #[.int .i64 X, .int .i64 Y] 23)).drew := Kept2.drew v u _
  clear kx p1 p2 hv hu HW1 HMi HT1' HT0' HP1' HP2' la1 lb1 la2 lb2 r1 r2 e1
  go_wp2_with fail
  rw [HV.out, HU.out]
  refine wp_region_held_drew (S := fun W' => W'.cell? ⟨w.heap.size, 0, none⟩ = some (.int .i64 a) ∧ W'.cell? ⟨w.heap.size, 1, none⟩ = some (.int .i64 b) ∧ W'.cell? ⟨w2.heap.size, 0, none⟩ = some (.int .i64 X) ∧ W'.cell? ⟨w2.heap.size, 1, none⟩ = some (.int .i64 Y) ∧ W'.cell? ⟨v, 0, none⟩ = some (.bool true) ∧ W'.cell? ⟨u, 0, none⟩ = some (.bool false)) (by kernel_rfl) ⟨(HK.out _ m0).1, (HK.out _ m0).2.1, (HK.out _ m0).2.2.1, (HK.out _ m0).2.2.2, l0.cell, l1.cell⟩ (fun hHeld => ?_)
  refine wpAnyH_ready (rs := [0]) (by kernel_rfl) (by simp) ?_
  refine AllReadyH.cons (o := { dst := some 17, op := Op.call { callee := Callee.value (Operand.func 10), args := #[], argTypes := #[] }, type := 4, pos := "more.go:17", after := #[], guard := none }) rfl (fun K hK => ?_) AllReadyH.nil
  go_simp
  refine Calls.mono (salive_any _) ?_
  rintro e qW1 ⟨rfl, hb⟩
  have ql1_0 := l0.stays hb
  have ql1_1 := l1.stays hb
  have qm1 := m0.below hb
  clear hb
  go_wp2_with fail
  refine hK.out _ _ ⟨(HK.out _ qm1).1, (HK.out _ qm1).2.1, (HK.out _ qm1).2.2.1, (HK.out _ qm1).2.2.2, ql1_0.cell, ql1_1.cell⟩ (fun hHeld => ?_)
  clear hK K
  try simp only [Act.put, List.setIfInBounds_toArray, List.set_cons_zero, List.set_cons_succ]
  refine wpAnyH_take (i := 1) (oi := { dst := some 18, op := Op.move (Operand.tmp 17), type := 4, pos := "more.go:17", after := #[{ on := 0, ground := Ground.data }, { on := 0, ground := Ground.chain }], guard := none }) (v := ?_) rfl (by kernel_rfl) (by kernel_rfl) (by kernel_rfl) (fun _ _ _ h => h) (Or.inl ⟨by rfl, ?_⟩) hHeld ?_
  rotate_left
  · (intro w hSw; (try dsimp only at hSw); go_simp; all_goals (try with_reducible rfl))
  try simp only [Act.put, List.setIfInBounds_toArray, List.set_cons_zero, List.set_cons_succ]
  refine wpAnyH_take (i := 2) (oi := { dst := some 19, op := Op.move (Operand.tmp 3), type := 26, pos := "more.go:17", after := #[{ on := 1, ground := Ground.guard }], guard := some (1, true) }) (v := ?_) rfl (by kernel_rfl) (by kernel_rfl) (by kernel_rfl) (fun _ _ _ h => h) (Or.inl ⟨by rfl, ?_⟩) hHeld ?_
  rotate_left
  · (intro w hSw; (try dsimp only at hSw); go_simp; all_goals (try with_reducible rfl))
  try simp only [Act.put, List.setIfInBounds_toArray, List.set_cons_zero, List.set_cons_succ]
  refine wpAnyH_take (i := 3) (oi := { dst := some 20, op := Op.nilCheck (Operand.tmp 19), type := 0, pos := "more.go:17", after := #[{ on := 2, ground := Ground.data }, { on := 1, ground := Ground.guard }], guard := some (1, true) }) (v := ?_) rfl (by kernel_rfl) (by kernel_rfl) (by kernel_rfl) (fun _ _ _ h => h) (Or.inl ⟨by rfl, ?_⟩) hHeld ?_
  rotate_left
  · (intro w hSw; (try dsimp only at hSw); go_simp; all_goals (try with_reducible rfl))
  try simp only [Act.put, List.setIfInBounds_toArray, List.set_cons_zero, List.set_cons_succ]
  refine wpAnyH_take (i := 4) (oi := { dst := some 21, op := Op.fieldAddr 30 (Operand.tmp 20) 0, type := 0, pos := "more.go:17", after := #[{ on := 3, ground := Ground.data }, { on := 1, ground := Ground.guard }], guard := some (1, true) }) (v := ?_) rfl (by kernel_rfl) (by kernel_rfl) (by kernel_rfl) (fun _ _ _ h => h) (Or.inl ⟨by rfl, ?_⟩) hHeld ?_
  rotate_left
  · (intro w hSw; (try dsimp only at hSw); go_simp; all_goals (try with_reducible rfl))
  try simp only [Act.put, List.setIfInBounds_toArray, List.set_cons_zero, List.set_cons_succ]
  refine wpAnyH_take (i := 5) (oi := { dst := some 22, op := Op.fieldAddr 28 (Operand.tmp 21) 0, type := 0, pos := "more.go:17", after := #[{ on := 4, ground := Ground.data }, { on := 1, ground := Ground.guard }], guard := some (1, true) }) (v := ?_) rfl (by kernel_rfl) (by kernel_rfl) (by kernel_rfl) (fun _ _ _ h => h) (Or.inl ⟨by rfl, ?_⟩) hHeld ?_
  rotate_left
  · (intro w hSw; (try dsimp only at hSw); go_simp; all_goals (try with_reducible rfl))
  try simp only [Act.put, List.setIfInBounds_toArray, List.set_cons_zero, List.set_cons_succ]
  refine wpAnyH_take (i := 6) (oi := { dst := some 23, op := Op.load 4 (Operand.tmp 22), type := 4, pos := "more.go:17", after := #[{ on := 5, ground := Ground.data }, { on := 1, ground := Ground.guard }], guard := some (1, true) }) (v := ?_) rfl (by kernel_rfl) (by kernel_rfl) (by kernel_rfl) (fun _ _ _ h => h) (Or.inl ⟨by rfl, ?_⟩) hHeld ?_
  rotate_left
  · (intro w hSw; (try dsimp only at hSw); go_simp; all_goals (try with_reducible rfl))
  try simp only [Act.put, List.setIfInBounds_toArray, List.set_cons_zero, List.set_cons_succ]
  refine wpAnyH_take (i := 7) (oi := { dst := some 24, op := Op.move (Operand.tmp 23), type := 4, pos := "more.go:17", after := #[{ on := 6, ground := Ground.data }, { on := 1, ground := Ground.chain }, { on := 1, ground := Ground.guard }], guard := some (1, true) }) (v := ?_) rfl (by kernel_rfl) (by kernel_rfl) (by kernel_rfl) (fun _ _ _ h => h) (Or.inl ⟨by rfl, ?_⟩) hHeld ?_
  rotate_left
  · (intro w hSw; (try dsimp only at hSw); go_simp; all_goals (try with_reducible rfl))
  try simp only [Act.put, List.setIfInBounds_toArray, List.set_cons_zero, List.set_cons_succ]
  refine wpAnyH_take (i := 8) (oi := { dst := some 25, op := Op.load 23 (Operand.tmp 5), type := 23, pos := "more.go:17", after := #[{ on := 7, ground := Ground.guard }], guard := some (7, false) }) (v := undef) rfl (by kernel_rfl) (by kernel_rfl) (by kernel_rfl) (fun _ _ _ h => h) (Or.inr ⟨by rfl, rfl⟩) hHeld ?_
  try simp only [Act.put, List.setIfInBounds_toArray, List.set_cons_zero, List.set_cons_succ]
  refine wpAnyH_take (i := 9) (oi := { dst := some 26, op := Op.call { callee := Callee.value (Operand.func 12), args := #[Operand.tmp 25, Operand.const (Value.int IntKind.i64 0)], argTypes := #[23, 3] }, type := 4, pos := "more.go:17", after := #[{ on := 8, ground := Ground.data }, { on := 7, ground := Ground.chain }, { on := 7, ground := Ground.guard }], guard := some (7, false) }) (v := undef) rfl (by kernel_rfl) (by kernel_rfl) (by kernel_rfl) (fun _ _ _ h => h) (Or.inr ⟨by rfl, rfl⟩) hHeld ?_
  try simp only [Act.put, List.setIfInBounds_toArray, List.set_cons_zero, List.set_cons_succ]
  refine wpAnyH_take (i := 10) (oi := { dst := some 27, op := Op.pick (Operand.tmp 24) (Operand.const (Value.bool true)) (Operand.tmp 26), type := 4, pos := "more.go:17", after := #[{ on := 7, ground := Ground.data }, { on := 9, ground := Ground.data }, { on := 1, ground := Ground.guard }], guard := some (1, true) }) (v := ?_) rfl (by kernel_rfl) (by kernel_rfl) (by kernel_rfl) (fun _ _ _ h => h) (Or.inl ⟨by rfl, ?_⟩) hHeld ?_
  rotate_left
  · (intro w hSw; (try dsimp only at hSw); go_simp; all_goals (try with_reducible rfl))
  try simp only [Act.put, List.setIfInBounds_toArray, List.set_cons_zero, List.set_cons_succ]
  refine wpAnyH_take (i := 11) (oi := { dst := some 28, op := Op.pick (Operand.tmp 18) (Operand.tmp 27) (Operand.const (Value.bool false)), type := 4, pos := "more.go:17", after := #[{ on := 1, ground := Ground.data }, { on := 10, ground := Ground.data }], guard := none }) (v := ?_) rfl (by kernel_rfl) (by kernel_rfl) (by kernel_rfl) (fun _ _ _ h => h) (Or.inl ⟨by rfl, ?_⟩) hHeld ?_
  rotate_left
  · (intro w hSw; (try dsimp only at hSw); go_simp; all_goals (try with_reducible rfl))
  try simp only [Act.put, List.setIfInBounds_toArray, List.set_cons_zero, List.set_cons_succ]
  refine wpAnyH_take (i := 12) (oi := { dst := some 29, op := Op.move (Operand.tmp 28), type := 4, pos := "more.go:17", after := #[{ on := 11, ground := Ground.data }, { on := 9, ground := Ground.chain }], guard := none }) (v := ?_) rfl (by kernel_rfl) (by kernel_rfl) (by kernel_rfl) (fun _ _ _ h => h) (Or.inl ⟨by rfl, ?_⟩) hHeld ?_
  rotate_left
  · (intro w hSw; (try dsimp only at hSw); go_simp; all_goals (try with_reducible rfl))
  try simp only [Act.put, List.setIfInBounds_toArray, List.set_cons_zero, List.set_cons_succ]
  refine wpAnyH_take (i := 13) (oi := { dst := some 30, op := Op.move (Operand.tmp 4), type := 26, pos := "more.go:17", after := #[{ on := 12, ground := Ground.guard }], guard := some (12, true) }) (v := ?_) rfl (by kernel_rfl) (by kernel_rfl) (by kernel_rfl) (fun _ _ _ h => h) (Or.inl ⟨by rfl, ?_⟩) hHeld ?_
  rotate_left
  · (intro w hSw; (try dsimp only at hSw); go_simp; all_goals (try with_reducible rfl))
  try simp only [Act.put, List.setIfInBounds_toArray, List.set_cons_zero, List.set_cons_succ]
  refine wpAnyH_take (i := 14) (oi := { dst := some 31, op := Op.load 23 (Operand.tmp 1), type := 23, pos := "more.go:17", after := #[{ on := 12, ground := Ground.guard }], guard := some (12, true) }) (v := ?_) rfl (by kernel_rfl) (by kernel_rfl) (by kernel_rfl) (fun _ _ _ h => h) (Or.inl ⟨by rfl, ?_⟩) hHeld ?_
  rotate_left
  · (intro w hSw; (try dsimp only at hSw); go_simp; all_goals (try with_reducible rfl))
  try simp only [Act.put, List.setIfInBounds_toArray, List.set_cons_zero, List.set_cons_succ]
  refine wpAnyH_take (i := 16) (oi := { dst := some 33, op := Op.load 23 (Operand.tmp 1), type := 23, pos := "more.go:17", after := #[{ on := 12, ground := Ground.guard }], guard := some (12, true) }) (v := ?_) rfl (by kernel_rfl) (by kernel_rfl) (by kernel_rfl) (fun _ _ _ h => h) (Or.inl ⟨by rfl, ?_⟩) hHeld ?_
  rotate_left
  · (intro w hSw; (try dsimp only at hSw); go_simp; all_goals (try with_reducible rfl))
  try simp only [Act.put, List.setIfInBounds_toArray, List.set_cons_zero, List.set_cons_succ]
  refine wpAnyH_ready (rs := [15]) (by kernel_rfl) (by simp) ?_
  refine AllReadyH.cons (o := { dst := some 32, op := Op.call { callee := Callee.value (Operand.func 13), args := #[Operand.tmp 30, Operand.tmp 31, Operand.const (Value.int IntKind.i64 4294967296)], argTypes := #[26, 23, 3] }, type := 23, pos := "more.go:17", after := #[{ on := 13, ground := Ground.data }, { on := 14, ground := Ground.data }, { on := 12, ground := Ground.chain }, { on := 12, ground := Ground.guard }], guard := some (12, true) }) rfl (fun K hK => ?_) AllReadyH.nil
  go_simp
  refine Calls.mono (HT1.out _ ql1_1) ?_
  rintro e qW2 ⟨rfl, lx, kx⟩
  have ql2_0 := ql1_0.kept kx hne01 ql1_1.new
  have ql2_1 := lx
  have qm2 := qm1.right kx
  clear kx lx
  go_wp2_with fail
  refine hK.out _ _ ⟨(HK.out _ qm2).1, (HK.out _ qm2).2.1, (HK.out _ qm2).2.2.1, (HK.out _ qm2).2.2.2, ql2_0.cell, ql2_1.cell⟩ (fun hHeld => ?_)
  clear hK K
  try simp only [Act.put, List.setIfInBounds_toArray, List.set_cons_zero, List.set_cons_succ]
  refine wpAnyH_take (i := 17) (oi := { dst := some 34, op := Op.binOp BinOp.eql 23 (Operand.tmp 32) (Operand.tmp 33) 23, type := 4, pos := "more.go:17", after := #[{ on := 15, ground := Ground.data }, { on := 16, ground := Ground.data }, { on := 12, ground := Ground.guard }], guard := some (12, true) }) (v := ?_) rfl (by kernel_rfl) (by kernel_rfl) (by kernel_rfl) (fun _ _ _ h => h) (Or.inl ⟨by rfl, ?_⟩) hHeld ?_
  rotate_left
  · (intro w hSw; (try dsimp only at hSw); go_simp; all_goals (try with_reducible rfl))
  try simp only [Act.put, List.setIfInBounds_toArray, List.set_cons_zero, List.set_cons_succ]
  refine wpAnyH_take (i := 18) (oi := { dst := some 35, op := Op.pick (Operand.tmp 29) (Operand.tmp 34) (Operand.const (Value.bool false)), type := 4, pos := "more.go:17", after := #[{ on := 12, ground := Ground.data }, { on := 17, ground := Ground.data }], guard := none }) (v := ?_) rfl (by kernel_rfl) (by kernel_rfl) (by kernel_rfl) (fun _ _ _ h => h) (Or.inl ⟨by rfl, ?_⟩) hHeld ?_
  rotate_left
  · (intro w hSw; (try dsimp only at hSw); go_simp; all_goals (try with_reducible rfl))
  try simp only [Act.put, List.setIfInBounds_toArray, List.set_cons_zero, List.set_cons_succ]
  refine wpAnyH_take (i := 19) (oi := { dst := some 36, op := Op.move (Operand.tmp 35), type := 4, pos := "more.go:17", after := #[{ on := 18, ground := Ground.data }, { on := 15, ground := Ground.chain }], guard := none }) (v := ?_) rfl (by kernel_rfl) (by kernel_rfl) (by kernel_rfl) (fun _ _ _ h => h) (Or.inl ⟨by rfl, ?_⟩) hHeld ?_
  rotate_left
  · (intro w hSw; (try dsimp only at hSw); go_simp; all_goals (try with_reducible rfl))
  try simp only [Act.put, List.setIfInBounds_toArray, List.set_cons_zero, List.set_cons_succ]
  refine wpAnyH_take (i := 20) (oi := { dst := some 37, op := Op.move (Operand.tmp 4), type := 26, pos := "more.go:17", after := #[{ on := 19, ground := Ground.guard }], guard := some (19, true) }) (v := ?_) rfl (by kernel_rfl) (by kernel_rfl) (by kernel_rfl) (fun _ _ _ h => h) (Or.inl ⟨by rfl, ?_⟩) hHeld ?_
  rotate_left
  · (intro w hSw; (try dsimp only at hSw); go_simp; all_goals (try with_reducible rfl))
  try simp only [Act.put, List.setIfInBounds_toArray, List.set_cons_zero, List.set_cons_succ]
  refine wpAnyH_take (i := 21) (oi := { dst := some 38, op := Op.load 23 (Operand.tmp 1), type := 23, pos := "more.go:17", after := #[{ on := 19, ground := Ground.guard }], guard := some (19, true) }) (v := ?_) rfl (by kernel_rfl) (by kernel_rfl) (by kernel_rfl) (fun _ _ _ h => h) (Or.inl ⟨by rfl, ?_⟩) hHeld ?_
  rotate_left
  · (intro w hSw; (try dsimp only at hSw); go_simp; all_goals (try with_reducible rfl))
  try simp only [Act.put, List.setIfInBounds_toArray, List.set_cons_zero, List.set_cons_succ]
  refine wpAnyH_take (i := 23) (oi := { dst := some 40, op := Op.build 23 #[], type := 23, pos := "more.go:17", after := #[{ on := 19, ground := Ground.guard }], guard := some (19, true) }) (v := ?_) rfl (by kernel_rfl) (by kernel_rfl) (by kernel_rfl) (fun _ _ _ h => h) (Or.inl ⟨by rfl, ?_⟩) hHeld ?_
  rotate_left
  · (intro w hSw; (try dsimp only at hSw); go_simp; all_goals (try with_reducible rfl))
  try simp only [Act.put, List.setIfInBounds_toArray, List.set_cons_zero, List.set_cons_succ]
  refine wpAnyH_ready (rs := [22]) (by kernel_rfl) (by simp) ?_
  refine AllReadyH.cons (o := { dst := some 39, op := Op.call { callee := Callee.value (Operand.func 13), args := #[Operand.tmp 37, Operand.tmp 38, Operand.const (Value.int IntKind.i64 0)], argTypes := #[26, 23, 3] }, type := 23, pos := "more.go:17", after := #[{ on := 20, ground := Ground.data }, { on := 21, ground := Ground.data }, { on := 19, ground := Ground.chain }, { on := 19, ground := Ground.guard }], guard := some (19, true) }) rfl (fun K hK => ?_) AllReadyH.nil
  go_simp
  refine Calls.mono (HT0.out _ ql2_1) ?_
  rintro e qW3 ⟨rfl, lx, kx⟩
  have ql3_0 := ql2_0.kept kx hne01 ql2_1.new
  have ql3_1 := lx
  have qm3 := qm2.right kx
  clear kx lx
  go_wp2_with fail
  refine hK.out _ _ ⟨(HK.out _ qm3).1, (HK.out _ qm3).2.1, (HK.out _ qm3).2.2.1, (HK.out _ qm3).2.2.2, ql3_0.cell, ql3_1.cell⟩ (fun hHeld => ?_)
  clear hK K
  try simp only [Act.put, List.setIfInBounds_toArray, List.set_cons_zero, List.set_cons_succ]
  refine wpAnyH_take (i := 24) (oi := { dst := some 41, op := Op.binOp BinOp.eql 23 (Operand.tmp 39) (Operand.tmp 40) 23, type := 4, pos := "more.go:17", after := #[{ on := 22, ground := Ground.data }, { on := 23, ground := Ground.data }, { on := 19, ground := Ground.guard }], guard := some (19, true) }) (v := ?_) rfl (by kernel_rfl) (by kernel_rfl) (by kernel_rfl) (fun _ _ _ h => h) (Or.inl ⟨by rfl, ?_⟩) hHeld ?_
  rotate_left
  · (intro w hSw; (try dsimp only at hSw); go_simp; all_goals (try with_reducible rfl))
  try simp only [Act.put, List.setIfInBounds_toArray, List.set_cons_zero, List.set_cons_succ]
  refine wpAnyH_take (i := 25) (oi := { dst := some 42, op := Op.pick (Operand.tmp 36) (Operand.tmp 41) (Operand.const (Value.bool false)), type := 4, pos := "more.go:17", after := #[{ on := 19, ground := Ground.data }, { on := 24, ground := Ground.data }], guard := none }) (v := ?_) rfl (by kernel_rfl) (by kernel_rfl) (by kernel_rfl) (fun _ _ _ h => h) (Or.inl ⟨by rfl, ?_⟩) hHeld ?_
  rotate_left
  · (intro w hSw; (try dsimp only at hSw); go_simp; all_goals (try with_reducible rfl))
  try simp only [Act.put, List.setIfInBounds_toArray, List.set_cons_zero, List.set_cons_succ]
  refine wpAnyH_take (i := 26) (oi := { dst := some 43, op := Op.move (Operand.tmp 42), type := 4, pos := "more.go:17", after := #[{ on := 25, ground := Ground.data }, { on := 22, ground := Ground.chain }], guard := none }) (v := ?_) rfl (by kernel_rfl) (by kernel_rfl) (by kernel_rfl) (fun _ _ _ h => h) (Or.inl ⟨by rfl, ?_⟩) hHeld ?_
  rotate_left
  · (intro w hSw; (try dsimp only at hSw); go_simp; all_goals (try with_reducible rfl))
  try simp only [Act.put, List.setIfInBounds_toArray, List.set_cons_zero, List.set_cons_succ]
  refine wpAnyH_take (i := 27) (oi := { dst := some 44, op := Op.move (Operand.tmp 4), type := 26, pos := "more.go:17", after := #[{ on := 26, ground := Ground.guard }], guard := some (26, true) }) (v := ?_) rfl (by kernel_rfl) (by kernel_rfl) (by kernel_rfl) (fun _ _ _ h => h) (Or.inl ⟨by rfl, ?_⟩) hHeld ?_
  rotate_left
  · (intro w hSw; (try dsimp only at hSw); go_simp; all_goals (try with_reducible rfl))
  try simp only [Act.put, List.setIfInBounds_toArray, List.set_cons_zero, List.set_cons_succ]
  refine wpAnyH_take (i := 28) (oi := { dst := some 45, op := Op.load 23 (Operand.tmp 1), type := 23, pos := "more.go:17", after := #[{ on := 26, ground := Ground.guard }], guard := some (26, true) }) (v := ?_) rfl (by kernel_rfl) (by kernel_rfl) (by kernel_rfl) (fun _ _ _ h => h) (Or.inl ⟨by rfl, ?_⟩) hHeld ?_
  rotate_left
  · (intro w hSw; (try dsimp only at hSw); go_simp; all_goals (try with_reducible rfl))
  try simp only [Act.put, List.setIfInBounds_toArray, List.set_cons_zero, List.set_cons_succ]
  refine wpAnyH_take (i := 31) (oi := { dst := some 48, op := Op.load 23 (Operand.tmp 1), type := 23, pos := "more.go:17", after := #[{ on := 26, ground := Ground.guard }], guard := some (26, true) }) (v := ?_) rfl (by kernel_rfl) (by kernel_rfl) (by kernel_rfl) (fun _ _ _ h => h) (Or.inl ⟨by rfl, ?_⟩) hHeld ?_
  rotate_left
  · (intro w hSw; (try dsimp only at hSw); go_simp; all_goals (try with_reducible rfl))
  try simp only [Act.put, List.setIfInBounds_toArray, List.set_cons_zero, List.set_cons_succ]
  refine wpAnyH_ready (rs := [29]) (by kernel_rfl) (by simp) ?_
  refine AllReadyH.cons (o := { dst := some 46, op := Op.buildSlice 50 1 #[(0, Operand.tmp 45)], type := 50, pos := "more.go:17", after := #[{ on := 28, ground := Ground.data }, { on := 26, ground := Ground.guard }], guard := some (26, true) }) rfl (fun K hK => ?_) AllReadyH.nil
  go_simp
  obtain ⟨qW4, hX⟩ : ∃ Z, qW3.alloc (.cells #[.int .i64 a, .int .i64 b] 23) = Z := ⟨_, rfl⟩
  rw [hX]
  have hb : Below qW3.heap.size qW3 qW4 := by rw [← hX]; exact (Below.refl _ qW3).alloc (Nat.le_refl _) _
  have ql4_0 := ql3_0.stays hb
  have ql4_1 := ql3_1.stays hb
  have qm4 := qm3.below hb
  have qr4_29 := row_one qW3 a b _ rfl
  rw [hX] at qr4_29
  have qn4_29_0 : qW3.heap.size ≠ v := by have := ql3_0.old; omega
  have qn4_29_1 : qW3.heap.size ≠ u := by have := ql3_1.old; omega
  clear hX hb
  refine hK.out _ _ ⟨(HK.out _ qm4).1, (HK.out _ qm4).2.1, (HK.out _ qm4).2.2.1, (HK.out _ qm4).2.2.2, ql4_0.cell, ql4_1.cell⟩ (fun hHeld => ?_)
  clear hK K
  try simp only [Act.put, List.setIfInBounds_toArray, List.set_cons_zero, List.set_cons_succ]
  refine wpAnyH_ready (rs := [30]) (by kernel_rfl) (by simp) ?_
  refine AllReadyH.cons (o := { dst := some 47, op := Op.call { callee := Callee.value (Operand.func 14), args := #[Operand.tmp 44, Operand.tmp 46], argTypes := #[26, 50] }, type := 23, pos := "more.go:17", after := #[{ on := 27, ground := Ground.data }, { on := 29, ground := Ground.data }, { on := 26, ground := Ground.chain }, { on := 26, ground := Ground.guard }], guard := some (26, true) }) rfl (fun K hK => ?_) AllReadyH.nil
  go_simp
  refine Calls.mono (HP1.out _ _ ql4_1 qr4_29 qn4_29_1) ?_
  rintro e qW5 ⟨rfl, lx, kx⟩
  have ql5_0 := ql4_0.kept kx hne01 ql4_1.new
  have ql5_1 := lx
  have qm5 := qm4.right kx
  have qr5_29 := qr4_29.kept kx (blk_ne qn4_29_1)
  clear kx lx
  go_wp2_with fail
  refine hK.out _ _ ⟨(HK.out _ qm5).1, (HK.out _ qm5).2.1, (HK.out _ qm5).2.2.1, (HK.out _ qm5).2.2.2, ql5_0.cell, ql5_1.cell⟩ (fun hHeld => ?_)
  clear hK K
  try simp only [Act.put, List.setIfInBounds_toArray, List.set_cons_zero, List.set_cons_succ]
  refine wpAnyH_take (i := 32) (oi := { dst := some 49, op := Op.binOp BinOp.eql 23 (Operand.tmp 47) (Operand.tmp 48) 23, type := 4, pos := "more.go:17", after := #[{ on := 30, ground := Ground.data }, { on := 31, ground := Ground.data }, { on := 26, ground := Ground.guard }], guard := some (26, true) }) (v := ?_) rfl (by kernel_rfl) (by kernel_rfl) (by kernel_rfl) (fun _ _ _ h => h) (Or.inl ⟨by rfl, ?_⟩) hHeld ?_
  rotate_left
  · (intro w hSw; (try dsimp only at hSw); go_simp; all_goals (try with_reducible rfl))
  try simp only [Act.put, List.setIfInBounds_toArray, List.set_cons_zero, List.set_cons_succ]
  refine wpAnyH_take (i := 33) (oi := { dst := some 50, op := Op.pick (Operand.tmp 43) (Operand.tmp 49) (Operand.const (Value.bool false)), type := 4, pos := "more.go:17", after := #[{ on := 26, ground := Ground.data }, { on := 32, ground := Ground.data }], guard := none }) (v := ?_) rfl (by kernel_rfl) (by kernel_rfl) (by kernel_rfl) (fun _ _ _ h => h) (Or.inl ⟨by rfl, ?_⟩) hHeld ?_
  rotate_left
  · (intro w hSw; (try dsimp only at hSw); go_simp; all_goals (try with_reducible rfl))
  try simp only [Act.put, List.setIfInBounds_toArray, List.set_cons_zero, List.set_cons_succ]
  refine wpAnyH_take (i := 34) (oi := { dst := some 51, op := Op.move (Operand.tmp 50), type := 4, pos := "more.go:17", after := #[{ on := 33, ground := Ground.data }, { on := 30, ground := Ground.chain }], guard := none }) (v := ?_) rfl (by kernel_rfl) (by kernel_rfl) (by kernel_rfl) (fun _ _ _ h => h) (Or.inl ⟨by rfl, ?_⟩) hHeld ?_
  rotate_left
  · (intro w hSw; (try dsimp only at hSw); go_simp; all_goals (try with_reducible rfl))
  try simp only [Act.put, List.setIfInBounds_toArray, List.set_cons_zero, List.set_cons_succ]
  refine wpAnyH_take (i := 35) (oi := { dst := some 52, op := Op.move (Operand.tmp 4), type := 26, pos := "more.go:17", after := #[{ on := 34, ground := Ground.guard }], guard := some (34, true) }) (v := ?_) rfl (by kernel_rfl) (by kernel_rfl) (by kernel_rfl) (fun _ _ _ h => h) (Or.inl ⟨by rfl, ?_⟩) hHeld ?_
  rotate_left
  · (intro w hSw; (try dsimp only at hSw); go_simp; all_goals (try with_reducible rfl))
  try simp only [Act.put, List.setIfInBounds_toArray, List.set_cons_zero, List.set_cons_succ]
  refine wpAnyH_take (i := 36) (oi := { dst := some 53, op := Op.load 23 (Operand.tmp 1), type := 23, pos := "more.go:17", after := #[{ on := 34, ground := Ground.guard }], guard := some (34, true) }) (v := ?_) rfl (by kernel_rfl) (by kernel_rfl) (by kernel_rfl) (fun _ _ _ h => h) (Or.inl ⟨by rfl, ?_⟩) hHeld ?_
  rotate_left
  · (intro w hSw; (try dsimp only at hSw); go_simp; all_goals (try with_reducible rfl))
  try simp only [Act.put, List.setIfInBounds_toArray, List.set_cons_zero, List.set_cons_succ]
  refine wpAnyH_take (i := 37) (oi := { dst := some 54, op := Op.build 23 #[], type := 23, pos := "more.go:17", after := #[{ on := 34, ground := Ground.guard }], guard := some (34, true) }) (v := ?_) rfl (by kernel_rfl) (by kernel_rfl) (by kernel_rfl) (fun _ _ _ h => h) (Or.inl ⟨by rfl, ?_⟩) hHeld ?_
  rotate_left
  · (intro w hSw; (try dsimp only at hSw); go_simp; all_goals (try with_reducible rfl))
  try simp only [Act.put, List.setIfInBounds_toArray, List.set_cons_zero, List.set_cons_succ]
  refine wpAnyH_take (i := 40) (oi := { dst := some 57, op := Op.load 23 (Operand.tmp 1), type := 23, pos := "more.go:17", after := #[{ on := 34, ground := Ground.guard }], guard := some (34, true) }) (v := ?_) rfl (by kernel_rfl) (by kernel_rfl) (by kernel_rfl) (fun _ _ _ h => h) (Or.inl ⟨by rfl, ?_⟩) hHeld ?_
  rotate_left
  · (intro w hSw; (try dsimp only at hSw); go_simp; all_goals (try with_reducible rfl))
  try simp only [Act.put, List.setIfInBounds_toArray, List.set_cons_zero, List.set_cons_succ]
  refine wpAnyH_ready (rs := [38]) (by kernel_rfl) (by simp) ?_
  refine AllReadyH.cons (o := { dst := some 55, op := Op.buildSlice 50 2 #[(0, Operand.tmp 53), (1, Operand.tmp 54)], type := 50, pos := "more.go:17", after := #[{ on := 36, ground := Ground.data }, { on := 37, ground := Ground.data }, { on := 34, ground := Ground.guard }], guard := some (34, true) }) rfl (fun K hK => ?_) AllReadyH.nil
  go_simp
  obtain ⟨qW6, hX⟩ : ∃ Z, qW5.alloc (.cells #[.int .i64 a, .int .i64 b, .int .i64 0, .int .i64 0] 23) = Z := ⟨_, rfl⟩
  rw [hX]
  have hb : Below qW5.heap.size qW5 qW6 := by rw [← hX]; exact (Below.refl _ qW5).alloc (Nat.le_refl _) _
  have ql6_0 := ql5_0.stays hb
  have ql6_1 := ql5_1.stays hb
  have qm6 := qm5.below hb
  have qr6_29 := qr5_29.stays hb (Nat.le_refl _)
  have qr6_38 := row_two qW5 a b 0 0 _ rfl
  rw [hX] at qr6_38
  have qn6_38_0 : qW5.heap.size ≠ v := by have := ql5_0.old; omega
  have qn6_38_1 : qW5.heap.size ≠ u := by have := ql5_1.old; omega
  clear hX hb
  refine hK.out _ _ ⟨(HK.out _ qm6).1, (HK.out _ qm6).2.1, (HK.out _ qm6).2.2.1, (HK.out _ qm6).2.2.2, ql6_0.cell, ql6_1.cell⟩ (fun hHeld => ?_)
  clear hK K
  try simp only [Act.put, List.setIfInBounds_toArray, List.set_cons_zero, List.set_cons_succ]
  refine wpAnyH_ready (rs := [39]) (by kernel_rfl) (by simp) ?_
  refine AllReadyH.cons (o := { dst := some 56, op := Op.call { callee := Callee.value (Operand.func 14), args := #[Operand.tmp 52, Operand.tmp 55], argTypes := #[26, 50] }, type := 23, pos := "more.go:17", after := #[{ on := 35, ground := Ground.data }, { on := 38, ground := Ground.data }, { on := 34, ground := Ground.chain }, { on := 34, ground := Ground.guard }], guard := some (34, true) }) rfl (fun K hK => ?_) AllReadyH.nil
  go_simp
  refine Calls.mono (HP2.out _ _ ql6_1 qr6_38 qn6_38_1) ?_
  rintro e qW7 ⟨rfl, lx, kx⟩
  have ql7_0 := ql6_0.kept kx hne01 ql6_1.new
  have ql7_1 := lx
  have qm7 := qm6.right kx
  have qr7_29 := qr6_29.kept kx (blk_ne qn4_29_1)
  have qr7_38 := qr6_38.kept kx (blk_ne qn6_38_1)
  clear kx lx
  go_wp2_with fail
  refine hK.out _ _ ⟨(HK.out _ qm7).1, (HK.out _ qm7).2.1, (HK.out _ qm7).2.2.1, (HK.out _ qm7).2.2.2, ql7_0.cell, ql7_1.cell⟩ (fun hHeld => ?_)
  clear hK K
  try simp only [Act.put, List.setIfInBounds_toArray, List.set_cons_zero, List.set_cons_succ]
  refine wpAnyH_take (i := 41) (oi := { dst := some 58, op := Op.binOp BinOp.eql 23 (Operand.tmp 56) (Operand.tmp 57) 23, type := 4, pos := "more.go:17", after := #[{ on := 39, ground := Ground.data }, { on := 40, ground := Ground.data }, { on := 34, ground := Ground.guard }], guard := some (34, true) }) (v := ?_) rfl (by kernel_rfl) (by kernel_rfl) (by kernel_rfl) (fun _ _ _ h => h) (Or.inl ⟨by rfl, ?_⟩) hHeld ?_
  rotate_left
  · (intro w hSw; (try dsimp only at hSw); go_simp; all_goals (try with_reducible rfl))
  try simp only [Act.put, List.setIfInBounds_toArray, List.set_cons_zero, List.set_cons_succ]
  refine wpAnyH_take (i := 42) (oi := { dst := some 59, op := Op.pick (Operand.tmp 51) (Operand.tmp 58) (Operand.const (Value.bool false)), type := 4, pos := "more.go:17", after := #[{ on := 34, ground := Ground.data }, { on := 41, ground := Ground.data }], guard := none }) (v := ?_) rfl (by kernel_rfl) (by kernel_rfl) (by kernel_rfl) (fun _ _ _ h => h) (Or.inl ⟨by rfl, ?_⟩) hHeld ?_
  rotate_left
  · (intro w hSw; (try dsimp only at hSw); go_simp; all_goals (try with_reducible rfl))
  try simp only [Act.put, List.setIfInBounds_toArray, List.set_cons_zero, List.set_cons_succ]
  refine wpAnyH_take (i := 43) (oi := { dst := some 60, op := Op.move (Operand.tmp 59), type := 4, pos := "more.go:17", after := #[{ on := 42, ground := Ground.data }, { on := 39, ground := Ground.chain }], guard := none }) (v := ?_) rfl (by kernel_rfl) (by kernel_rfl) (by kernel_rfl) (fun _ _ _ h => h) (Or.inl ⟨by rfl, ?_⟩) hHeld ?_
  rotate_left
  · (intro w hSw; (try dsimp only at hSw); go_simp; all_goals (try with_reducible rfl))
  try simp only [Act.put, List.setIfInBounds_toArray, List.set_cons_zero, List.set_cons_succ]
  refine wpAnyH_take (i := 44) (oi := { dst := some 61, op := Op.move (Operand.tmp 4), type := 26, pos := "more.go:17", after := #[{ on := 43, ground := Ground.guard }], guard := some (43, true) }) (v := ?_) rfl (by kernel_rfl) (by kernel_rfl) (by kernel_rfl) (fun _ _ _ h => h) (Or.inl ⟨by rfl, ?_⟩) hHeld ?_
  rotate_left
  · (intro w hSw; (try dsimp only at hSw); go_simp; all_goals (try with_reducible rfl))
  try simp only [Act.put, List.setIfInBounds_toArray, List.set_cons_zero, List.set_cons_succ]
  refine wpAnyH_take (i := 45) (oi := { dst := some 62, op := Op.nilCheck (Operand.tmp 61), type := 0, pos := "more.go:17", after := #[{ on := 44, ground := Ground.data }, { on := 43, ground := Ground.guard }], guard := some (43, true) }) (v := ?_) rfl (by kernel_rfl) (by kernel_rfl) (by kernel_rfl) (fun _ _ _ h => h) (Or.inl ⟨by rfl, ?_⟩) hHeld ?_
  rotate_left
  · (intro w hSw; (try dsimp only at hSw); go_simp; all_goals (try with_reducible rfl))
  try simp only [Act.put, List.setIfInBounds_toArray, List.set_cons_zero, List.set_cons_succ]
  refine wpAnyH_take (i := 46) (oi := { dst := some 63, op := Op.fieldAddr 30 (Operand.tmp 62) 0, type := 0, pos := "more.go:17", after := #[{ on := 45, ground := Ground.data }, { on := 43, ground := Ground.guard }], guard := some (43, true) }) (v := ?_) rfl (by kernel_rfl) (by kernel_rfl) (by kernel_rfl) (fun _ _ _ h => h) (Or.inl ⟨by rfl, ?_⟩) hHeld ?_
  rotate_left
  · (intro w hSw; (try dsimp only at hSw); go_simp; all_goals (try with_reducible rfl))
  try simp only [Act.put, List.setIfInBounds_toArray, List.set_cons_zero, List.set_cons_succ]
  refine wpAnyH_take (i := 47) (oi := { dst := some 64, op := Op.fieldAddr 28 (Operand.tmp 63) 0, type := 0, pos := "more.go:17", after := #[{ on := 46, ground := Ground.data }, { on := 43, ground := Ground.guard }], guard := some (43, true) }) (v := ?_) rfl (by kernel_rfl) (by kernel_rfl) (by kernel_rfl) (fun _ _ _ h => h) (Or.inl ⟨by rfl, ?_⟩) hHeld ?_
  rotate_left
  · (intro w hSw; (try dsimp only at hSw); go_simp; all_goals (try with_reducible rfl))
  try simp only [Act.put, List.setIfInBounds_toArray, List.set_cons_zero, List.set_cons_succ]
  refine wpAnyH_take (i := 48) (oi := { dst := some 65, op := Op.load 4 (Operand.tmp 64), type := 4, pos := "more.go:17", after := #[{ on := 47, ground := Ground.data }, { on := 43, ground := Ground.guard }], guard := some (43, true) }) (v := ?_) rfl (by kernel_rfl) (by kernel_rfl) (by kernel_rfl) (fun _ _ _ h => h) (Or.inl ⟨by rfl, ?_⟩) hHeld ?_
  rotate_left
  · (intro w hSw; (try dsimp only at hSw); go_simp; all_goals (try with_reducible rfl))
  try simp only [Act.put, List.setIfInBounds_toArray, List.set_cons_zero, List.set_cons_succ]
  refine wpAnyH_take (i := 49) (oi := { dst := some 66, op := Op.unOp UnOp.not 4 (Operand.tmp 65), type := 4, pos := "more.go:17", after := #[{ on := 48, ground := Ground.data }, { on := 43, ground := Ground.guard }], guard := some (43, true) }) (v := ?_) rfl (by kernel_rfl) (by kernel_rfl) (by kernel_rfl) (fun _ _ _ h => h) (Or.inl ⟨by rfl, ?_⟩) hHeld ?_
  rotate_left
  · (intro w hSw; (try dsimp only at hSw); go_simp; all_goals (try with_reducible rfl))
  try simp only [Act.put, List.setIfInBounds_toArray, List.set_cons_zero, List.set_cons_succ]
  refine wpAnyH_take (i := 50) (oi := { dst := some 67, op := Op.pick (Operand.tmp 60) (Operand.tmp 66) (Operand.const (Value.bool false)), type := 4, pos := "more.go:17", after := #[{ on := 43, ground := Ground.data }, { on := 49, ground := Ground.data }], guard := none }) (v := ?_) rfl (by kernel_rfl) (by kernel_rfl) (by kernel_rfl) (fun _ _ _ h => h) (Or.inl ⟨by rfl, ?_⟩) hHeld ?_
  rotate_left
  · (intro w hSw; (try dsimp only at hSw); go_simp; all_goals (try with_reducible rfl))
  try simp only [Act.put, List.setIfInBounds_toArray, List.set_cons_zero, List.set_cons_succ]
  refine wpAnyH_take (i := 51) (oi := { dst := some 68, op := Op.move (Operand.tmp 67), type := 4, pos := "more.go:17", after := #[{ on := 50, ground := Ground.data }, { on := 43, ground := Ground.chain }], guard := none }) (v := ?_) rfl (by kernel_rfl) (by kernel_rfl) (by kernel_rfl) (fun _ _ _ h => h) (Or.inl ⟨by rfl, ?_⟩) hHeld ?_
  rotate_left
  · (intro w hSw; (try dsimp only at hSw); go_simp; all_goals (try with_reducible rfl))
  try simp only [Act.put, List.setIfInBounds_toArray, List.set_cons_zero, List.set_cons_succ]
  refine wpAnyH_take (i := 52) (oi := { dst := some 69, op := Op.move (Operand.tmp 4), type := 26, pos := "more.go:17", after := #[{ on := 51, ground := Ground.guard }], guard := some (51, true) }) (v := ?_) rfl (by kernel_rfl) (by kernel_rfl) (by kernel_rfl) (fun _ _ _ h => h) (Or.inl ⟨by rfl, ?_⟩) hHeld ?_
  rotate_left
  · (intro w hSw; (try dsimp only at hSw); go_simp; all_goals (try with_reducible rfl))
  try simp only [Act.put, List.setIfInBounds_toArray, List.set_cons_zero, List.set_cons_succ]
  refine wpAnyH_take (i := 54) (oi := { dst := some 71, op := Op.build 23 #[], type := 23, pos := "more.go:17", after := #[{ on := 51, ground := Ground.guard }], guard := some (51, true) }) (v := ?_) rfl (by kernel_rfl) (by kernel_rfl) (by kernel_rfl) (fun _ _ _ h => h) (Or.inl ⟨by rfl, ?_⟩) hHeld ?_
  rotate_left
  · (intro w hSw; (try dsimp only at hSw); go_simp; all_goals (try with_reducible rfl))
  try simp only [Act.put, List.setIfInBounds_toArray, List.set_cons_zero, List.set_cons_succ]
  refine wpAnyH_ready (rs := [53]) (by kernel_rfl) (by simp) ?_
  refine AllReadyH.cons (o := { dst := some 70, op := Op.call { callee := Callee.value (Operand.func 14), args := #[Operand.tmp 69, Operand.const (Value.slice none 0 0)], argTypes := #[26, 50] }, type := 23, pos := "more.go:17", after := #[{ on := 52, ground := Ground.data }, { on := 51, ground := Ground.chain }, { on := 51, ground := Ground.guard }], guard := some (51, true) }) rfl (fun K hK => ?_) AllReadyH.nil
  go_simp
  refine Calls.mono (splus_zero ql7_1) ?_
  rintro e qW8 ⟨rfl, lx, kx⟩
  have ql8_0 := ql7_0.kept kx hne01 ql7_1.new
  have ql8_1 := lx
  have qm8 := qm7.right kx
  have qr8_29 := qr7_29.kept kx (blk_ne qn4_29_1)
  have qr8_38 := qr7_38.kept kx (blk_ne qn6_38_1)
  clear kx lx
  go_wp2_with fail
  refine hK.out _ _ ⟨(HK.out _ qm8).1, (HK.out _ qm8).2.1, (HK.out _ qm8).2.2.1, (HK.out _ qm8).2.2.2, ql8_0.cell, ql8_1.cell⟩ (fun hHeld => ?_)
  clear hK K
  try simp only [Act.put, List.setIfInBounds_toArray, List.set_cons_zero, List.set_cons_succ]
  refine wpAnyH_take (i := 55) (oi := { dst := some 72, op := Op.binOp BinOp.eql 23 (Operand.tmp 70) (Operand.tmp 71) 23, type := 4, pos := "more.go:17", after := #[{ on := 53, ground := Ground.data }, { on := 54, ground := Ground.data }, { on := 51, ground := Ground.guard }], guard := some (51, true) }) (v := ?_) rfl (by kernel_rfl) (by kernel_rfl) (by kernel_rfl) (fun _ _ _ h => h) (Or.inl ⟨by rfl, ?_⟩) hHeld ?_
  rotate_left
  · (intro w hSw; (try dsimp only at hSw); go_simp; all_goals (try with_reducible rfl))
  try simp only [Act.put, List.setIfInBounds_toArray, List.set_cons_zero, List.set_cons_succ]
  refine wpAnyH_take (i := 56) (oi := { dst := some 73, op := Op.pick (Operand.tmp 68) (Operand.tmp 72) (Operand.const (Value.bool false)), type := 4, pos := "more.go:17", after := #[{ on := 51, ground := Ground.data }, { on := 55, ground := Ground.data }], guard := none }) (v := ?_) rfl (by kernel_rfl) (by kernel_rfl) (by kernel_rfl) (fun _ _ _ h => h) (Or.inl ⟨by rfl, ?_⟩) hHeld ?_
  rotate_left
  · (intro w hSw; (try dsimp only at hSw); go_simp; all_goals (try with_reducible rfl))
  try simp only [Act.put, List.setIfInBounds_toArray, List.set_cons_zero, List.set_cons_succ]
  refine wpAnyH_take (i := 57) (oi := { dst := some 2, op := Op.assign (Operand.tmp 73), type := 4, pos := "more.go:17", after := #[{ on := 56, ground := Ground.data }, { on := 53, ground := Ground.chain }, { on := 0, ground := Ground.phase }, { on := 1, ground := Ground.phase }, { on := 2, ground := Ground.phase }, { on := 3, ground := Ground.phase }, { on := 4, ground := Ground.phase }, { on := 5, ground := Ground.phase }, { on := 6, ground := Ground.phase }, { on := 7, ground := Ground.phase }, { on := 8, ground := Ground.phase }, { on := 9, ground := Ground.phase }, { on := 10, ground := Ground.phase }, { on := 11, ground := Ground.phase }, { on := 12, ground := Ground.phase }, { on := 13, ground := Ground.phase }, { on := 14, ground := Ground.phase }, { on := 15, ground := Ground.phase }, { on := 16, ground := Ground.phase }, { on := 17, ground := Ground.phase }, { on := 18, ground := Ground.phase }, { on := 19, ground := Ground.phase }, { on := 20, ground := Ground.phase }, { on := 21, ground := Ground.phase }, { on := 22, ground := Ground.phase }, { on := 23, ground := Ground.phase }, { on := 24, ground := Ground.phase }, { on := 25, ground := Ground.phase }, { on := 26, ground := Ground.phase }, { on := 27, ground := Ground.phase }, { on := 28, ground := Ground.phase }, { on := 29, ground := Ground.phase }, { on := 30, ground := Ground.phase }, { on := 31, ground := Ground.phase }, { on := 32, ground := Ground.phase }, { on := 33, ground := Ground.phase }, { on := 34, ground := Ground.phase }, { on := 35, ground := Ground.phase }, { on := 36, ground := Ground.phase }, { on := 37, ground := Ground.phase }, { on := 38, ground := Ground.phase }, { on := 39, ground := Ground.phase }, { on := 40, ground := Ground.phase }, { on := 41, ground := Ground.phase }, { on := 42, ground := Ground.phase }, { on := 43, ground := Ground.phase }, { on := 44, ground := Ground.phase }, { on := 45, ground := Ground.phase }, { on := 46, ground := Ground.phase }, { on := 47, ground := Ground.phase }, { on := 48, ground := Ground.phase }, { on := 49, ground := Ground.phase }, { on := 50, ground := Ground.phase }, { on := 51, ground := Ground.phase }, { on := 52, ground := Ground.phase }, { on := 53, ground := Ground.phase }, { on := 54, ground := Ground.phase }, { on := 55, ground := Ground.phase }, { on := 56, ground := Ground.phase }], guard := none }) (v := ?_) rfl (by kernel_rfl) (by kernel_rfl) (by kernel_rfl) (fun _ _ _ h => h) (Or.inl ⟨by rfl, ?_⟩) hHeld ?_
  rotate_left
  · (intro w hSw; (try dsimp only at hSw); go_simp; all_goals (try with_reducible rfl))
  try simp only [Act.put, List.setIfInBounds_toArray, List.set_cons_zero, List.set_cons_succ]
  refine wpAnyH_done (by kernel_rfl) ?_ _
  go_wp2
  go_ret
  exact ⟨rfl, ql8_0.below⟩

set_option maxHeartbeats 16000000 in
theorem self_false (a b : Int) (w : World) (ha : B64 a) (hb' : B64 b) (h1 : a ≤ b) (hov : (overF (a - b) || overF (b - a)) = false) :
    Calls Try.prog 3 #[(.agg #[.int .i64 a, .int .i64 b])] w fun e w' => e = .returned (.bool true) ∧ Below w.heap.size w w' := by
  obtain ⟨X, hX⟩ : ∃ X, clampF (a - b) = X := ⟨_, rfl⟩
  obtain ⟨Y, hY⟩ : ∃ Y, clampF (b - a) = Y := ⟨_, rfl⟩
  have x1 : X ≤ 0 := by have := clampF_mono (show a - b ≤ 0 by omega); rw [hX] at this; exact this
  have x2 : 0 ≤ Y := by have := clampF_mono (show 0 ≤ b - a by omega); rw [hY] at this; exact this
  have HMi : Hid (∀ v W, Live w v W false → Calls Try.prog 11 #[.pointer (some ⟨v, 0, none⟩), (.agg #[.int .i64 a, .int .i64 b]), (.agg #[.int .i64 a, .int .i64 b])] W fun e W' => e = .returned ((.agg #[.int .i64 X, .int .i64 Y])) ∧ Live w v W' false ∧ Kept v W W') := fun v W l => by
    have t := sminus_some l a b a b h1 h1 ha hb' ha hb'
    rw [hX, hY, hov] at t
    exact Calls.mono t fun e W' t => ⟨t.1, t.2.1, t.2.2⟩
  have HT1' : Hid (∀ u W, Live w u W false → Calls Try.prog 13 #[.pointer (some ⟨u, 0, none⟩), (.agg #[.int .i64 a, .int .i64 b]), .int .i64 4294967296] W fun e W' => e = .returned ((.agg #[.int .i64 a, .int .i64 b])) ∧ Live w u W' false ∧ Kept u W W') := fun u W l => by
    have t := stimes_some l a b 4294967296 h1 ha hb' ⟨by omega, by omega⟩
    obtain ⟨e1, e2, e3⟩ := cross_one a b ha hb' h1
    rw [e1, e2, e3] at t
    exact Calls.mono t fun e W' t => ⟨t.1, t.2.1, t.2.2⟩
  have HT0' : Hid (∀ u W, Live w u W false → Calls Try.prog 13 #[.pointer (some ⟨u, 0, none⟩), (.agg #[.int .i64 a, .int .i64 b]), .int .i64 0] W fun e W' => e = .returned ((.agg #[.int .i64 0, .int .i64 0])) ∧ Live w u W' false ∧ Kept u W W') := fun u W l => by
    have t := stimes_some l a b 0 h1 ha hb' ⟨by omega, by omega⟩
    obtain ⟨e1, e2, e3⟩ := cross_zero a b
    rw [e1, e2, e3] at t
    exact Calls.mono t fun e W' t => ⟨t.1, t.2.1, t.2.2⟩
  have HP1' : Hid (∀ u W g, Live w u W false → SpanRow W (some ⟨g, 0, none⟩) [(a, b)] → g ≠ u → Calls Try.prog 14 #[.pointer (some ⟨u, 0, none⟩), .slice (some ⟨g, 0, none⟩) 1 1] W fun e W' => e = .returned ((.agg #[.int .i64 a, .int .i64 b])) ∧ Live w u W' false ∧ Kept u W W') := fun u W g l hr hg => by
    have t := plus_at1 l a b h1 ha hb' g hr hg
    rw [clampF_in ha.1 ha.2, clampF_in hb'.1 hb'.2, overF_in ha.1 ha.2, overF_in hb'.1 hb'.2] at t
    exact Calls.mono t fun e W' t => ⟨t.1, t.2.1, t.2.2⟩
  have HP2' : Hid (∀ u W g, Live w u W false → SpanRow W (some ⟨g, 0, none⟩) [(a, b), (0, 0)] → g ≠ u → Calls Try.prog 14 #[.pointer (some ⟨u, 0, none⟩), .slice (some ⟨g, 0, none⟩) 2 2] W fun e W' => e = .returned ((.agg #[.int .i64 a, .int .i64 b])) ∧ Live w u W' false ∧ Kept u W W') := fun u W g l hr hg => by
    have t := plus_at l a b 0 0 h1 (Int.le_refl 0) ha hb' ⟨by omega, by omega⟩ ⟨by omega, by omega⟩ g hr hg
    rw [Int.add_zero, Int.add_zero, clampF_in ha.1 ha.2, clampF_in hb'.1 hb'.2, overF_in ha.1 ha.2, overF_in hb'.1 hb'.2] at t
    exact Calls.mono t fun e W' t => ⟨t.1, t.2.1, t.2.2⟩
  have haa : (a == a) = true := beq_self_eq_true a
  have hbb : (b == b) = true := beq_self_eq_true b
  clear hX hY hov ha hb'
  go_enter Try.func3, Try.ntmps3
  go_wp2_with fail
  refine Calls.mono (sempty_any a b false _ (by simp; omega)) ?_
  rintro e w1 ⟨rfl, hb⟩
  have HW1 : Hid (Below w.heap.size w w1) := ((Below.refl _ w).alloc (Nat.le_refl _) _).trans (hb.mono (by simp))
  have p1 : w1.cell? ⟨w.heap.size, 0, none⟩ = some (.int .i64 a) := cell_later hb (by simp)
  have p2 : w1.cell? ⟨w.heap.size, 1, none⟩ = some (.int .i64 b) := cell_later hb (by simp)
  have z1 : w.heap.size < w1.heap.size := by have := hb.size; simp at this; omega
  have z2 : w.heap.size < w1.heap.size + 1 := by omega
  clear hb
  have lb1 := Live.sacc w (w1.alloc (.cells #[.bool false] 30)) false 30 (HW1.out.alloc HW1.out.size _)
  have la1 := (Live.sacc w w1 false 30 HW1.out).alloc (.cells #[.bool false] 30)
  have e1 : (w1.alloc (.cells #[.bool false] 30)).heap.size = w1.heap.size + 1 := by simp
  rw [e1] at lb1
  go_wp2_with fail
  refine Calls.mono (HMi.out _ _ la1) ?_
  rintro e w2 ⟨rfl, la2, kx⟩
  have lb2 := lb1.kept kx (by omega) la1.new
  have r1 : w2.cell? ⟨w.heap.size, 0, none⟩ = some (.int .i64 a) := kx.cell (by simp [go_sem, z1, z2, p1]) (by omega)
  have r2 : w2.cell? ⟨w.heap.size, 1, none⟩ = some (.int .i64 b) := kx.cell (by simp [go_sem, z1, z2, p2]) (by omega)
  obtain ⟨v, hv⟩ : ∃ v, w1.heap.size = v := ⟨_, rfl⟩
  obtain ⟨u, hu⟩ : ∃ u, v + 1 = u := ⟨_, rfl⟩
  rw [hv] at la2 lb2
  rw [hu] at lb2
  have z4 := la2.old
  have z5 := lb2.old
  have hne01 : v ≠ u := by omega
  have hne10 : u ≠ v := by omega
  have z6 : w.heap.size < v := by omega
  have HV : Hid (w1.heap.size = v) := hv
  have HU : Hid (v + 1 = u) := hu
  have HT1 : Hid (∀ W, Live w u W false → Calls Try.prog 13 #[.pointer (some ⟨u, 0, none⟩), (.agg #[.int .i64 a, .int .i64 b]), .int .i64 4294967296] W fun e W' => e = .returned ((.agg #[.int .i64 a, .int .i64 b])) ∧ Live w u W' false ∧ Kept u W W') := HT1'.out u
  have HT0 : Hid (∀ W, Live w u W false → Calls Try.prog 13 #[.pointer (some ⟨u, 0, none⟩), (.agg #[.int .i64 a, .int .i64 b]), .int .i64 0] W fun e W' => e = .returned ((.agg #[.int .i64 0, .int .i64 0])) ∧ Live w u W' false ∧ Kept u W W') := HT0'.out u
  have HP1 : Hid (∀ W g, Live w u W false → SpanRow W (some ⟨g, 0, none⟩) [(a, b)] → g ≠ u → Calls Try.prog 14 #[.pointer (some ⟨u, 0, none⟩), .slice (some ⟨g, 0, none⟩) 1 1] W fun e W' => e = .returned ((.agg #[.int .i64 a, .int .i64 b])) ∧ Live w u W' false ∧ Kept u W W') := HP1'.out u
  have HP2 : Hid (∀ W g, Live w u W false → SpanRow W (some ⟨g, 0, none⟩) [(a, b), (0, 0)] → g ≠ u → Calls Try.prog 14 #[.pointer (some ⟨u, 0, none⟩), .slice (some ⟨g, 0, none⟩) 2 2] W fun e W' => e = .returned ((.agg #[.int .i64 a, .int .i64 b])) ∧ Live w u W' false ∧ Kept u W W') := HP2'.out u
  have HK : Hid (∀ W', Kept2 v u (w2.alloc (.cells #[.int .i64 X, .int .i64 Y] 23)) W' → W'.cell? ⟨w.heap.size, 0, none⟩ = some (.int .i64 a) ∧ W'.cell? ⟨w.heap.size, 1, none⟩ = some (.int .i64 b) ∧ W'.cell? ⟨w2.heap.size, 0, none⟩ = some (.int .i64 X) ∧ W'.cell? ⟨w2.heap.size, 1, none⟩ = some (.int .i64 Y)) := fun W' k => by
    have e1 : w.heap.size < w2.heap.size := by omega
    exact ⟨k.cell (by simp [go_sem, e1, r1]) (by omega) (by omega), k.cell (by simp [go_sem, e1, r2]) (by omega) (by omega), k.cell (by simp [go_sem]) (by omega) (by omega), k.cell (by simp [go_sem]) (by omega) (by omega)⟩
  have l0 : Live w v (w2.alloc (.cells #[.int .i64 X, .int .i64 Y] 23)).drew false := (la2.alloc _).drew
  have l1 : Live w u (w2.alloc (.cells #[.int .i64 X, .int .i64 Y] 23)).drew false := (lb2.alloc _).drew
  have m0 : Kept2 v u (w2.alloc (.cells #[.int .i64 X, .int .i64 Y] 23)) (w2.alloc (.cells #[.int .i64 X, .int .i64 Y] 23)).drew := Kept2.drew v u _
  clear kx p1 p2 hv hu HW1 HMi HT1' HT0' HP1' HP2' la1 lb1 la2 lb2 r1 r2 e1
  go_wp2_with fail
  rw [HV.out, HU.out]
  refine wp_region_held_drew (S := fun W' => W'.cell? ⟨w.heap.size, 0, none⟩ = some (.int .i64 a) ∧ W'.cell? ⟨w.heap.size, 1, none⟩ = some (.int .i64 b) ∧ W'.cell? ⟨w2.heap.size, 0, none⟩ = some (.int .i64 X) ∧ W'.cell? ⟨w2.heap.size, 1, none⟩ = some (.int .i64 Y) ∧ W'.cell? ⟨v, 0, none⟩ = some (.bool false) ∧ W'.cell? ⟨u, 0, none⟩ = some (.bool false)) (by kernel_rfl) ⟨(HK.out _ m0).1, (HK.out _ m0).2.1, (HK.out _ m0).2.2.1, (HK.out _ m0).2.2.2, l0.cell, l1.cell⟩ (fun hHeld => ?_)
  refine wpAnyH_ready (rs := [0]) (by kernel_rfl) (by simp) ?_
  refine AllReadyH.cons (o := { dst := some 17, op := Op.call { callee := Callee.value (Operand.func 10), args := #[], argTypes := #[] }, type := 4, pos := "more.go:17", after := #[], guard := none }) rfl (fun K hK => ?_) AllReadyH.nil
  go_simp
  refine Calls.mono (salive_any _) ?_
  rintro e qW1 ⟨rfl, hb⟩
  have ql1_0 := l0.stays hb
  have ql1_1 := l1.stays hb
  have qm1 := m0.below hb
  clear hb
  go_wp2_with fail
  refine hK.out _ _ ⟨(HK.out _ qm1).1, (HK.out _ qm1).2.1, (HK.out _ qm1).2.2.1, (HK.out _ qm1).2.2.2, ql1_0.cell, ql1_1.cell⟩ (fun hHeld => ?_)
  clear hK K
  try simp only [Act.put, List.setIfInBounds_toArray, List.set_cons_zero, List.set_cons_succ]
  refine wpAnyH_take (i := 1) (oi := { dst := some 18, op := Op.move (Operand.tmp 17), type := 4, pos := "more.go:17", after := #[{ on := 0, ground := Ground.data }, { on := 0, ground := Ground.chain }], guard := none }) (v := ?_) rfl (by kernel_rfl) (by kernel_rfl) (by kernel_rfl) (fun _ _ _ h => h) (Or.inl ⟨by rfl, ?_⟩) hHeld ?_
  rotate_left
  · (intro w hSw; (try dsimp only at hSw); go_simp; all_goals (try with_reducible rfl))
  try simp only [Act.put, List.setIfInBounds_toArray, List.set_cons_zero, List.set_cons_succ]
  refine wpAnyH_take (i := 2) (oi := { dst := some 19, op := Op.move (Operand.tmp 3), type := 26, pos := "more.go:17", after := #[{ on := 1, ground := Ground.guard }], guard := some (1, true) }) (v := ?_) rfl (by kernel_rfl) (by kernel_rfl) (by kernel_rfl) (fun _ _ _ h => h) (Or.inl ⟨by rfl, ?_⟩) hHeld ?_
  rotate_left
  · (intro w hSw; (try dsimp only at hSw); go_simp; all_goals (try with_reducible rfl))
  try simp only [Act.put, List.setIfInBounds_toArray, List.set_cons_zero, List.set_cons_succ]
  refine wpAnyH_take (i := 3) (oi := { dst := some 20, op := Op.nilCheck (Operand.tmp 19), type := 0, pos := "more.go:17", after := #[{ on := 2, ground := Ground.data }, { on := 1, ground := Ground.guard }], guard := some (1, true) }) (v := ?_) rfl (by kernel_rfl) (by kernel_rfl) (by kernel_rfl) (fun _ _ _ h => h) (Or.inl ⟨by rfl, ?_⟩) hHeld ?_
  rotate_left
  · (intro w hSw; (try dsimp only at hSw); go_simp; all_goals (try with_reducible rfl))
  try simp only [Act.put, List.setIfInBounds_toArray, List.set_cons_zero, List.set_cons_succ]
  refine wpAnyH_take (i := 4) (oi := { dst := some 21, op := Op.fieldAddr 30 (Operand.tmp 20) 0, type := 0, pos := "more.go:17", after := #[{ on := 3, ground := Ground.data }, { on := 1, ground := Ground.guard }], guard := some (1, true) }) (v := ?_) rfl (by kernel_rfl) (by kernel_rfl) (by kernel_rfl) (fun _ _ _ h => h) (Or.inl ⟨by rfl, ?_⟩) hHeld ?_
  rotate_left
  · (intro w hSw; (try dsimp only at hSw); go_simp; all_goals (try with_reducible rfl))
  try simp only [Act.put, List.setIfInBounds_toArray, List.set_cons_zero, List.set_cons_succ]
  refine wpAnyH_take (i := 5) (oi := { dst := some 22, op := Op.fieldAddr 28 (Operand.tmp 21) 0, type := 0, pos := "more.go:17", after := #[{ on := 4, ground := Ground.data }, { on := 1, ground := Ground.guard }], guard := some (1, true) }) (v := ?_) rfl (by kernel_rfl) (by kernel_rfl) (by kernel_rfl) (fun _ _ _ h => h) (Or.inl ⟨by rfl, ?_⟩) hHeld ?_
  rotate_left
  · (intro w hSw; (try dsimp only at hSw); go_simp; all_goals (try with_reducible rfl))
  try simp only [Act.put, List.setIfInBounds_toArray, List.set_cons_zero, List.set_cons_succ]
  refine wpAnyH_take (i := 6) (oi := { dst := some 23, op := Op.load 4 (Operand.tmp 22), type := 4, pos := "more.go:17", after := #[{ on := 5, ground := Ground.data }, { on := 1, ground := Ground.guard }], guard := some (1, true) }) (v := ?_) rfl (by kernel_rfl) (by kernel_rfl) (by kernel_rfl) (fun _ _ _ h => h) (Or.inl ⟨by rfl, ?_⟩) hHeld ?_
  rotate_left
  · (intro w hSw; (try dsimp only at hSw); go_simp; all_goals (try with_reducible rfl))
  try simp only [Act.put, List.setIfInBounds_toArray, List.set_cons_zero, List.set_cons_succ]
  refine wpAnyH_take (i := 7) (oi := { dst := some 24, op := Op.move (Operand.tmp 23), type := 4, pos := "more.go:17", after := #[{ on := 6, ground := Ground.data }, { on := 1, ground := Ground.chain }, { on := 1, ground := Ground.guard }], guard := some (1, true) }) (v := ?_) rfl (by kernel_rfl) (by kernel_rfl) (by kernel_rfl) (fun _ _ _ h => h) (Or.inl ⟨by rfl, ?_⟩) hHeld ?_
  rotate_left
  · (intro w hSw; (try dsimp only at hSw); go_simp; all_goals (try with_reducible rfl))
  try simp only [Act.put, List.setIfInBounds_toArray, List.set_cons_zero, List.set_cons_succ]
  refine wpAnyH_take (i := 8) (oi := { dst := some 25, op := Op.load 23 (Operand.tmp 5), type := 23, pos := "more.go:17", after := #[{ on := 7, ground := Ground.guard }], guard := some (7, false) }) (v := ?_) rfl (by kernel_rfl) (by kernel_rfl) (by kernel_rfl) (fun _ _ _ h => h) (Or.inl ⟨by rfl, ?_⟩) hHeld ?_
  rotate_left
  · (intro w hSw; (try dsimp only at hSw); go_simp; all_goals (try with_reducible rfl))
  try simp only [Act.put, List.setIfInBounds_toArray, List.set_cons_zero, List.set_cons_succ]
  refine wpAnyH_ready (rs := [9]) (by kernel_rfl) (by simp) ?_
  refine AllReadyH.cons (o := { dst := some 26, op := Op.call { callee := Callee.value (Operand.func 12), args := #[Operand.tmp 25, Operand.const (Value.int IntKind.i64 0)], argTypes := #[23, 3] }, type := 4, pos := "more.go:17", after := #[{ on := 8, ground := Ground.data }, { on := 7, ground := Ground.chain }, { on := 7, ground := Ground.guard }], guard := some (7, false) }) rfl (fun K hK => ?_) AllReadyH.nil
  go_simp
  refine Calls.mono (shas_any X Y 0 true _ (by simp; exact ⟨x1, x2⟩)) ?_
  rintro e qW2 ⟨rfl, hb⟩
  have ql2_0 := ql1_0.stays hb
  have ql2_1 := ql1_1.stays hb
  have qm2 := qm1.below hb
  clear hb
  go_wp2_with fail
  refine hK.out _ _ ⟨(HK.out _ qm2).1, (HK.out _ qm2).2.1, (HK.out _ qm2).2.2.1, (HK.out _ qm2).2.2.2, ql2_0.cell, ql2_1.cell⟩ (fun hHeld => ?_)
  clear hK K
  try simp only [Act.put, List.setIfInBounds_toArray, List.set_cons_zero, List.set_cons_succ]
  refine wpAnyH_take (i := 10) (oi := { dst := some 27, op := Op.pick (Operand.tmp 24) (Operand.const (Value.bool true)) (Operand.tmp 26), type := 4, pos := "more.go:17", after := #[{ on := 7, ground := Ground.data }, { on := 9, ground := Ground.data }, { on := 1, ground := Ground.guard }], guard := some (1, true) }) (v := ?_) rfl (by kernel_rfl) (by kernel_rfl) (by kernel_rfl) (fun _ _ _ h => h) (Or.inl ⟨by rfl, ?_⟩) hHeld ?_
  rotate_left
  · (intro w hSw; (try dsimp only at hSw); go_simp; all_goals (try with_reducible rfl))
  try simp only [Act.put, List.setIfInBounds_toArray, List.set_cons_zero, List.set_cons_succ]
  refine wpAnyH_take (i := 11) (oi := { dst := some 28, op := Op.pick (Operand.tmp 18) (Operand.tmp 27) (Operand.const (Value.bool false)), type := 4, pos := "more.go:17", after := #[{ on := 1, ground := Ground.data }, { on := 10, ground := Ground.data }], guard := none }) (v := ?_) rfl (by kernel_rfl) (by kernel_rfl) (by kernel_rfl) (fun _ _ _ h => h) (Or.inl ⟨by rfl, ?_⟩) hHeld ?_
  rotate_left
  · (intro w hSw; (try dsimp only at hSw); go_simp; all_goals (try with_reducible rfl))
  try simp only [Act.put, List.setIfInBounds_toArray, List.set_cons_zero, List.set_cons_succ]
  refine wpAnyH_take (i := 12) (oi := { dst := some 29, op := Op.move (Operand.tmp 28), type := 4, pos := "more.go:17", after := #[{ on := 11, ground := Ground.data }, { on := 9, ground := Ground.chain }], guard := none }) (v := ?_) rfl (by kernel_rfl) (by kernel_rfl) (by kernel_rfl) (fun _ _ _ h => h) (Or.inl ⟨by rfl, ?_⟩) hHeld ?_
  rotate_left
  · (intro w hSw; (try dsimp only at hSw); go_simp; all_goals (try with_reducible rfl))
  try simp only [Act.put, List.setIfInBounds_toArray, List.set_cons_zero, List.set_cons_succ]
  refine wpAnyH_take (i := 13) (oi := { dst := some 30, op := Op.move (Operand.tmp 4), type := 26, pos := "more.go:17", after := #[{ on := 12, ground := Ground.guard }], guard := some (12, true) }) (v := ?_) rfl (by kernel_rfl) (by kernel_rfl) (by kernel_rfl) (fun _ _ _ h => h) (Or.inl ⟨by rfl, ?_⟩) hHeld ?_
  rotate_left
  · (intro w hSw; (try dsimp only at hSw); go_simp; all_goals (try with_reducible rfl))
  try simp only [Act.put, List.setIfInBounds_toArray, List.set_cons_zero, List.set_cons_succ]
  refine wpAnyH_take (i := 14) (oi := { dst := some 31, op := Op.load 23 (Operand.tmp 1), type := 23, pos := "more.go:17", after := #[{ on := 12, ground := Ground.guard }], guard := some (12, true) }) (v := ?_) rfl (by kernel_rfl) (by kernel_rfl) (by kernel_rfl) (fun _ _ _ h => h) (Or.inl ⟨by rfl, ?_⟩) hHeld ?_
  rotate_left
  · (intro w hSw; (try dsimp only at hSw); go_simp; all_goals (try with_reducible rfl))
  try simp only [Act.put, List.setIfInBounds_toArray, List.set_cons_zero, List.set_cons_succ]
  refine wpAnyH_take (i := 16) (oi := { dst := some 33, op := Op.load 23 (Operand.tmp 1), type := 23, pos := "more.go:17", after := #[{ on := 12, ground := Ground.guard }], guard := some (12, true) }) (v := ?_) rfl (by kernel_rfl) (by kernel_rfl) (by kernel_rfl) (fun _ _ _ h => h) (Or.inl ⟨by rfl, ?_⟩) hHeld ?_
  rotate_left
  · (intro w hSw; (try dsimp only at hSw); go_simp; all_goals (try with_reducible rfl))
  try simp only [Act.put, List.setIfInBounds_toArray, List.set_cons_zero, List.set_cons_succ]
  refine wpAnyH_ready (rs := [15]) (by kernel_rfl) (by simp) ?_
  refine AllReadyH.cons (o := { dst := some 32, op := Op.call { callee := Callee.value (Operand.func 13), args := #[Operand.tmp 30, Operand.tmp 31, Operand.const (Value.int IntKind.i64 4294967296)], argTypes := #[26, 23, 3] }, type := 23, pos := "more.go:17", after := #[{ on := 13, ground := Ground.data }, { on := 14, ground := Ground.data }, { on := 12, ground := Ground.chain }, { on := 12, ground := Ground.guard }], guard := some (12, true) }) rfl (fun K hK => ?_) AllReadyH.nil
  go_simp
  refine Calls.mono (HT1.out _ ql2_1) ?_
  rintro e qW3 ⟨rfl, lx, kx⟩
  have ql3_0 := ql2_0.kept kx hne01 ql2_1.new
  have ql3_1 := lx
  have qm3 := qm2.right kx
  clear kx lx
  go_wp2_with fail
  refine hK.out _ _ ⟨(HK.out _ qm3).1, (HK.out _ qm3).2.1, (HK.out _ qm3).2.2.1, (HK.out _ qm3).2.2.2, ql3_0.cell, ql3_1.cell⟩ (fun hHeld => ?_)
  clear hK K
  try simp only [Act.put, List.setIfInBounds_toArray, List.set_cons_zero, List.set_cons_succ]
  refine wpAnyH_take (i := 17) (oi := { dst := some 34, op := Op.binOp BinOp.eql 23 (Operand.tmp 32) (Operand.tmp 33) 23, type := 4, pos := "more.go:17", after := #[{ on := 15, ground := Ground.data }, { on := 16, ground := Ground.data }, { on := 12, ground := Ground.guard }], guard := some (12, true) }) (v := ?_) rfl (by kernel_rfl) (by kernel_rfl) (by kernel_rfl) (fun _ _ _ h => h) (Or.inl ⟨by rfl, ?_⟩) hHeld ?_
  rotate_left
  · (intro w hSw; (try dsimp only at hSw); go_simp; all_goals (try with_reducible rfl))
  try simp only [Act.put, List.setIfInBounds_toArray, List.set_cons_zero, List.set_cons_succ]
  refine wpAnyH_take (i := 18) (oi := { dst := some 35, op := Op.pick (Operand.tmp 29) (Operand.tmp 34) (Operand.const (Value.bool false)), type := 4, pos := "more.go:17", after := #[{ on := 12, ground := Ground.data }, { on := 17, ground := Ground.data }], guard := none }) (v := ?_) rfl (by kernel_rfl) (by kernel_rfl) (by kernel_rfl) (fun _ _ _ h => h) (Or.inl ⟨by rfl, ?_⟩) hHeld ?_
  rotate_left
  · (intro w hSw; (try dsimp only at hSw); go_simp; all_goals (try with_reducible rfl))
  try simp only [Act.put, List.setIfInBounds_toArray, List.set_cons_zero, List.set_cons_succ]
  refine wpAnyH_take (i := 19) (oi := { dst := some 36, op := Op.move (Operand.tmp 35), type := 4, pos := "more.go:17", after := #[{ on := 18, ground := Ground.data }, { on := 15, ground := Ground.chain }], guard := none }) (v := ?_) rfl (by kernel_rfl) (by kernel_rfl) (by kernel_rfl) (fun _ _ _ h => h) (Or.inl ⟨by rfl, ?_⟩) hHeld ?_
  rotate_left
  · (intro w hSw; (try dsimp only at hSw); go_simp; all_goals (try with_reducible rfl))
  try simp only [Act.put, List.setIfInBounds_toArray, List.set_cons_zero, List.set_cons_succ]
  refine wpAnyH_take (i := 20) (oi := { dst := some 37, op := Op.move (Operand.tmp 4), type := 26, pos := "more.go:17", after := #[{ on := 19, ground := Ground.guard }], guard := some (19, true) }) (v := ?_) rfl (by kernel_rfl) (by kernel_rfl) (by kernel_rfl) (fun _ _ _ h => h) (Or.inl ⟨by rfl, ?_⟩) hHeld ?_
  rotate_left
  · (intro w hSw; (try dsimp only at hSw); go_simp; all_goals (try with_reducible rfl))
  try simp only [Act.put, List.setIfInBounds_toArray, List.set_cons_zero, List.set_cons_succ]
  refine wpAnyH_take (i := 21) (oi := { dst := some 38, op := Op.load 23 (Operand.tmp 1), type := 23, pos := "more.go:17", after := #[{ on := 19, ground := Ground.guard }], guard := some (19, true) }) (v := ?_) rfl (by kernel_rfl) (by kernel_rfl) (by kernel_rfl) (fun _ _ _ h => h) (Or.inl ⟨by rfl, ?_⟩) hHeld ?_
  rotate_left
  · (intro w hSw; (try dsimp only at hSw); go_simp; all_goals (try with_reducible rfl))
  try simp only [Act.put, List.setIfInBounds_toArray, List.set_cons_zero, List.set_cons_succ]
  refine wpAnyH_take (i := 23) (oi := { dst := some 40, op := Op.build 23 #[], type := 23, pos := "more.go:17", after := #[{ on := 19, ground := Ground.guard }], guard := some (19, true) }) (v := ?_) rfl (by kernel_rfl) (by kernel_rfl) (by kernel_rfl) (fun _ _ _ h => h) (Or.inl ⟨by rfl, ?_⟩) hHeld ?_
  rotate_left
  · (intro w hSw; (try dsimp only at hSw); go_simp; all_goals (try with_reducible rfl))
  try simp only [Act.put, List.setIfInBounds_toArray, List.set_cons_zero, List.set_cons_succ]
  refine wpAnyH_ready (rs := [22]) (by kernel_rfl) (by simp) ?_
  refine AllReadyH.cons (o := { dst := some 39, op := Op.call { callee := Callee.value (Operand.func 13), args := #[Operand.tmp 37, Operand.tmp 38, Operand.const (Value.int IntKind.i64 0)], argTypes := #[26, 23, 3] }, type := 23, pos := "more.go:17", after := #[{ on := 20, ground := Ground.data }, { on := 21, ground := Ground.data }, { on := 19, ground := Ground.chain }, { on := 19, ground := Ground.guard }], guard := some (19, true) }) rfl (fun K hK => ?_) AllReadyH.nil
  go_simp
  refine Calls.mono (HT0.out _ ql3_1) ?_
  rintro e qW4 ⟨rfl, lx, kx⟩
  have ql4_0 := ql3_0.kept kx hne01 ql3_1.new
  have ql4_1 := lx
  have qm4 := qm3.right kx
  clear kx lx
  go_wp2_with fail
  refine hK.out _ _ ⟨(HK.out _ qm4).1, (HK.out _ qm4).2.1, (HK.out _ qm4).2.2.1, (HK.out _ qm4).2.2.2, ql4_0.cell, ql4_1.cell⟩ (fun hHeld => ?_)
  clear hK K
  try simp only [Act.put, List.setIfInBounds_toArray, List.set_cons_zero, List.set_cons_succ]
  refine wpAnyH_take (i := 24) (oi := { dst := some 41, op := Op.binOp BinOp.eql 23 (Operand.tmp 39) (Operand.tmp 40) 23, type := 4, pos := "more.go:17", after := #[{ on := 22, ground := Ground.data }, { on := 23, ground := Ground.data }, { on := 19, ground := Ground.guard }], guard := some (19, true) }) (v := ?_) rfl (by kernel_rfl) (by kernel_rfl) (by kernel_rfl) (fun _ _ _ h => h) (Or.inl ⟨by rfl, ?_⟩) hHeld ?_
  rotate_left
  · (intro w hSw; (try dsimp only at hSw); go_simp; all_goals (try with_reducible rfl))
  try simp only [Act.put, List.setIfInBounds_toArray, List.set_cons_zero, List.set_cons_succ]
  refine wpAnyH_take (i := 25) (oi := { dst := some 42, op := Op.pick (Operand.tmp 36) (Operand.tmp 41) (Operand.const (Value.bool false)), type := 4, pos := "more.go:17", after := #[{ on := 19, ground := Ground.data }, { on := 24, ground := Ground.data }], guard := none }) (v := ?_) rfl (by kernel_rfl) (by kernel_rfl) (by kernel_rfl) (fun _ _ _ h => h) (Or.inl ⟨by rfl, ?_⟩) hHeld ?_
  rotate_left
  · (intro w hSw; (try dsimp only at hSw); go_simp; all_goals (try with_reducible rfl))
  try simp only [Act.put, List.setIfInBounds_toArray, List.set_cons_zero, List.set_cons_succ]
  refine wpAnyH_take (i := 26) (oi := { dst := some 43, op := Op.move (Operand.tmp 42), type := 4, pos := "more.go:17", after := #[{ on := 25, ground := Ground.data }, { on := 22, ground := Ground.chain }], guard := none }) (v := ?_) rfl (by kernel_rfl) (by kernel_rfl) (by kernel_rfl) (fun _ _ _ h => h) (Or.inl ⟨by rfl, ?_⟩) hHeld ?_
  rotate_left
  · (intro w hSw; (try dsimp only at hSw); go_simp; all_goals (try with_reducible rfl))
  try simp only [Act.put, List.setIfInBounds_toArray, List.set_cons_zero, List.set_cons_succ]
  refine wpAnyH_take (i := 27) (oi := { dst := some 44, op := Op.move (Operand.tmp 4), type := 26, pos := "more.go:17", after := #[{ on := 26, ground := Ground.guard }], guard := some (26, true) }) (v := ?_) rfl (by kernel_rfl) (by kernel_rfl) (by kernel_rfl) (fun _ _ _ h => h) (Or.inl ⟨by rfl, ?_⟩) hHeld ?_
  rotate_left
  · (intro w hSw; (try dsimp only at hSw); go_simp; all_goals (try with_reducible rfl))
  try simp only [Act.put, List.setIfInBounds_toArray, List.set_cons_zero, List.set_cons_succ]
  refine wpAnyH_take (i := 28) (oi := { dst := some 45, op := Op.load 23 (Operand.tmp 1), type := 23, pos := "more.go:17", after := #[{ on := 26, ground := Ground.guard }], guard := some (26, true) }) (v := ?_) rfl (by kernel_rfl) (by kernel_rfl) (by kernel_rfl) (fun _ _ _ h => h) (Or.inl ⟨by rfl, ?_⟩) hHeld ?_
  rotate_left
  · (intro w hSw; (try dsimp only at hSw); go_simp; all_goals (try with_reducible rfl))
  try simp only [Act.put, List.setIfInBounds_toArray, List.set_cons_zero, List.set_cons_succ]
  refine wpAnyH_take (i := 31) (oi := { dst := some 48, op := Op.load 23 (Operand.tmp 1), type := 23, pos := "more.go:17", after := #[{ on := 26, ground := Ground.guard }], guard := some (26, true) }) (v := ?_) rfl (by kernel_rfl) (by kernel_rfl) (by kernel_rfl) (fun _ _ _ h => h) (Or.inl ⟨by rfl, ?_⟩) hHeld ?_
  rotate_left
  · (intro w hSw; (try dsimp only at hSw); go_simp; all_goals (try with_reducible rfl))
  try simp only [Act.put, List.setIfInBounds_toArray, List.set_cons_zero, List.set_cons_succ]
  refine wpAnyH_ready (rs := [29]) (by kernel_rfl) (by simp) ?_
  refine AllReadyH.cons (o := { dst := some 46, op := Op.buildSlice 50 1 #[(0, Operand.tmp 45)], type := 50, pos := "more.go:17", after := #[{ on := 28, ground := Ground.data }, { on := 26, ground := Ground.guard }], guard := some (26, true) }) rfl (fun K hK => ?_) AllReadyH.nil
  go_simp
  obtain ⟨qW5, hX⟩ : ∃ Z, qW4.alloc (.cells #[.int .i64 a, .int .i64 b] 23) = Z := ⟨_, rfl⟩
  rw [hX]
  have hb : Below qW4.heap.size qW4 qW5 := by rw [← hX]; exact (Below.refl _ qW4).alloc (Nat.le_refl _) _
  have ql5_0 := ql4_0.stays hb
  have ql5_1 := ql4_1.stays hb
  have qm5 := qm4.below hb
  have qr5_29 := row_one qW4 a b _ rfl
  rw [hX] at qr5_29
  have qn5_29_0 : qW4.heap.size ≠ v := by have := ql4_0.old; omega
  have qn5_29_1 : qW4.heap.size ≠ u := by have := ql4_1.old; omega
  clear hX hb
  refine hK.out _ _ ⟨(HK.out _ qm5).1, (HK.out _ qm5).2.1, (HK.out _ qm5).2.2.1, (HK.out _ qm5).2.2.2, ql5_0.cell, ql5_1.cell⟩ (fun hHeld => ?_)
  clear hK K
  try simp only [Act.put, List.setIfInBounds_toArray, List.set_cons_zero, List.set_cons_succ]
  refine wpAnyH_ready (rs := [30]) (by kernel_rfl) (by simp) ?_
  refine AllReadyH.cons (o := { dst := some 47, op := Op.call { callee := Callee.value (Operand.func 14), args := #[Operand.tmp 44, Operand.tmp 46], argTypes := #[26, 50] }, type := 23, pos := "more.go:17", after := #[{ on := 27, ground := Ground.data }, { on := 29, ground := Ground.data }, { on := 26, ground := Ground.chain }, { on := 26, ground := Ground.guard }], guard := some (26, true) }) rfl (fun K hK => ?_) AllReadyH.nil
  go_simp
  refine Calls.mono (HP1.out _ _ ql5_1 qr5_29 qn5_29_1) ?_
  rintro e qW6 ⟨rfl, lx, kx⟩
  have ql6_0 := ql5_0.kept kx hne01 ql5_1.new
  have ql6_1 := lx
  have qm6 := qm5.right kx
  have qr6_29 := qr5_29.kept kx (blk_ne qn5_29_1)
  clear kx lx
  go_wp2_with fail
  refine hK.out _ _ ⟨(HK.out _ qm6).1, (HK.out _ qm6).2.1, (HK.out _ qm6).2.2.1, (HK.out _ qm6).2.2.2, ql6_0.cell, ql6_1.cell⟩ (fun hHeld => ?_)
  clear hK K
  try simp only [Act.put, List.setIfInBounds_toArray, List.set_cons_zero, List.set_cons_succ]
  refine wpAnyH_take (i := 32) (oi := { dst := some 49, op := Op.binOp BinOp.eql 23 (Operand.tmp 47) (Operand.tmp 48) 23, type := 4, pos := "more.go:17", after := #[{ on := 30, ground := Ground.data }, { on := 31, ground := Ground.data }, { on := 26, ground := Ground.guard }], guard := some (26, true) }) (v := ?_) rfl (by kernel_rfl) (by kernel_rfl) (by kernel_rfl) (fun _ _ _ h => h) (Or.inl ⟨by rfl, ?_⟩) hHeld ?_
  rotate_left
  · (intro w hSw; (try dsimp only at hSw); go_simp; all_goals (try with_reducible rfl))
  try simp only [Act.put, List.setIfInBounds_toArray, List.set_cons_zero, List.set_cons_succ]
  refine wpAnyH_take (i := 33) (oi := { dst := some 50, op := Op.pick (Operand.tmp 43) (Operand.tmp 49) (Operand.const (Value.bool false)), type := 4, pos := "more.go:17", after := #[{ on := 26, ground := Ground.data }, { on := 32, ground := Ground.data }], guard := none }) (v := ?_) rfl (by kernel_rfl) (by kernel_rfl) (by kernel_rfl) (fun _ _ _ h => h) (Or.inl ⟨by rfl, ?_⟩) hHeld ?_
  rotate_left
  · (intro w hSw; (try dsimp only at hSw); go_simp; all_goals (try with_reducible rfl))
  try simp only [Act.put, List.setIfInBounds_toArray, List.set_cons_zero, List.set_cons_succ]
  refine wpAnyH_take (i := 34) (oi := { dst := some 51, op := Op.move (Operand.tmp 50), type := 4, pos := "more.go:17", after := #[{ on := 33, ground := Ground.data }, { on := 30, ground := Ground.chain }], guard := none }) (v := ?_) rfl (by kernel_rfl) (by kernel_rfl) (by kernel_rfl) (fun _ _ _ h => h) (Or.inl ⟨by rfl, ?_⟩) hHeld ?_
  rotate_left
  · (intro w hSw; (try dsimp only at hSw); go_simp; all_goals (try with_reducible rfl))
  try simp only [Act.put, List.setIfInBounds_toArray, List.set_cons_zero, List.set_cons_succ]
  refine wpAnyH_take (i := 35) (oi := { dst := some 52, op := Op.move (Operand.tmp 4), type := 26, pos := "more.go:17", after := #[{ on := 34, ground := Ground.guard }], guard := some (34, true) }) (v := ?_) rfl (by kernel_rfl) (by kernel_rfl) (by kernel_rfl) (fun _ _ _ h => h) (Or.inl ⟨by rfl, ?_⟩) hHeld ?_
  rotate_left
  · (intro w hSw; (try dsimp only at hSw); go_simp; all_goals (try with_reducible rfl))
  try simp only [Act.put, List.setIfInBounds_toArray, List.set_cons_zero, List.set_cons_succ]
  refine wpAnyH_take (i := 36) (oi := { dst := some 53, op := Op.load 23 (Operand.tmp 1), type := 23, pos := "more.go:17", after := #[{ on := 34, ground := Ground.guard }], guard := some (34, true) }) (v := ?_) rfl (by kernel_rfl) (by kernel_rfl) (by kernel_rfl) (fun _ _ _ h => h) (Or.inl ⟨by rfl, ?_⟩) hHeld ?_
  rotate_left
  · (intro w hSw; (try dsimp only at hSw); go_simp; all_goals (try with_reducible rfl))
  try simp only [Act.put, List.setIfInBounds_toArray, List.set_cons_zero, List.set_cons_succ]
  refine wpAnyH_take (i := 37) (oi := { dst := some 54, op := Op.build 23 #[], type := 23, pos := "more.go:17", after := #[{ on := 34, ground := Ground.guard }], guard := some (34, true) }) (v := ?_) rfl (by kernel_rfl) (by kernel_rfl) (by kernel_rfl) (fun _ _ _ h => h) (Or.inl ⟨by rfl, ?_⟩) hHeld ?_
  rotate_left
  · (intro w hSw; (try dsimp only at hSw); go_simp; all_goals (try with_reducible rfl))
  try simp only [Act.put, List.setIfInBounds_toArray, List.set_cons_zero, List.set_cons_succ]
  refine wpAnyH_take (i := 40) (oi := { dst := some 57, op := Op.load 23 (Operand.tmp 1), type := 23, pos := "more.go:17", after := #[{ on := 34, ground := Ground.guard }], guard := some (34, true) }) (v := ?_) rfl (by kernel_rfl) (by kernel_rfl) (by kernel_rfl) (fun _ _ _ h => h) (Or.inl ⟨by rfl, ?_⟩) hHeld ?_
  rotate_left
  · (intro w hSw; (try dsimp only at hSw); go_simp; all_goals (try with_reducible rfl))
  try simp only [Act.put, List.setIfInBounds_toArray, List.set_cons_zero, List.set_cons_succ]
  refine wpAnyH_ready (rs := [38]) (by kernel_rfl) (by simp) ?_
  refine AllReadyH.cons (o := { dst := some 55, op := Op.buildSlice 50 2 #[(0, Operand.tmp 53), (1, Operand.tmp 54)], type := 50, pos := "more.go:17", after := #[{ on := 36, ground := Ground.data }, { on := 37, ground := Ground.data }, { on := 34, ground := Ground.guard }], guard := some (34, true) }) rfl (fun K hK => ?_) AllReadyH.nil
  go_simp
  obtain ⟨qW7, hX⟩ : ∃ Z, qW6.alloc (.cells #[.int .i64 a, .int .i64 b, .int .i64 0, .int .i64 0] 23) = Z := ⟨_, rfl⟩
  rw [hX]
  have hb : Below qW6.heap.size qW6 qW7 := by rw [← hX]; exact (Below.refl _ qW6).alloc (Nat.le_refl _) _
  have ql7_0 := ql6_0.stays hb
  have ql7_1 := ql6_1.stays hb
  have qm7 := qm6.below hb
  have qr7_29 := qr6_29.stays hb (Nat.le_refl _)
  have qr7_38 := row_two qW6 a b 0 0 _ rfl
  rw [hX] at qr7_38
  have qn7_38_0 : qW6.heap.size ≠ v := by have := ql6_0.old; omega
  have qn7_38_1 : qW6.heap.size ≠ u := by have := ql6_1.old; omega
  clear hX hb
  refine hK.out _ _ ⟨(HK.out _ qm7).1, (HK.out _ qm7).2.1, (HK.out _ qm7).2.2.1, (HK.out _ qm7).2.2.2, ql7_0.cell, ql7_1.cell⟩ (fun hHeld => ?_)
  clear hK K
  try simp only [Act.put, List.setIfInBounds_toArray, List.set_cons_zero, List.set_cons_succ]
  refine wpAnyH_ready (rs := [39]) (by kernel_rfl) (by simp) ?_
  refine AllReadyH.cons (o := { dst := some 56, op := Op.call { callee := Callee.value (Operand.func 14), args := #[Operand.tmp 52, Operand.tmp 55], argTypes := #[26, 50] }, type := 23, pos := "more.go:17", after := #[{ on := 35, ground := Ground.data }, { on := 38, ground := Ground.data }, { on := 34, ground := Ground.chain }, { on := 34, ground := Ground.guard }], guard := some (34, true) }) rfl (fun K hK => ?_) AllReadyH.nil
  go_simp
  refine Calls.mono (HP2.out _ _ ql7_1 qr7_38 qn7_38_1) ?_
  rintro e qW8 ⟨rfl, lx, kx⟩
  have ql8_0 := ql7_0.kept kx hne01 ql7_1.new
  have ql8_1 := lx
  have qm8 := qm7.right kx
  have qr8_29 := qr7_29.kept kx (blk_ne qn5_29_1)
  have qr8_38 := qr7_38.kept kx (blk_ne qn7_38_1)
  clear kx lx
  go_wp2_with fail
  refine hK.out _ _ ⟨(HK.out _ qm8).1, (HK.out _ qm8).2.1, (HK.out _ qm8).2.2.1, (HK.out _ qm8).2.2.2, ql8_0.cell, ql8_1.cell⟩ (fun hHeld => ?_)
  clear hK K
  try simp only [Act.put, List.setIfInBounds_toArray, List.set_cons_zero, List.set_cons_succ]
  refine wpAnyH_take (i := 41) (oi := { dst := some 58, op := Op.binOp BinOp.eql 23 (Operand.tmp 56) (Operand.tmp 57) 23, type := 4, pos := "more.go:17", after := #[{ on := 39, ground := Ground.data }, { on := 40, ground := Ground.data }, { on := 34, ground := Ground.guard }], guard := some (34, true) }) (v := ?_) rfl (by kernel_rfl) (by kernel_rfl) (by kernel_rfl) (fun _ _ _ h => h) (Or.inl ⟨by rfl, ?_⟩) hHeld ?_
  rotate_left
  · (intro w hSw; (try dsimp only at hSw); go_simp; all_goals (try with_reducible rfl))
  try simp only [Act.put, List.setIfInBounds_toArray, List.set_cons_zero, List.set_cons_succ]
  refine wpAnyH_take (i := 42) (oi := { dst := some 59, op := Op.pick (Operand.tmp 51) (Operand.tmp 58) (Operand.const (Value.bool false)), type := 4, pos := "more.go:17", after := #[{ on := 34, ground := Ground.data }, { on := 41, ground := Ground.data }], guard := none }) (v := ?_) rfl (by kernel_rfl) (by kernel_rfl) (by kernel_rfl) (fun _ _ _ h => h) (Or.inl ⟨by rfl, ?_⟩) hHeld ?_
  rotate_left
  · (intro w hSw; (try dsimp only at hSw); go_simp; all_goals (try with_reducible rfl))
  try simp only [Act.put, List.setIfInBounds_toArray, List.set_cons_zero, List.set_cons_succ]
  refine wpAnyH_take (i := 43) (oi := { dst := some 60, op := Op.move (Operand.tmp 59), type := 4, pos := "more.go:17", after := #[{ on := 42, ground := Ground.data }, { on := 39, ground := Ground.chain }], guard := none }) (v := ?_) rfl (by kernel_rfl) (by kernel_rfl) (by kernel_rfl) (fun _ _ _ h => h) (Or.inl ⟨by rfl, ?_⟩) hHeld ?_
  rotate_left
  · (intro w hSw; (try dsimp only at hSw); go_simp; all_goals (try with_reducible rfl))
  try simp only [Act.put, List.setIfInBounds_toArray, List.set_cons_zero, List.set_cons_succ]
  refine wpAnyH_take (i := 44) (oi := { dst := some 61, op := Op.move (Operand.tmp 4), type := 26, pos := "more.go:17", after := #[{ on := 43, ground := Ground.guard }], guard := some (43, true) }) (v := ?_) rfl (by kernel_rfl) (by kernel_rfl) (by kernel_rfl) (fun _ _ _ h => h) (Or.inl ⟨by rfl, ?_⟩) hHeld ?_
  rotate_left
  · (intro w hSw; (try dsimp only at hSw); go_simp; all_goals (try with_reducible rfl))
  try simp only [Act.put, List.setIfInBounds_toArray, List.set_cons_zero, List.set_cons_succ]
  refine wpAnyH_take (i := 45) (oi := { dst := some 62, op := Op.nilCheck (Operand.tmp 61), type := 0, pos := "more.go:17", after := #[{ on := 44, ground := Ground.data }, { on := 43, ground := Ground.guard }], guard := some (43, true) }) (v := ?_) rfl (by kernel_rfl) (by kernel_rfl) (by kernel_rfl) (fun _ _ _ h => h) (Or.inl ⟨by rfl, ?_⟩) hHeld ?_
  rotate_left
  · (intro w hSw; (try dsimp only at hSw); go_simp; all_goals (try with_reducible rfl))
  try simp only [Act.put, List.setIfInBounds_toArray, List.set_cons_zero, List.set_cons_succ]
  refine wpAnyH_take (i := 46) (oi := { dst := some 63, op := Op.fieldAddr 30 (Operand.tmp 62) 0, type := 0, pos := "more.go:17", after := #[{ on := 45, ground := Ground.data }, { on := 43, ground := Ground.guard }], guard := some (43, true) }) (v := ?_) rfl (by kernel_rfl) (by kernel_rfl) (by kernel_rfl) (fun _ _ _ h => h) (Or.inl ⟨by rfl, ?_⟩) hHeld ?_
  rotate_left
  · (intro w hSw; (try dsimp only at hSw); go_simp; all_goals (try with_reducible rfl))
  try simp only [Act.put, List.setIfInBounds_toArray, List.set_cons_zero, List.set_cons_succ]
  refine wpAnyH_take (i := 47) (oi := { dst := some 64, op := Op.fieldAddr 28 (Operand.tmp 63) 0, type := 0, pos := "more.go:17", after := #[{ on := 46, ground := Ground.data }, { on := 43, ground := Ground.guard }], guard := some (43, true) }) (v := ?_) rfl (by kernel_rfl) (by kernel_rfl) (by kernel_rfl) (fun _ _ _ h => h) (Or.inl ⟨by rfl, ?_⟩) hHeld ?_
  rotate_left
  · (intro w hSw; (try dsimp only at hSw); go_simp; all_goals (try with_reducible rfl))
  try simp only [Act.put, List.setIfInBounds_toArray, List.set_cons_zero, List.set_cons_succ]
  refine wpAnyH_take (i := 48) (oi := { dst := some 65, op := Op.load 4 (Operand.tmp 64), type := 4, pos := "more.go:17", after := #[{ on := 47, ground := Ground.data }, { on := 43, ground := Ground.guard }], guard := some (43, true) }) (v := ?_) rfl (by kernel_rfl) (by kernel_rfl) (by kernel_rfl) (fun _ _ _ h => h) (Or.inl ⟨by rfl, ?_⟩) hHeld ?_
  rotate_left
  · (intro w hSw; (try dsimp only at hSw); go_simp; all_goals (try with_reducible rfl))
  try simp only [Act.put, List.setIfInBounds_toArray, List.set_cons_zero, List.set_cons_succ]
  refine wpAnyH_take (i := 49) (oi := { dst := some 66, op := Op.unOp UnOp.not 4 (Operand.tmp 65), type := 4, pos := "more.go:17", after := #[{ on := 48, ground := Ground.data }, { on := 43, ground := Ground.guard }], guard := some (43, true) }) (v := ?_) rfl (by kernel_rfl) (by kernel_rfl) (by kernel_rfl) (fun _ _ _ h => h) (Or.inl ⟨by rfl, ?_⟩) hHeld ?_
  rotate_left
  · (intro w hSw; (try dsimp only at hSw); go_simp; all_goals (try with_reducible rfl))
  try simp only [Act.put, List.setIfInBounds_toArray, List.set_cons_zero, List.set_cons_succ]
  refine wpAnyH_take (i := 50) (oi := { dst := some 67, op := Op.pick (Operand.tmp 60) (Operand.tmp 66) (Operand.const (Value.bool false)), type := 4, pos := "more.go:17", after := #[{ on := 43, ground := Ground.data }, { on := 49, ground := Ground.data }], guard := none }) (v := ?_) rfl (by kernel_rfl) (by kernel_rfl) (by kernel_rfl) (fun _ _ _ h => h) (Or.inl ⟨by rfl, ?_⟩) hHeld ?_
  rotate_left
  · (intro w hSw; (try dsimp only at hSw); go_simp; all_goals (try with_reducible rfl))
  try simp only [Act.put, List.setIfInBounds_toArray, List.set_cons_zero, List.set_cons_succ]
  refine wpAnyH_take (i := 51) (oi := { dst := some 68, op := Op.move (Operand.tmp 67), type := 4, pos := "more.go:17", after := #[{ on := 50, ground := Ground.data }, { on := 43, ground := Ground.chain }], guard := none }) (v := ?_) rfl (by kernel_rfl) (by kernel_rfl) (by kernel_rfl) (fun _ _ _ h => h) (Or.inl ⟨by rfl, ?_⟩) hHeld ?_
  rotate_left
  · (intro w hSw; (try dsimp only at hSw); go_simp; all_goals (try with_reducible rfl))
  try simp only [Act.put, List.setIfInBounds_toArray, List.set_cons_zero, List.set_cons_succ]
  refine wpAnyH_take (i := 52) (oi := { dst := some 69, op := Op.move (Operand.tmp 4), type := 26, pos := "more.go:17", after := #[{ on := 51, ground := Ground.guard }], guard := some (51, true) }) (v := ?_) rfl (by kernel_rfl) (by kernel_rfl) (by kernel_rfl) (fun _ _ _ h => h) (Or.inl ⟨by rfl, ?_⟩) hHeld ?_
  rotate_left
  · (intro w hSw; (try dsimp only at hSw); go_simp; all_goals (try with_reducible rfl))
  try simp only [Act.put, List.setIfInBounds_toArray, List.set_cons_zero, List.set_cons_succ]
  refine wpAnyH_take (i := 54) (oi := { dst := some 71, op := Op.build 23 #[], type := 23, pos := "more.go:17", after := #[{ on := 51, ground := Ground.guard }], guard := some (51, true) }) (v := ?_) rfl (by kernel_rfl) (by kernel_rfl) (by kernel_rfl) (fun _ _ _ h => h) (Or.inl ⟨by rfl, ?_⟩) hHeld ?_
  rotate_left
  · (intro w hSw; (try dsimp only at hSw); go_simp; all_goals (try with_reducible rfl))
  try simp only [Act.put, List.setIfInBounds_toArray, List.set_cons_zero, List.set_cons_succ]
  refine wpAnyH_ready (rs := [53]) (by kernel_rfl) (by simp) ?_
  refine AllReadyH.cons (o := { dst := some 70, op := Op.call { callee := Callee.value (Operand.func 14), args := #[Operand.tmp 69, Operand.const (Value.slice none 0 0)], argTypes := #[26, 50] }, type := 23, pos := "more.go:17", after := #[{ on := 52, ground := Ground.data }, { on := 51, ground := Ground.chain }, { on := 51, ground := Ground.guard }], guard := some (51, true) }) rfl (fun K hK => ?_) AllReadyH.nil
  go_simp
  refine Calls.mono (splus_zero ql8_1) ?_
  rintro e qW9 ⟨rfl, lx, kx⟩
  have ql9_0 := ql8_0.kept kx hne01 ql8_1.new
  have ql9_1 := lx
  have qm9 := qm8.right kx
  have qr9_29 := qr8_29.kept kx (blk_ne qn5_29_1)
  have qr9_38 := qr8_38.kept kx (blk_ne qn7_38_1)
  clear kx lx
  go_wp2_with fail
  refine hK.out _ _ ⟨(HK.out _ qm9).1, (HK.out _ qm9).2.1, (HK.out _ qm9).2.2.1, (HK.out _ qm9).2.2.2, ql9_0.cell, ql9_1.cell⟩ (fun hHeld => ?_)
  clear hK K
  try simp only [Act.put, List.setIfInBounds_toArray, List.set_cons_zero, List.set_cons_succ]
  refine wpAnyH_take (i := 55) (oi := { dst := some 72, op := Op.binOp BinOp.eql 23 (Operand.tmp 70) (Operand.tmp 71) 23, type := 4, pos := "more.go:17", after := #[{ on := 53, ground := Ground.data }, { on := 54, ground := Ground.data }, { on := 51, ground := Ground.guard }], guard := some (51, true) }) (v := ?_) rfl (by kernel_rfl) (by kernel_rfl) (by kernel_rfl) (fun _ _ _ h => h) (Or.inl ⟨by rfl, ?_⟩) hHeld ?_
  rotate_left
  · (intro w hSw; (try dsimp only at hSw); go_simp; all_goals (try with_reducible rfl))
  try simp only [Act.put, List.setIfInBounds_toArray, List.set_cons_zero, List.set_cons_succ]
  refine wpAnyH_take (i := 56) (oi := { dst := some 73, op := Op.pick (Operand.tmp 68) (Operand.tmp 72) (Operand.const (Value.bool false)), type := 4, pos := "more.go:17", after := #[{ on := 51, ground := Ground.data }, { on := 55, ground := Ground.data }], guard := none }) (v := ?_) rfl (by kernel_rfl) (by kernel_rfl) (by kernel_rfl) (fun _ _ _ h => h) (Or.inl ⟨by rfl, ?_⟩) hHeld ?_
  rotate_left
  · (intro w hSw; (try dsimp only at hSw); go_simp; all_goals (try with_reducible rfl))
  try simp only [Act.put, List.setIfInBounds_toArray, List.set_cons_zero, List.set_cons_succ]
  refine wpAnyH_take (i := 57) (oi := { dst := some 2, op := Op.assign (Operand.tmp 73), type := 4, pos := "more.go:17", after := #[{ on := 56, ground := Ground.data }, { on := 53, ground := Ground.chain }, { on := 0, ground := Ground.phase }, { on := 1, ground := Ground.phase }, { on := 2, ground := Ground.phase }, { on := 3, ground := Ground.phase }, { on := 4, ground := Ground.phase }, { on := 5, ground := Ground.phase }, { on := 6, ground := Ground.phase }, { on := 7, ground := Ground.phase }, { on := 8, ground := Ground.phase }, { on := 9, ground := Ground.phase }, { on := 10, ground := Ground.phase }, { on := 11, ground := Ground.phase }, { on := 12, ground := Ground.phase }, { on := 13, ground := Ground.phase }, { on := 14, ground := Ground.phase }, { on := 15, ground := Ground.phase }, { on := 16, ground := Ground.phase }, { on := 17, ground := Ground.phase }, { on := 18, ground := Ground.phase }, { on := 19, ground := Ground.phase }, { on := 20, ground := Ground.phase }, { on := 21, ground := Ground.phase }, { on := 22, ground := Ground.phase }, { on := 23, ground := Ground.phase }, { on := 24, ground := Ground.phase }, { on := 25, ground := Ground.phase }, { on := 26, ground := Ground.phase }, { on := 27, ground := Ground.phase }, { on := 28, ground := Ground.phase }, { on := 29, ground := Ground.phase }, { on := 30, ground := Ground.phase }, { on := 31, ground := Ground.phase }, { on := 32, ground := Ground.phase }, { on := 33, ground := Ground.phase }, { on := 34, ground := Ground.phase }, { on := 35, ground := Ground.phase }, { on := 36, ground := Ground.phase }, { on := 37, ground := Ground.phase }, { on := 38, ground := Ground.phase }, { on := 39, ground := Ground.phase }, { on := 40, ground := Ground.phase }, { on := 41, ground := Ground.phase }, { on := 42, ground := Ground.phase }, { on := 43, ground := Ground.phase }, { on := 44, ground := Ground.phase }, { on := 45, ground := Ground.phase }, { on := 46, ground := Ground.phase }, { on := 47, ground := Ground.phase }, { on := 48, ground := Ground.phase }, { on := 49, ground := Ground.phase }, { on := 50, ground := Ground.phase }, { on := 51, ground := Ground.phase }, { on := 52, ground := Ground.phase }, { on := 53, ground := Ground.phase }, { on := 54, ground := Ground.phase }, { on := 55, ground := Ground.phase }, { on := 56, ground := Ground.phase }], guard := none }) (v := ?_) rfl (by kernel_rfl) (by kernel_rfl) (by kernel_rfl) (fun _ _ _ h => h) (Or.inl ⟨by rfl, ?_⟩) hHeld ?_
  rotate_left
  · (intro w hSw; (try dsimp only at hSw); go_simp; all_goals (try with_reducible rfl))
  try simp only [Act.put, List.setIfInBounds_toArray, List.set_cons_zero, List.set_cons_succ]
  refine wpAnyH_done (by kernel_rfl) ?_ _
  go_wp2
  go_ret
  exact ⟨rfl, ql9_0.below⟩

theorem self_law (a b : Int) (w : World) (ha : B64 a) (hb : B64 b) : Calls Try.prog 3 #[(.agg #[.int .i64 a, .int .i64 b])] w fun e w' => e = .returned (.bool true) ∧ Below w.heap.size w w' := by
  by_cases h1 : b < a
  · exact self_nx a b w h1
  · cases h : (overF (a - b) || overF (b - a)) with
    | true => exact self_true a b w ha hb (by omega) h
    | false => exact self_false a b w ha hb (by omega) h
end Go.Proofs.Ythnhlgiibiephab
