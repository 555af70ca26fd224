/- The contract of trace's exported Atom. Conditions: at most 1000 names, at most 2^30 terms. -/
import Derived.Test.YtipbjoeekbgnbaaTdA
namespace Go.Proofs.Ytipbjoeekbgnbaa
open Go.RowKit
set_option linter.unusedVariables false
set_option maxRecDepth 100000

set_option maxHeartbeats 8000000 in
theorem atomT_any (x : Nd) (ta : Option Addr) (tc : Nat) (na : Option Addr) (nc : Nat) (names : List ByteArray) (ra : Option Addr) (rc : Nat) (row : List Int) (W : World) (h : TermRow W ta x.terms) (hN : NamRow W na names) (hr : IRow W ra row) (hf : NamesFit x.terms) (hx : ∀ t ∈ x.terms, B64 t.times) (hnum : B64 x.num) (hrow : ∀ z ∈ row, B64 z) (hn : names.length ≤ 1000) (hs : ∀ s ∈ names, s.size ≤ 9223372036854775807) (hl : x.terms.length ≤ 1073741824) :
    Calls Try.prog 7 #[.agg #[.int .i64 x.op, .int .i64 x.n, .int .i64 x.fr, .int .i64 x.to, .slice ta x.terms.length tc, .int .i64 x.num], .slice na names.length nc, .slice ra row.length rc] W fun e W' => e = .returned (.tuple #[.bool (holdsB (judgeSum row (wtsTo names x.terms x.terms.length)) x.num), .bool (overB (judgeSum row (wtsTo names x.terms x.terms.length)))]) ∧ Below W.heap.size W W' := by
  obtain ⟨Y, hY⟩ : ∃ X, W.alloc (.cells #[.int .i64 x.op, .int .i64 x.n, .int .i64 x.fr, .int .i64 x.to, .slice ta x.terms.length tc, .int .i64 x.num] 24) = X := ⟨_, rfl⟩
  have HY : Hid (W.alloc (.cells #[.int .i64 x.op, .int .i64 x.n, .int .i64 x.fr, .int .i64 x.to, .slice ta x.terms.length tc, .int .i64 x.num] 24) = Y) := hY
  have HBY : Hid (Below W.heap.size W Y) := by rw [← hY]; exact (Below.refl _ _).alloc (Nat.le_refl _) _
  have HALL : Hid (∀ X, Below Y.heap.size Y X → X.cell? ⟨W.heap.size, 0, none⟩ = some (.int .i64 x.op) ∧ X.cell? ⟨W.heap.size, 1, none⟩ = some (.int .i64 x.n) ∧ X.cell? ⟨W.heap.size, 2, none⟩ = some (.int .i64 x.fr) ∧ X.cell? ⟨W.heap.size, 3, none⟩ = some (.int .i64 x.to) ∧ X.cell? ⟨W.heap.size, 4, none⟩ = some (.slice ta x.terms.length tc) ∧ X.cell? ⟨W.heap.size, 5, none⟩ = some (.int .i64 x.num)) := fun X hX => by
    refine ⟨?_, ?_, ?_, ?_, ?_, ?_⟩ <;> exact cell_up hX (by rw [← hY]; simp [go_sem])
  have HB0 : Hid (∀ X, Below Y.heap.size Y X → Below W.heap.size W X) := fun X hX => HBY.out.trans (hX.mono HBY.out.size)
  have HC : Hid (∀ X, Below Y.heap.size Y X → Calls Try.prog 12 #[.slice na names.length nc] X fun e W' => ∃ b, e = .returned (.map (some b)) ∧ X.heap.size ≤ b ∧ ColsAt W' b names ∧ Below X.heap.size X W') := fun X hX => newColumns_any na nc names X (hN.below (HB0.out X hX)) hn hs
  have HW : Hid (∀ X b, Below Y.heap.size Y X → ColsAt X b names → Calls Try.prog 13 #[.map (some b), .agg #[.int .i64 x.op, .int .i64 x.n, .int .i64 x.fr, .int .i64 x.to, .slice ta x.terms.length tc, .int .i64 x.num]] X fun e W' => ∃ pa pc, e = .returned (.agg #[.slice pa (wtsTo names x.terms x.terms.length).length pc, .int .i64 x.num]) ∧ WtRow W' pa (wtsTo names x.terms x.terms.length) ∧ Below X.heap.size X W' ∧ ∀ y, pa = some y → X.heap.size ≤ y.block) := fun X b hX hb => weigh_any b names x ta tc X hb (h.below (HB0.out X hX)) hf hn hl
  have hwt := wts_times (names := names) hx x.terms.length
  have hwl := wtsTo_len names x.terms x.terms.length
  have hwl2 : (wtsTo names x.terms x.terms.length).length ≤ 1073741824 := by omega
  have HJ : Hid (∀ X pa pc, Below Y.heap.size Y X → WtRow X pa (wtsTo names x.terms x.terms.length) → Calls Try.prog 11 #[.agg #[.slice pa (wtsTo names x.terms x.terms.length).length pc, .int .i64 x.num], .slice ra row.length rc] X fun e W' => e = .returned (.tuple #[.bool (holdsB (judgeSum row (wtsTo names x.terms x.terms.length)) x.num), .bool (overB (judgeSum row (wtsTo names x.terms x.terms.length)))]) ∧ Below X.heap.size X W') := fun X pa pc hX hp => judge_tells pa pc _ x.num ra rc row X hp (hr.below (HB0.out X hX)) hwt hrow hnum hwl2
  clear h hN hr hf hx hnum hrow hn hs hl hwt hwl hwl2
  obtain ⟨op, n, fr, to, ts, num⟩ := x
  simp only at *
  generalize overB (judgeSum row (wtsTo names ts ts.length)) = bo at *
  generalize holdsB (judgeSum row (wtsTo names ts ts.length)) num = bh at *
  generalize wtsTo names ts ts.length = ws at *
  have HB : Hid (Below Y.heap.size Y Y.drew) := (Below.refl _ _).drew
  go_enter Try.func7, Try.ntmps7
  go_wp2_with fail
  refine wp_region_held_drew (S := fun W' => W'.cell? ⟨W.heap.size, 0, none⟩ = some (.int .i64 op) ∧ W'.cell? ⟨W.heap.size, 1, none⟩ = some (.int .i64 n) ∧ W'.cell? ⟨W.heap.size, 2, none⟩ = some (.int .i64 fr) ∧ W'.cell? ⟨W.heap.size, 3, none⟩ = some (.int .i64 to) ∧ W'.cell? ⟨W.heap.size, 4, none⟩ = some (.slice ta ts.length tc) ∧ W'.cell? ⟨W.heap.size, 5, none⟩ = some (.int .i64 num)) (by kernel_rfl) (HALL.out _ HB.out) (fun hHeld => ?_)
  refine wpAnyH_take (i := 0) (oi := { dst := some 8, op := Op.move (Operand.tmp 1), type := 25, pos := "trace.go:12", after := #[], guard := none }) (v := ?_) rfl (by kernel_rfl) (by kernel_rfl) (by kernel_rfl) (fun _ _ _ h => h) (Or.inl ⟨by rfl, ?_⟩) hHeld ?_
  rotate_left
  · (intro w hSw; (try dsimp only at hSw); go_simp; all_goals (try with_reducible rfl))
  try simp only [Act.put, List.setIfInBounds_toArray, List.set_cons_zero, List.set_cons_succ]
  refine wpAnyH_take (i := 2) (oi := { dst := some 10, op := Op.load 24 (Operand.tmp 3), type := 24, pos := "trace.go:12", after := #[], guard := none }) (v := ?_) rfl (by kernel_rfl) (by kernel_rfl) (by kernel_rfl) (fun _ _ _ h => h) (Or.inl ⟨by rfl, ?_⟩) hHeld ?_
  rotate_left
  · (intro w hSw; (try dsimp only at hSw); go_simp; all_goals (try with_reducible rfl))
  try simp only [Act.put, List.setIfInBounds_toArray, List.set_cons_zero, List.set_cons_succ]
  refine wpAnyH_take (i := 4) (oi := { dst := some 12, op := Op.move (Operand.tmp 2), type := 26, pos := "trace.go:12", after := #[], guard := none }) (v := ?_) rfl (by kernel_rfl) (by kernel_rfl) (by kernel_rfl) (fun _ _ _ h => h) (Or.inl ⟨by rfl, ?_⟩) hHeld ?_
  rotate_left
  · (intro w hSw; (try dsimp only at hSw); go_simp; all_goals (try with_reducible rfl))
  try simp only [Act.put, List.setIfInBounds_toArray, List.set_cons_zero, List.set_cons_succ]
  refine wpAnyH_ready (rs := [1]) (by kernel_rfl) (by simp) ?_
  refine AllReadyH.cons (o := { dst := some 9, op := Op.call { callee := Callee.value (Operand.func 12), args := #[Operand.tmp 8], argTypes := #[25] }, type := 47, pos := "trace.go:12", after := #[{ on := 0, ground := Ground.data }], guard := none }) rfl (fun K hK => ?_) AllReadyH.nil
  go_simp
  refine Calls.mono (HC.out _ HB.out) ?_
  rintro e V1 ⟨b, rfl, _, hcol, hb1⟩
  have HCOL : Hid (ColsAt V1 b names) := hcol
  have HB : Hid (Below Y.heap.size Y V1) := HB.out.trans (hb1.mono HB.out.size)
  clear hcol hb1
  go_wp2_with fail
  refine hK.out _ _ (HALL.out _ HB.out) (fun hHeld => ?_)
  clear hK K
  try simp only [Act.put, List.setIfInBounds_toArray, List.set_cons_zero, List.set_cons_succ]
  refine wpAnyH_ready (rs := [3]) (by kernel_rfl) (by simp) ?_
  refine AllReadyH.cons (o := { dst := some 11, op := Op.call { callee := Callee.value (Operand.func 13), args := #[Operand.tmp 9, Operand.tmp 10], argTypes := #[47, 24] }, type := 45, pos := "trace.go:12", after := #[{ on := 1, ground := Ground.data }, { on := 2, ground := Ground.data }, { on := 1, ground := Ground.chain }], guard := none }) rfl (fun K hK => ?_) AllReadyH.nil
  go_simp
  refine Calls.mono (HW.out _ b HB.out HCOL.out) ?_
  rintro e V2 ⟨pa, pc, rfl, hw2, hb2, _⟩
  have HWT : Hid (WtRow V2 pa ws) := hw2
  have HB : Hid (Below Y.heap.size Y V2) := HB.out.trans (hb2.mono HB.out.size)
  clear hw2 hb2
  go_wp2_with fail
  refine hK.out _ _ (HALL.out _ HB.out) (fun hHeld => ?_)
  clear hK K
  try simp only [Act.put, List.setIfInBounds_toArray, List.set_cons_zero, List.set_cons_succ]
  refine wpAnyH_ready (rs := [5]) (by kernel_rfl) (by simp) ?_
  refine AllReadyH.cons (o := { dst := some 13, op := Op.call { callee := Callee.value (Operand.func 11), args := #[Operand.tmp 11, Operand.tmp 12], argTypes := #[45, 26] }, type := 32, pos := "trace.go:12", after := #[{ on := 3, ground := Ground.data }, { on := 4, ground := Ground.data }, { on := 3, ground := Ground.chain }], guard := none }) rfl (fun K hK => ?_) AllReadyH.nil
  go_simp
  refine Calls.mono (HJ.out _ pa pc HB.out HWT.out) ?_
  rintro e V3 ⟨rfl, hb3⟩
  have HB : Hid (Below Y.heap.size Y V3) := HB.out.trans (hb3.mono HB.out.size)
  clear hb3
  go_wp2_with fail
  refine hK.out _ _ (HALL.out _ HB.out) (fun hHeld => ?_)
  clear hK K
  try simp only [Act.put, List.setIfInBounds_toArray, List.set_cons_zero, List.set_cons_succ]
  refine wpAnyH_take (i := 6) (oi := { dst := some 14, op := Op.extract (Operand.tmp 13) 0, type := 4, pos := "trace.go:12", after := #[{ on := 5, ground := Ground.data }], guard := none }) (v := ?_) rfl (by kernel_rfl) (by kernel_rfl) (by kernel_rfl) (fun _ _ _ h => h) (Or.inl ⟨by rfl, ?_⟩) hHeld ?_
  rotate_left
  · (intro w hSw; (try dsimp only at hSw); go_simp; all_goals (try with_reducible rfl))
  try simp only [Act.put, List.setIfInBounds_toArray, List.set_cons_zero, List.set_cons_succ]
  refine wpAnyH_take (i := 7) (oi := { dst := some 15, op := Op.extract (Operand.tmp 13) 1, type := 4, pos := "trace.go:12", after := #[{ on := 5, ground := Ground.data }], guard := none }) (v := ?_) rfl (by kernel_rfl) (by kernel_rfl) (by kernel_rfl) (fun _ _ _ h => h) (Or.inl ⟨by rfl, ?_⟩) hHeld ?_
  rotate_left
  · (intro w hSw; (try dsimp only at hSw); go_simp; all_goals (try with_reducible rfl))
  try simp only [Act.put, List.setIfInBounds_toArray, List.set_cons_zero, List.set_cons_succ]
  refine wpAnyH_take (i := 8) (oi := { dst := some 6, op := Op.assign (Operand.tmp 14), type := 4, pos := "trace.go:12", after := #[{ on := 6, ground := Ground.data }, { on := 5, ground := Ground.chain }, { on := 0, ground := Ground.phase }, { on := 1, ground := Ground.phase }, { on := 2, ground := Ground.phase }, { on := 3, ground := Ground.phase }, { on := 4, ground := Ground.phase }, { on := 5, ground := Ground.phase }, { on := 6, ground := Ground.phase }, { on := 7, ground := Ground.phase }], guard := none }) (v := ?_) rfl (by kernel_rfl) (by kernel_rfl) (by kernel_rfl) (fun _ _ _ h => h) (Or.inl ⟨by rfl, ?_⟩) hHeld ?_
  rotate_left
  · (intro w hSw; (try dsimp only at hSw); go_simp; all_goals (try with_reducible rfl))
  try simp only [Act.put, List.setIfInBounds_toArray, List.set_cons_zero, List.set_cons_succ]
  refine wpAnyH_take (i := 9) (oi := { dst := some 7, op := Op.assign (Operand.tmp 15), type := 4, pos := "trace.go:12", after := #[{ on := 7, ground := Ground.data }, { on := 8, ground := Ground.chain }, { on := 0, ground := Ground.phase }, { on := 1, ground := Ground.phase }, { on := 2, ground := Ground.phase }, { on := 3, ground := Ground.phase }, { on := 4, ground := Ground.phase }, { on := 5, ground := Ground.phase }, { on := 6, ground := Ground.phase }, { on := 7, ground := Ground.phase }, { on := 8, ground := Ground.phase }], guard := none }) (v := ?_) rfl (by kernel_rfl) (by kernel_rfl) (by kernel_rfl) (fun _ _ _ h => h) (Or.inl ⟨by rfl, ?_⟩) hHeld ?_
  rotate_left
  · (intro w hSw; (try dsimp only at hSw); go_simp; all_goals (try with_reducible rfl))
  try simp only [Act.put, List.setIfInBounds_toArray, List.set_cons_zero, List.set_cons_succ]
  refine wpAnyH_done (by kernel_rfl) ?_ _
  clear hHeld
  go_wp2
  exact bodyPost_ret (v := .tuple #[.bool bh, .bool bo]) (by simp [results, Try.results7, go_sem]) rfl ⟨rfl, HB0.out _ HB.out⟩
end Go.Proofs.Ytipbjoeekbgnbaa
