/- SpanLattice: the law's walk. Conditions: none but the numbers' own ranges. -/
import Derived.Test.YthnhlgiibiephabSpLatT1
import Derived.Test.YthnhlgiibiephabSpLatT2
import Derived.Test.YthnhlgiibiephabSpLatT3
namespace Go.Proofs.Ythnhlgiibiephab
open Go.RowKit
set_option linter.unusedVariables false
set_option maxRecDepth 100000

set_option maxHeartbeats 16000000 in
theorem lat_f_f (a b c d e f n : Int) (w : World) (bs : B64 a ∧ B64 b ∧ B64 c ∧ B64 d ∧ B64 e ∧ B64 f) (hp1 : inB a b e f = false) (hq1 : inB e f a b = false) :
    Calls Try.prog 7 #[(.agg #[.int .i64 a, .int .i64 b]), (.agg #[.int .i64 c, .int .i64 d]), (.agg #[.int .i64 e, .int .i64 f]), .int .i64 n] w fun e w' => e = .returned (.bool true) ∧ Below w.heap.size w w' := by
  obtain ⟨j1, hj1⟩ : ∃ z, jnLo a b c d = z := ⟨_, rfl⟩
  obtain ⟨j2, hj2⟩ : ∃ z, jnHi a b c d = z := ⟨_, rfl⟩
  obtain ⟨m1, hm1⟩ : ∃ z, mtLo a b c d = z := ⟨_, rfl⟩
  obtain ⟨m2, hm2⟩ : ∃ z, mtHi a b c d = z := ⟨_, rfl⟩
  have J1 : Hid (jnLo a b c d = j1) := hj1
  have J2 : Hid (jnHi a b c d = j2) := hj2
  have M1 : Hid (mtLo a b c d = m1) := hm1
  have M2 : Hid (mtHi a b c d = m2) := hm2
  have I1 : Hid (inB a b j1 j2 = true) := by rw [← hj1, ← hj2]; exact in_join1 a b c d
  have I2 : Hid (inB c d j1 j2 = true) := by rw [← hj1, ← hj2]; exact in_join2 a b c d
  have I3 : Hid (inB m1 m2 a b = true) := by rw [← hm1, ← hm2]; exact in_meet1 a b c d
  have I4 : Hid (inB m1 m2 c d = true) := by rw [← hm1, ← hm2]; exact in_meet2 a b c d
  have I5 : Hid (inB a b e f = true → inB c d e f = true → inB j1 j2 e f = true) := by rw [← hj1, ← hj2]; exact in_least
  have I6 : Hid (inB e f a b = true → inB e f c d = true → inB e f m1 m2 = true) := by rw [← hm1, ← hm2]; exact in_greatest
  have I7 : Hid (∀ n, (m1 ≤ n ∧ n ≤ m2) ↔ ((a ≤ n ∧ n ≤ b) ∧ (c ≤ n ∧ n ≤ d))) := by rw [← hm1, ← hm2]; exact has_meetP a b c d
  have HB : Hid (B64 a ∧ B64 b ∧ B64 c ∧ B64 d ∧ B64 e ∧ B64 f) := bs
  have Hhp1 : Hid (inB a b e f = false) := hp1
  clear hp1
  have Hhq1 : Hid (inB e f a b = false) := hq1
  clear hq1
  clear hj1 hj2 hm1 hm2 bs
  obtain ⟨W0, hW0⟩ : ∃ Z, (((w.alloc (.cells #[.int .i64 a, .int .i64 b] 23)).alloc (.cells #[.int .i64 c, .int .i64 d] 23)).alloc (.cells #[.int .i64 e, .int .i64 f] 23)) = Z := ⟨_, rfl⟩
  have HW0 : Hid ((((w.alloc (.cells #[.int .i64 a, .int .i64 b] 23)).alloc (.cells #[.int .i64 c, .int .i64 d] 23)).alloc (.cells #[.int .i64 e, .int .i64 f] 23)) = W0) := hW0
  have HB0 : Hid (Below w.heap.size w W0) := by rw [← hW0]; exact ((((Below.refl _ w).alloc (Nat.le_refl _) _).alloc (by simp) _).alloc (by simp; omega) _)
  have HK : Hid (∀ W', Below W0.heap.size W0 W' → W'.cell? ⟨w.heap.size, 0, none⟩ = some (.int .i64 a) ∧ W'.cell? ⟨w.heap.size, 1, none⟩ = some (.int .i64 b) ∧ W'.cell? ⟨w.heap.size + 1, 0, none⟩ = some (.int .i64 c) ∧ W'.cell? ⟨w.heap.size + 1, 1, none⟩ = some (.int .i64 d) ∧ W'.cell? ⟨w.heap.size + 1 + 1, 0, none⟩ = some (.int .i64 e) ∧ W'.cell? ⟨w.heap.size + 1 + 1, 1, none⟩ = some (.int .i64 f)) := fun W' kk => by
    rw [← hW0] at kk
    exact ⟨cell_later kk (by simp [go_sem]), cell_later kk (by simp [go_sem]), cell_later kk (by simp [go_sem]), cell_later kk (by simp [go_sem]), cell_later kk (by simp [go_sem]), cell_later kk (by simp [go_sem])⟩
  have m0 : Below W0.heap.size W0 W0.drew := (Below.refl _ W0).drew
  clear hW0
  go_enter Try.func7, Try.ntmps7
  go_wp2_with fail
  rw [HW0.out]
  refine wp_region_held_drew (S := fun W' => W'.cell? ⟨w.heap.size, 0, none⟩ = some (.int .i64 a) ∧ W'.cell? ⟨w.heap.size, 1, none⟩ = some (.int .i64 b) ∧ W'.cell? ⟨w.heap.size + 1, 0, none⟩ = some (.int .i64 c) ∧ W'.cell? ⟨w.heap.size + 1, 1, none⟩ = some (.int .i64 d) ∧ W'.cell? ⟨w.heap.size + 1 + 1, 0, none⟩ = some (.int .i64 e) ∧ W'.cell? ⟨w.heap.size + 1 + 1, 1, none⟩ = some (.int .i64 f)) (by kernel_rfl) (HK.out _ m0) (fun hHeld => ?_)
  refine wpAnyH_take (i := 0) (oi := { dst := some 11, op := Op.load 23 (Operand.tmp 4), type := 23, pos := "outright.go:43", after := #[], guard := none }) (v := ?_) rfl (by kernel_rfl) (by kernel_rfl) (by kernel_rfl) (fun _ _ _ h => h) (Or.inl ⟨by rfl, ?_⟩) hHeld ?_
  rotate_left
  · (intro w hSw; (try dsimp only at hSw); go_simp; all_goals (try with_reducible rfl))
  try simp only [Act.put, List.setIfInBounds_toArray, List.set_cons_zero, List.set_cons_succ]
  refine wpAnyH_take (i := 1) (oi := { dst := some 12, op := Op.load 23 (Operand.tmp 5), type := 23, pos := "outright.go:43", after := #[], guard := none }) (v := ?_) rfl (by kernel_rfl) (by kernel_rfl) (by kernel_rfl) (fun _ _ _ h => h) (Or.inl ⟨by rfl, ?_⟩) hHeld ?_
  rotate_left
  · (intro w hSw; (try dsimp only at hSw); go_simp; all_goals (try with_reducible rfl))
  try simp only [Act.put, List.setIfInBounds_toArray, List.set_cons_zero, List.set_cons_succ]
  refine wpAnyH_take (i := 4) (oi := { dst := some 15, op := Op.load 23 (Operand.tmp 4), type := 23, pos := "outright.go:43", after := #[], guard := none }) (v := ?_) rfl (by kernel_rfl) (by kernel_rfl) (by kernel_rfl) (fun _ _ _ h => h) (Or.inl ⟨by rfl, ?_⟩) hHeld ?_
  rotate_left
  · (intro w hSw; (try dsimp only at hSw); go_simp; all_goals (try with_reducible rfl))
  try simp only [Act.put, List.setIfInBounds_toArray, List.set_cons_zero, List.set_cons_succ]
  refine wpAnyH_take (i := 5) (oi := { dst := some 16, op := Op.load 23 (Operand.tmp 5), type := 23, pos := "outright.go:43", after := #[], guard := none }) (v := ?_) rfl (by kernel_rfl) (by kernel_rfl) (by kernel_rfl) (fun _ _ _ h => h) (Or.inl ⟨by rfl, ?_⟩) hHeld ?_
  rotate_left
  · (intro w hSw; (try dsimp only at hSw); go_simp; all_goals (try with_reducible rfl))
  try simp only [Act.put, List.setIfInBounds_toArray, List.set_cons_zero, List.set_cons_succ]
  refine inv_any (fun l act W => ∃ f2 f3 f6 f7 f8 f9 f10 f11 : Bool, ∃ r2 r6 g8 g9 : Nat, l = #[true, true, f2, f3, true, true, f6, f7, f8, f9, f10, f11] ∧ act = { tmps := #[Value.agg #[Value.int IntKind.i64 a, Value.int IntKind.i64 b], Value.agg #[Value.int IntKind.i64 c, Value.int IntKind.i64 d], Value.agg #[Value.int IntKind.i64 e, Value.int IntKind.i64 f], Value.int IntKind.i64 n, Value.pointer (some { block := w.heap.size, off := 0 }), Value.pointer (some { block := w.heap.size + 1, off := 0 }), Value.pointer (some { block := w.heap.size + 1 + 1, off := 0 }), undef, Value.bool false, sel f8 (Value.pointer (some ⟨g8, 0, none⟩)), sel f9 (Value.pointer (some ⟨g9, 0, none⟩)), Value.agg #[Value.int IntKind.i64 a, Value.int IntKind.i64 b], Value.agg #[Value.int IntKind.i64 c, Value.int IntKind.i64 d], sel f2 (Value.slice (some ⟨r2, 0, none⟩) 2 2), sel f3 (Value.agg #[.int .i64 j1, .int .i64 j2]), Value.agg #[Value.int IntKind.i64 a, Value.int IntKind.i64 b], Value.agg #[Value.int IntKind.i64 c, Value.int IntKind.i64 d], sel f6 (Value.slice (some ⟨r6, 0, none⟩) 2 2), sel f7 (Value.agg #[.int .i64 m1, .int .i64 m2]), undef, undef, undef, undef, undef, undef, undef, undef, undef, undef, undef, undef, undef, undef, undef, undef, undef, undef, undef, undef, undef, undef, undef, undef, undef, undef, undef, undef, undef, undef, undef, undef, undef, undef, undef, undef, undef, undef, undef, undef, undef, undef, undef, undef, undef, undef, undef, undef, undef, undef, undef, undef, undef, undef, undef, undef, undef, undef, undef, undef, undef, undef, undef, undef, undef, undef, undef, undef, undef, undef, undef, undef, undef, undef, undef, undef, undef, undef, undef, undef, undef, undef, undef, undef, undef, undef, undef, undef, undef, undef, undef, undef, undef, undef, undef, undef, undef, undef, undef, undef, undef, undef, undef, undef, undef, undef, undef, undef], defers := [] } ∧ Below W0.heap.size W0 W ∧ (f3 = false → f2 = true → SpanRow W (some ⟨r2, 0, none⟩) [(a, b), (c, d)]) ∧ (f7 = false → f6 = true → SpanRow W (some ⟨r6, 0, none⟩) [(a, b), (c, d)]) ∧ (f8 = true → Loc (W0.heap.size) W g8 f10 j1 j2) ∧ (f9 = true → Loc (W0.heap.size) W g9 f11 m1 m2) ∧ (f8 = true → f9 = true → g8 ≠ g9) ∧ (f8 = false → f10 = false) ∧ (f9 = false → f11 = false)) (by kernel_rfl) ?_ ?_ ?_ _ _ _ _ (by decide) (by decide) ?_
  · rintro l act W ⟨f2, f3, f6, f7, f8, f9, f10, f11, r2, r6, g8, g9, rfl, rfl, hm, hr2, hr6, hg8, hg9, hn8_9, hs8, hs9⟩
    exact HK.out _ hm
  · rintro l act W ⟨f2, f3, f6, f7, f8, f9, f10, f11, r2, r6, g8, g9, rfl, rfl, hm, hr2, hr6, hg8, hg9, hn8_9, hs8, hs9⟩ i o hi ho K' hK
    have hlt' : i < 12 := ready_lt hi
    have hcase : i = 0 ∨ i = 1 ∨ i = 2 ∨ i = 3 ∨ i = 4 ∨ i = 5 ∨ i = 6 ∨ i = 7 ∨ i = 8 ∨ i = 9 ∨ i = 10 ∨ i = 11 := by omega
    clear hlt'
    have hz := hm.size
    rcases hcase with rfl | rfl | rfl | rfl | rfl | rfl | rfl | rfl | rfl | rfl | rfl | rfl
    · exact absurd (show true = false from (ready_dep hi ho).1) (by decide)
    · exact absurd (show true = false from (ready_dep hi ho).1) (by decide)
    · obtain rfl : o = ({ dst := some 13, op := Op.buildSlice 50 2 #[(0, Operand.tmp 11), (1, Operand.tmp 12)], type := 50, pos := "outright.go:43", after := #[{ on := 0, ground := Ground.data }, { on := 1, ground := Ground.data }], guard := none } : Oper) := (Option.some.inj ho).symm
      obtain ⟨hf, hd⟩ := ready_dep hi ho
      have ef : f2 = false := hf
      subst ef 
      clear hf hd hi ho
      simp only [sel_false]
      go_simp
      have hb : Below W.heap.size W (W.alloc (.cells #[.int .i64 a, .int .i64 b, .int .i64 c, .int .i64 d] 23)) := (Below.refl _ W).alloc (Nat.le_refl _) _
      refine hK.out _ _ ⟨true, f3, f6, f7, f8, f9, f10, f11, W.heap.size, r6, g8, g9, rfl, rfl, hm.trans (hb.mono hz), fun _ _ => row_two W a b c d _ rfl, fun h1 h2 => (hr6 h1 h2).stays hb (Nat.le_refl _), fun h => (hg8 h).below hb, fun h => (hg9 h).below hb, hn8_9, hs8, hs9⟩
    · obtain rfl : o = ({ dst := some 14, op := Op.call { callee := Callee.value (Operand.func 22), args := #[Operand.tmp 13], argTypes := #[50] }, type := 23, pos := "outright.go:43", after := #[{ on := 2, ground := Ground.data }], guard := none } : Oper) := (Option.some.inj ho).symm
      obtain ⟨hf, hd⟩ := ready_dep hi ho
      have ef : f3 = false := hf
      have e2 : f2 = true := hd 2 (by decide)
      subst ef e2
      clear hf hd hi ho
      have q2 := hr2 rfl rfl
      simp only [sel_true, sel_false]
      go_simp
      refine Calls.mono (join_at2 _ _ a b c d j1 j2 J1.out J2.out q2) ?_
      rintro e W' ⟨rfl, hb⟩
      go_wp2_with fail
      refine hK.out _ _ ⟨true, true, f6, f7, f8, f9, f10, f11, r2, r6, g8, g9, rfl, rfl, hm.trans (hb.mono hz), fun h => by (cases h), fun h1 h2 => (hr6 h1 h2).stays hb (Nat.le_refl _), fun h => (hg8 h).below hb, fun h => (hg9 h).below hb, hn8_9, hs8, hs9⟩
    · exact absurd (show true = false from (ready_dep hi ho).1) (by decide)
    · exact absurd (show true = false from (ready_dep hi ho).1) (by decide)
    · obtain rfl : o = ({ dst := some 17, op := Op.buildSlice 50 2 #[(0, Operand.tmp 15), (1, Operand.tmp 16)], type := 50, pos := "outright.go:43", after := #[{ on := 4, ground := Ground.data }, { on := 5, ground := Ground.data }], guard := none } : Oper) := (Option.some.inj ho).symm
      obtain ⟨hf, hd⟩ := ready_dep hi ho
      have ef : f6 = false := hf
      subst ef 
      clear hf hd hi ho
      simp only [sel_false]
      go_simp
      have hb : Below W.heap.size W (W.alloc (.cells #[.int .i64 a, .int .i64 b, .int .i64 c, .int .i64 d] 23)) := (Below.refl _ W).alloc (Nat.le_refl _) _
      refine hK.out _ _ ⟨f2, f3, true, f7, f8, f9, f10, f11, r2, W.heap.size, g8, g9, rfl, rfl, hm.trans (hb.mono hz), fun h1 h2 => (hr2 h1 h2).stays hb (Nat.le_refl _), fun _ _ => row_two W a b c d _ rfl, fun h => (hg8 h).below hb, fun h => (hg9 h).below hb, hn8_9, hs8, hs9⟩
    · obtain rfl : o = ({ dst := some 18, op := Op.call { callee := Callee.value (Operand.func 23), args := #[Operand.tmp 17], argTypes := #[50] }, type := 23, pos := "outright.go:43", after := #[{ on := 6, ground := Ground.data }, { on := 3, ground := Ground.chain }], guard := none } : Oper) := (Option.some.inj ho).symm
      obtain ⟨hf, hd⟩ := ready_dep hi ho
      have ef : f7 = false := hf
      have e3 : f3 = true := hd 3 (by decide)
      have e6 : f6 = true := hd 6 (by decide)
      subst ef e3 e6
      clear hf hd hi ho
      have q6 := hr6 rfl rfl
      simp only [sel_true, sel_false]
      go_simp
      refine Calls.mono (meet_at2 _ _ a b c d m1 m2 HB.out.1 HB.out.2.1 HB.out.2.2.1 HB.out.2.2.2.1 M1.out M2.out q6) ?_
      rintro e W' ⟨rfl, hb⟩
      go_wp2_with fail
      refine hK.out _ _ ⟨f2, true, true, true, f8, f9, f10, f11, r2, r6, g8, g9, rfl, rfl, hm.trans (hb.mono hz), fun h => by (cases h), fun h => by (cases h), fun h => (hg8 h).below hb, fun h => (hg9 h).below hb, hn8_9, hs8, hs9⟩
    · obtain rfl : o = ({ dst := some 9, op := Op.alloc 23, type := 0, pos := "outright.go:43", after := #[], guard := none } : Oper) := (Option.some.inj ho).symm
      obtain ⟨hf, hd⟩ := ready_dep hi ho
      have ef : f8 = false := hf
      subst ef 
      clear hf hd hi ho
      have es : f10 = false := hs8 rfl
      subst es
      simp only [sel_false]
      go_simp
      have hb : Below W.heap.size W (W.alloc (.cells #[.int .i64 0, .int .i64 0] 23)) := (Below.refl _ W).alloc (Nat.le_refl _) _
      have FR := Loc.fresh (W0.heap.size) W j1 j2 (by omega)
      refine hK.out _ _ ⟨f2, f3, f6, f7, true, f9, false, f11, r2, r6, W.heap.size, g9, rfl, rfl, hm.trans (hb.mono hz), fun h1 h2 => (hr2 h1 h2).stays hb (Nat.le_refl _), fun h1 h2 => (hr6 h1 h2).stays hb (Nat.le_refl _), fun _ => FR, fun h => (hg9 h).below hb, fun _ h => by (have := (hg9 h).lt; omega), fun h => by (cases h), hs9⟩
    · obtain rfl : o = ({ dst := some 10, op := Op.alloc 23, type := 0, pos := "outright.go:43", after := #[], guard := none } : Oper) := (Option.some.inj ho).symm
      obtain ⟨hf, hd⟩ := ready_dep hi ho
      have ef : f9 = false := hf
      subst ef 
      clear hf hd hi ho
      have es : f11 = false := hs9 rfl
      subst es
      simp only [sel_false]
      go_simp
      have hb : Below W.heap.size W (W.alloc (.cells #[.int .i64 0, .int .i64 0] 23)) := (Below.refl _ W).alloc (Nat.le_refl _) _
      have FR := Loc.fresh (W0.heap.size) W m1 m2 (by omega)
      refine hK.out _ _ ⟨f2, f3, f6, f7, f8, true, f10, false, r2, r6, g8, W.heap.size, rfl, rfl, hm.trans (hb.mono hz), fun h1 h2 => (hr2 h1 h2).stays hb (Nat.le_refl _), fun h1 h2 => (hr6 h1 h2).stays hb (Nat.le_refl _), fun h => (hg8 h).below hb, fun _ => FR, fun h _ => by (have := (hg8 h).lt; omega), hs8, fun h => by (cases h)⟩
    · obtain rfl : o = ({ dst := none, op := Op.store 23 (Operand.tmp 9) (Operand.tmp 14), type := 0, pos := "outright.go:43", after := #[{ on := 8, ground := Ground.data }, { on := 3, ground := Ground.data }, { on := 7, ground := Ground.chain }, { on := 0, ground := Ground.phase }, { on := 1, ground := Ground.phase }, { on := 2, ground := Ground.phase }, { on := 3, ground := Ground.phase }, { on := 4, ground := Ground.textOnly Departure.lateStores }, { on := 5, ground := Ground.textOnly Departure.lateStores }, { on := 6, ground := Ground.textOnly Departure.lateStores }, { on := 7, ground := Ground.textOnly Departure.lateStoresUnsure }, { on := 8, ground := Ground.phase }, { on := 9, ground := Ground.phase }], guard := none } : Oper) := (Option.some.inj ho).symm
      obtain ⟨hf, hd⟩ := ready_dep hi ho
      have ef : f10 = false := hf
      have e2 : f2 = true := hd 2 (by decide)
      have e3 : f3 = true := hd 3 (by decide)
      have e7 : f7 = true := hd 7 (by decide)
      have e8 : f8 = true := hd 8 (by decide)
      have e9 : f9 = true := hd 9 (by decide)
      subst ef e2 e3 e7 e8 e9
      clear hf hd hi ho
      have L1 := hg8 rfl
      have c0 := L1.c0
      have c1 := L1.c1
      have q0 := L1.f0
      have q1 := L1.f1
      simp only [Bool.false_eq_true, if_false] at c0 c1
      have hnew := L1.new
      simp only [sel_true]
      go_simp
      refine hK.out _ _ ⟨true, true, f6, true, true, true, true, f11, r2, r6, g8, g9, rfl, rfl, below_set (below_set hm g8 0 _ (by omega)) g8 1 _ (by omega), fun h => by (cases h), fun h => by (cases h), fun _ => L1.store, fun h => (hg9 h).other (Ne.symm (hn8_9 rfl h)) _ _, hn8_9, fun h => by (cases h), fun h => by (cases h)⟩
    · obtain rfl : o = ({ dst := none, op := Op.store 23 (Operand.tmp 10) (Operand.tmp 18), type := 0, pos := "outright.go:43", after := #[{ on := 9, ground := Ground.data }, { on := 7, ground := Ground.data }, { on := 10, ground := Ground.chain }, { on := 0, ground := Ground.phase }, { on := 1, ground := Ground.phase }, { on := 2, ground := Ground.phase }, { on := 3, ground := Ground.phase }, { on := 4, ground := Ground.phase }, { on := 5, ground := Ground.phase }, { on := 6, ground := Ground.phase }, { on := 7, ground := Ground.phase }, { on := 8, ground := Ground.phase }, { on := 9, ground := Ground.phase }, { on := 10, ground := Ground.phase }], guard := none } : Oper) := (Option.some.inj ho).symm
      obtain ⟨hf, hd⟩ := ready_dep hi ho
      have ef : f11 = false := hf
      have e2 : f2 = true := hd 2 (by decide)
      have e3 : f3 = true := hd 3 (by decide)
      have e6 : f6 = true := hd 6 (by decide)
      have e7 : f7 = true := hd 7 (by decide)
      have e8 : f8 = true := hd 8 (by decide)
      have e9 : f9 = true := hd 9 (by decide)
      have e10 : f10 = true := hd 10 (by decide)
      subst ef e2 e3 e6 e7 e8 e9 e10
      clear hf hd hi ho
      have L1 := hg9 rfl
      have c0 := L1.c0
      have c1 := L1.c1
      have q0 := L1.f0
      have q1 := L1.f1
      simp only [Bool.false_eq_true, if_false] at c0 c1
      have hnew := L1.new
      simp only [sel_true]
      go_simp
      refine hK.out _ _ ⟨true, true, true, true, true, true, true, true, r2, r6, g8, g9, rfl, rfl, below_set (below_set hm g9 0 _ (by omega)) g9 1 _ (by omega), fun h => by (cases h), fun h => by (cases h), fun h => (hg8 h).other (hn8_9 h rfl) _ _, fun _ => L1.store, hn8_9, fun h => by (cases h), fun h => by (cases h)⟩
  · rintro l act W ⟨f2, f3, f6, f7, f8, f9, f10, f11, r2, r6, g8, g9, rfl, rfl, hm, hr2, hr6, hg8, hg9, hn8_9, hs8, hs9⟩ hall
    have e2 : f2 = true := hall 2 (by decide)
    have e3 : f3 = true := hall 3 (by decide)
    have e6 : f6 = true := hall 6 (by decide)
    have e7 : f7 = true := hall 7 (by decide)
    have e8 : f8 = true := hall 8 (by decide)
    have e9 : f9 = true := hall 9 (by decide)
    have e10 : f10 = true := hall 10 (by decide)
    have e11 : f11 = true := hall 11 (by decide)
    subst e2 e3 e6 e7 e8 e9 e10 e11
    clear hall
    simp only [sel_true]
    have L8 := hg8 rfl
    have L9 := hg9 rfl
    have c8a := L8.c0
    have c8b := L8.c1
    have c9a := L9.c0
    have c9b := L9.c1
    simp only [if_true] at c8a c8b c9a c9b
    have HKr : Hid (∀ W', Below W.heap.size W W' → W'.cell? ⟨w.heap.size, 0, none⟩ = some (.int .i64 a) ∧ W'.cell? ⟨w.heap.size, 1, none⟩ = some (.int .i64 b) ∧ W'.cell? ⟨w.heap.size + 1, 0, none⟩ = some (.int .i64 c) ∧ W'.cell? ⟨w.heap.size + 1, 1, none⟩ = some (.int .i64 d) ∧ W'.cell? ⟨w.heap.size + 1 + 1, 0, none⟩ = some (.int .i64 e) ∧ W'.cell? ⟨w.heap.size + 1 + 1, 1, none⟩ = some (.int .i64 f) ∧ W'.cell? ⟨g9, 0, none⟩ = some (.int .i64 m1) ∧ W'.cell? ⟨g9, 1, none⟩ = some (.int .i64 m2) ∧ W'.cell? ⟨g8, 0, none⟩ = some (.int .i64 j1) ∧ W'.cell? ⟨g8, 1, none⟩ = some (.int .i64 j2)) := fun W' kk => by
      obtain ⟨x1, x2, x3, x4, x5, x6⟩ := HK.out _ hm
      exact ⟨cell_later kk x1, cell_later kk x2, cell_later kk x3, cell_later kk x4, cell_later kk x5, cell_later kk x6, cell_later kk c9a, cell_later kk c9b, cell_later kk c8a, cell_later kk c8b⟩
    have HBW : Hid (Below w.heap.size w W) := HB0.out.trans (hm.mono HB0.out.size)
    have kb0 := Below.refl W.heap.size W
    clear hr2 hr6 hg8 hg9 hn8_9 hs8 hs9 L8 L9 c8a c8b c9a c9b hm HW0 hHeld HK J1 J2 M1 M2 m0
    obtain ⟨x1, x2, x3, x4, x5, x6, x7, x8, x9, x10⟩ := HKr.out _ kb0
    go_wp2_with fail
    refine Calls.mono (sin_any a b j1 j2 true _ I1.out) ?_
    clear x1 x2 x3 x4 x5 x6 x7 x8 x9 x10
    rintro e V0 ⟨rfl, hb⟩
    have kb1 := kb0.trans (hb.mono kb0.size)
    clear hb
    obtain ⟨x1, x2, x3, x4, x5, x6, x7, x8, x9, x10⟩ := HKr.out _ kb1
    go_wp2_with fail
    refine Calls.mono (sin_any c d j1 j2 true _ I2.out) ?_
    clear x1 x2 x3 x4 x5 x6 x7 x8 x9 x10
    rintro e V1 ⟨rfl, hb⟩
    have kb2 := kb1.trans (hb.mono kb1.size)
    clear hb
    obtain ⟨x1, x2, x3, x4, x5, x6, x7, x8, x9, x10⟩ := HKr.out _ kb2
    go_wp2_with fail
    refine Calls.mono (sin_any m1 m2 a b true _ I3.out) ?_
    clear x1 x2 x3 x4 x5 x6 x7 x8 x9 x10
    rintro e V2 ⟨rfl, hb⟩
    have kb3 := kb2.trans (hb.mono kb2.size)
    clear hb
    obtain ⟨x1, x2, x3, x4, x5, x6, x7, x8, x9, x10⟩ := HKr.out _ kb3
    go_wp2_with fail
    refine Calls.mono (sin_any m1 m2 c d true _ I4.out) ?_
    clear x1 x2 x3 x4 x5 x6 x7 x8 x9 x10
    rintro e V3 ⟨rfl, hb⟩
    have kb4 := kb3.trans (hb.mono kb3.size)
    clear hb
    obtain ⟨x1, x2, x3, x4, x5, x6, x7, x8, x9, x10⟩ := HKr.out _ kb4
    go_wp2_with fail
    refine Calls.mono (sin_any a b e f false _ Hhp1.out) ?_
    clear x1 x2 x3 x4 x5 x6 x7 x8 x9 x10
    rintro e V4 ⟨rfl, hb⟩
    have kb5 := kb4.trans (hb.mono kb4.size)
    clear hb
    obtain ⟨x1, x2, x3, x4, x5, x6, x7, x8, x9, x10⟩ := HKr.out _ kb5
    go_wp2_with fail
    refine Calls.mono (sin_any e f a b false _ Hhq1.out) ?_
    clear x1 x2 x3 x4 x5 x6 x7 x8 x9 x10
    rintro e V5 ⟨rfl, hb⟩
    have kb6 := kb5.trans (hb.mono kb5.size)
    clear hb
    obtain ⟨x1, x2, x3, x4, x5, x6, x7, x8, x9, x10⟩ := HKr.out _ kb6
    have HBV : Hid (Below w.heap.size w V5) := HBW.out.trans (kb6.mono HBW.out.size)
    have HS : ∀ W' : World, W' = V5 → W'.cell? ⟨w.heap.size, 0, none⟩ = some (.int .i64 a) ∧ W'.cell? ⟨w.heap.size, 1, none⟩ = some (.int .i64 b) ∧ W'.cell? ⟨w.heap.size + 1, 0, none⟩ = some (.int .i64 c) ∧ W'.cell? ⟨w.heap.size + 1, 1, none⟩ = some (.int .i64 d) ∧ W'.cell? ⟨w.heap.size + 1 + 1, 0, none⟩ = some (.int .i64 e) ∧ W'.cell? ⟨w.heap.size + 1 + 1, 1, none⟩ = some (.int .i64 f) ∧ W'.cell? ⟨g9, 0, none⟩ = some (.int .i64 m1) ∧ W'.cell? ⟨g9, 1, none⟩ = some (.int .i64 m2) := fun W' hW => by rw [hW]; exact ⟨x1, x2, x3, x4, x5, x6, x7, x8⟩
    go_wp2_with fail
    have HI7 := I7.out n
    by_cases hx : a ≤ n ∧ n ≤ b
    · by_cases hy : c ≤ n ∧ n ≤ d
      · refine lat_tail_tt a b c d e f n m1 m2 w _ _ _ _ _ _ _ _ _ _ _ _ _ _ _ _ _ _ _ _ _ _ _ _ _ _ _ _ _ _ _ _ _ _ _ _ _ _ _ _ _ _ _ _ _ _ _ _ _ _ _ _ _ _ _ _ _ _ _ _ _ _ _ _ _ _ HB.out (fun c a dd vv w h => by cases dd <;> exact h) HBV.out HS hx hy (HI7.2 ⟨hx, hy⟩) ?_
        intro X _ _ _ _ _ _ _ _ _ _ _ _ _ _ _ _ _ _ hX
        go_wp2
        go_ret
        exact ⟨rfl, hX⟩
      · refine lat_tail_tf a b c d e f n m1 m2 w _ _ _ _ _ _ _ _ _ _ _ _ _ _ _ _ _ _ _ _ _ _ _ _ _ _ _ _ _ _ _ _ _ _ _ _ _ _ _ _ _ _ _ _ _ _ _ _ _ _ _ _ _ _ _ _ _ _ _ _ _ _ _ _ _ _ HB.out (fun c a dd vv w h => by cases dd <;> exact h) HBV.out HS hx (by omega) (by omega) ?_
        intro X _ _ _ _ _ _ _ _ _ _ _ _ _ _ _ _ _ _ hX
        go_wp2
        go_ret
        exact ⟨rfl, hX⟩
    · refine lat_tail_f a b c d e f n m1 m2 w _ _ _ _ _ _ _ _ _ _ _ _ _ _ _ _ _ _ _ _ _ _ _ _ _ _ _ _ _ _ _ _ _ _ _ _ _ _ _ _ _ _ _ _ _ _ _ _ _ _ _ _ _ _ _ _ _ _ _ _ _ _ _ _ _ _ HB.out (fun c a dd vv w h => by cases dd <;> exact h) HBV.out HS (by omega) trivial (by omega) ?_
      intro X _ _ _ _ _ _ _ _ _ _ _ _ _ _ _ _ _ _ hX
      go_wp2
      go_ret
      exact ⟨rfl, hX⟩
  · exact ⟨false, false, false, false, false, false, false, false, 0, 0, 0, 0, by decide, rfl, m0, fun _ h => by (cases h), fun _ h => by (cases h), fun h => by (cases h), fun h => by (cases h), fun h => by (cases h), fun _ => rfl, fun _ => rfl⟩

set_option maxHeartbeats 16000000 in
theorem lat_f_tf (a b c d e f n : Int) (w : World) (bs : B64 a ∧ B64 b ∧ B64 c ∧ B64 d ∧ B64 e ∧ B64 f) (hp1 : inB a b e f = false) (hq1 : inB e f a b = true) (hq2 : inB e f c d = false) :
    Calls Try.prog 7 #[(.agg #[.int .i64 a, .int .i64 b]), (.agg #[.int .i64 c, .int .i64 d]), (.agg #[.int .i64 e, .int .i64 f]), .int .i64 n] w fun e w' => e = .returned (.bool true) ∧ Below w.heap.size w w' := by
  obtain ⟨j1, hj1⟩ : ∃ z, jnLo a b c d = z := ⟨_, rfl⟩
  obtain ⟨j2, hj2⟩ : ∃ z, jnHi a b c d = z := ⟨_, rfl⟩
  obtain ⟨m1, hm1⟩ : ∃ z, mtLo a b c d = z := ⟨_, rfl⟩
  obtain ⟨m2, hm2⟩ : ∃ z, mtHi a b c d = z := ⟨_, rfl⟩
  have J1 : Hid (jnLo a b c d = j1) := hj1
  have J2 : Hid (jnHi a b c d = j2) := hj2
  have M1 : Hid (mtLo a b c d = m1) := hm1
  have M2 : Hid (mtHi a b c d = m2) := hm2
  have I1 : Hid (inB a b j1 j2 = true) := by rw [← hj1, ← hj2]; exact in_join1 a b c d
  have I2 : Hid (inB c d j1 j2 = true) := by rw [← hj1, ← hj2]; exact in_join2 a b c d
  have I3 : Hid (inB m1 m2 a b = true) := by rw [← hm1, ← hm2]; exact in_meet1 a b c d
  have I4 : Hid (inB m1 m2 c d = true) := by rw [← hm1, ← hm2]; exact in_meet2 a b c d
  have I5 : Hid (inB a b e f = true → inB c d e f = true → inB j1 j2 e f = true) := by rw [← hj1, ← hj2]; exact in_least
  have I6 : Hid (inB e f a b = true → inB e f c d = true → inB e f m1 m2 = true) := by rw [← hm1, ← hm2]; exact in_greatest
  have I7 : Hid (∀ n, (m1 ≤ n ∧ n ≤ m2) ↔ ((a ≤ n ∧ n ≤ b) ∧ (c ≤ n ∧ n ≤ d))) := by rw [← hm1, ← hm2]; exact has_meetP a b c d
  have HB : Hid (B64 a ∧ B64 b ∧ B64 c ∧ B64 d ∧ B64 e ∧ B64 f) := bs
  have Hhp1 : Hid (inB a b e f = false) := hp1
  clear hp1
  have Hhq1 : Hid (inB e f a b = true) := hq1
  clear hq1
  have Hhq2 : Hid (inB e f c d = false) := hq2
  clear hq2
  clear hj1 hj2 hm1 hm2 bs
  obtain ⟨W0, hW0⟩ : ∃ Z, (((w.alloc (.cells #[.int .i64 a, .int .i64 b] 23)).alloc (.cells #[.int .i64 c, .int .i64 d] 23)).alloc (.cells #[.int .i64 e, .int .i64 f] 23)) = Z := ⟨_, rfl⟩
  have HW0 : Hid ((((w.alloc (.cells #[.int .i64 a, .int .i64 b] 23)).alloc (.cells #[.int .i64 c, .int .i64 d] 23)).alloc (.cells #[.int .i64 e, .int .i64 f] 23)) = W0) := hW0
  have HB0 : Hid (Below w.heap.size w W0) := by rw [← hW0]; exact ((((Below.refl _ w).alloc (Nat.le_refl _) _).alloc (by simp) _).alloc (by simp; omega) _)
  have HK : Hid (∀ W', Below W0.heap.size W0 W' → W'.cell? ⟨w.heap.size, 0, none⟩ = some (.int .i64 a) ∧ W'.cell? ⟨w.heap.size, 1, none⟩ = some (.int .i64 b) ∧ W'.cell? ⟨w.heap.size + 1, 0, none⟩ = some (.int .i64 c) ∧ W'.cell? ⟨w.heap.size + 1, 1, none⟩ = some (.int .i64 d) ∧ W'.cell? ⟨w.heap.size + 1 + 1, 0, none⟩ = some (.int .i64 e) ∧ W'.cell? ⟨w.heap.size + 1 + 1, 1, none⟩ = some (.int .i64 f)) := fun W' kk => by
    rw [← hW0] at kk
    exact ⟨cell_later kk (by simp [go_sem]), cell_later kk (by simp [go_sem]), cell_later kk (by simp [go_sem]), cell_later kk (by simp [go_sem]), cell_later kk (by simp [go_sem]), cell_later kk (by simp [go_sem])⟩
  have m0 : Below W0.heap.size W0 W0.drew := (Below.refl _ W0).drew
  clear hW0
  go_enter Try.func7, Try.ntmps7
  go_wp2_with fail
  rw [HW0.out]
  refine wp_region_held_drew (S := fun W' => W'.cell? ⟨w.heap.size, 0, none⟩ = some (.int .i64 a) ∧ W'.cell? ⟨w.heap.size, 1, none⟩ = some (.int .i64 b) ∧ W'.cell? ⟨w.heap.size + 1, 0, none⟩ = some (.int .i64 c) ∧ W'.cell? ⟨w.heap.size + 1, 1, none⟩ = some (.int .i64 d) ∧ W'.cell? ⟨w.heap.size + 1 + 1, 0, none⟩ = some (.int .i64 e) ∧ W'.cell? ⟨w.heap.size + 1 + 1, 1, none⟩ = some (.int .i64 f)) (by kernel_rfl) (HK.out _ m0) (fun hHeld => ?_)
  refine wpAnyH_take (i := 0) (oi := { dst := some 11, op := Op.load 23 (Operand.tmp 4), type := 23, pos := "outright.go:43", after := #[], guard := none }) (v := ?_) rfl (by kernel_rfl) (by kernel_rfl) (by kernel_rfl) (fun _ _ _ h => h) (Or.inl ⟨by rfl, ?_⟩) hHeld ?_
  rotate_left
  · (intro w hSw; (try dsimp only at hSw); go_simp; all_goals (try with_reducible rfl))
  try simp only [Act.put, List.setIfInBounds_toArray, List.set_cons_zero, List.set_cons_succ]
  refine wpAnyH_take (i := 1) (oi := { dst := some 12, op := Op.load 23 (Operand.tmp 5), type := 23, pos := "outright.go:43", after := #[], guard := none }) (v := ?_) rfl (by kernel_rfl) (by kernel_rfl) (by kernel_rfl) (fun _ _ _ h => h) (Or.inl ⟨by rfl, ?_⟩) hHeld ?_
  rotate_left
  · (intro w hSw; (try dsimp only at hSw); go_simp; all_goals (try with_reducible rfl))
  try simp only [Act.put, List.setIfInBounds_toArray, List.set_cons_zero, List.set_cons_succ]
  refine wpAnyH_take (i := 4) (oi := { dst := some 15, op := Op.load 23 (Operand.tmp 4), type := 23, pos := "outright.go:43", after := #[], guard := none }) (v := ?_) rfl (by kernel_rfl) (by kernel_rfl) (by kernel_rfl) (fun _ _ _ h => h) (Or.inl ⟨by rfl, ?_⟩) hHeld ?_
  rotate_left
  · (intro w hSw; (try dsimp only at hSw); go_simp; all_goals (try with_reducible rfl))
  try simp only [Act.put, List.setIfInBounds_toArray, List.set_cons_zero, List.set_cons_succ]
  refine wpAnyH_take (i := 5) (oi := { dst := some 16, op := Op.load 23 (Operand.tmp 5), type := 23, pos := "outright.go:43", after := #[], guard := none }) (v := ?_) rfl (by kernel_rfl) (by kernel_rfl) (by kernel_rfl) (fun _ _ _ h => h) (Or.inl ⟨by rfl, ?_⟩) hHeld ?_
  rotate_left
  · (intro w hSw; (try dsimp only at hSw); go_simp; all_goals (try with_reducible rfl))
  try simp only [Act.put, List.setIfInBounds_toArray, List.set_cons_zero, List.set_cons_succ]
  refine inv_any (fun l act W => ∃ f2 f3 f6 f7 f8 f9 f10 f11 : Bool, ∃ r2 r6 g8 g9 : Nat, l = #[true, true, f2, f3, true, true, f6, f7, f8, f9, f10, f11] ∧ act = { tmps := #[Value.agg #[Value.int IntKind.i64 a, Value.int IntKind.i64 b], Value.agg #[Value.int IntKind.i64 c, Value.int IntKind.i64 d], Value.agg #[Value.int IntKind.i64 e, Value.int IntKind.i64 f], Value.int IntKind.i64 n, Value.pointer (some { block := w.heap.size, off := 0 }), Value.pointer (some { block := w.heap.size + 1, off := 0 }), Value.pointer (some { block := w.heap.size + 1 + 1, off := 0 }), undef, Value.bool false, sel f8 (Value.pointer (some ⟨g8, 0, none⟩)), sel f9 (Value.pointer (some ⟨g9, 0, none⟩)), Value.agg #[Value.int IntKind.i64 a, Value.int IntKind.i64 b], Value.agg #[Value.int IntKind.i64 c, Value.int IntKind.i64 d], sel f2 (Value.slice (some ⟨r2, 0, none⟩) 2 2), sel f3 (Value.agg #[.int .i64 j1, .int .i64 j2]), Value.agg #[Value.int IntKind.i64 a, Value.int IntKind.i64 b], Value.agg #[Value.int IntKind.i64 c, Value.int IntKind.i64 d], sel f6 (Value.slice (some ⟨r6, 0, none⟩) 2 2), sel f7 (Value.agg #[.int .i64 m1, .int .i64 m2]), undef, undef, undef, undef, undef, undef, undef, undef, undef, undef, undef, undef, undef, undef, undef, undef, undef, undef, undef, undef, undef, undef, undef, undef, undef, undef, undef, undef, undef, undef, undef, undef, undef, undef, undef, undef, undef, undef, undef, undef, undef, undef, undef, undef, undef, undef, undef, undef, undef, undef, undef, undef, undef, undef, undef, undef, undef, undef, undef, undef, undef, undef, undef, undef, undef, undef, undef, undef, undef, undef, undef, undef, undef, undef, undef, undef, undef, undef, undef, undef, undef, undef, undef, undef, undef, undef, undef, undef, undef, undef, undef, undef, undef, undef, undef, undef, undef, undef, undef, undef, undef, undef, undef, undef, undef, undef, undef, undef], defers := [] } ∧ Below W0.heap.size W0 W ∧ (f3 = false → f2 = true → SpanRow W (some ⟨r2, 0, none⟩) [(a, b), (c, d)]) ∧ (f7 = false → f6 = true → SpanRow W (some ⟨r6, 0, none⟩) [(a, b), (c, d)]) ∧ (f8 = true → Loc (W0.heap.size) W g8 f10 j1 j2) ∧ (f9 = true → Loc (W0.heap.size) W g9 f11 m1 m2) ∧ (f8 = true → f9 = true → g8 ≠ g9) ∧ (f8 = false → f10 = false) ∧ (f9 = false → f11 = false)) (by kernel_rfl) ?_ ?_ ?_ _ _ _ _ (by decide) (by decide) ?_
  · rintro l act W ⟨f2, f3, f6, f7, f8, f9, f10, f11, r2, r6, g8, g9, rfl, rfl, hm, hr2, hr6, hg8, hg9, hn8_9, hs8, hs9⟩
    exact HK.out _ hm
  · rintro l act W ⟨f2, f3, f6, f7, f8, f9, f10, f11, r2, r6, g8, g9, rfl, rfl, hm, hr2, hr6, hg8, hg9, hn8_9, hs8, hs9⟩ i o hi ho K' hK
    have hlt' : i < 12 := ready_lt hi
    have hcase : i = 0 ∨ i = 1 ∨ i = 2 ∨ i = 3 ∨ i = 4 ∨ i = 5 ∨ i = 6 ∨ i = 7 ∨ i = 8 ∨ i = 9 ∨ i = 10 ∨ i = 11 := by omega
    clear hlt'
    have hz := hm.size
    rcases hcase with rfl | rfl | rfl | rfl | rfl | rfl | rfl | rfl | rfl | rfl | rfl | rfl
    · exact absurd (show true = false from (ready_dep hi ho).1) (by decide)
    · exact absurd (show true = false from (ready_dep hi ho).1) (by decide)
    · obtain rfl : o = ({ dst := some 13, op := Op.buildSlice 50 2 #[(0, Operand.tmp 11), (1, Operand.tmp 12)], type := 50, pos := "outright.go:43", after := #[{ on := 0, ground := Ground.data }, { on := 1, ground := Ground.data }], guard := none } : Oper) := (Option.some.inj ho).symm
      obtain ⟨hf, hd⟩ := ready_dep hi ho
      have ef : f2 = false := hf
      subst ef 
      clear hf hd hi ho
      simp only [sel_false]
      go_simp
      have hb : Below W.heap.size W (W.alloc (.cells #[.int .i64 a, .int .i64 b, .int .i64 c, .int .i64 d] 23)) := (Below.refl _ W).alloc (Nat.le_refl _) _
      refine hK.out _ _ ⟨true, f3, f6, f7, f8, f9, f10, f11, W.heap.size, r6, g8, g9, rfl, rfl, hm.trans (hb.mono hz), fun _ _ => row_two W a b c d _ rfl, fun h1 h2 => (hr6 h1 h2).stays hb (Nat.le_refl _), fun h => (hg8 h).below hb, fun h => (hg9 h).below hb, hn8_9, hs8, hs9⟩
    · obtain rfl : o = ({ dst := some 14, op := Op.call { callee := Callee.value (Operand.func 22), args := #[Operand.tmp 13], argTypes := #[50] }, type := 23, pos := "outright.go:43", after := #[{ on := 2, ground := Ground.data }], guard := none } : Oper) := (Option.some.inj ho).symm
      obtain ⟨hf, hd⟩ := ready_dep hi ho
      have ef : f3 = false := hf
      have e2 : f2 = true := hd 2 (by decide)
      subst ef e2
      clear hf hd hi ho
      have q2 := hr2 rfl rfl
      simp only [sel_true, sel_false]
      go_simp
      refine Calls.mono (join_at2 _ _ a b c d j1 j2 J1.out J2.out q2) ?_
      rintro e W' ⟨rfl, hb⟩
      go_wp2_with fail
      refine hK.out _ _ ⟨true, true, f6, f7, f8, f9, f10, f11, r2, r6, g8, g9, rfl, rfl, hm.trans (hb.mono hz), fun h => by (cases h), fun h1 h2 => (hr6 h1 h2).stays hb (Nat.le_refl _), fun h => (hg8 h).below hb, fun h => (hg9 h).below hb, hn8_9, hs8, hs9⟩
    · exact absurd (show true = false from (ready_dep hi ho).1) (by decide)
    · exact absurd (show true = false from (ready_dep hi ho).1) (by decide)
    · obtain rfl : o = ({ dst := some 17, op := Op.buildSlice 50 2 #[(0, Operand.tmp 15), (1, Operand.tmp 16)], type := 50, pos := "outright.go:43", after := #[{ on := 4, ground := Ground.data }, { on := 5, ground := Ground.data }], guard := none } : Oper) := (Option.some.inj ho).symm
      obtain ⟨hf, hd⟩ := ready_dep hi ho
      have ef : f6 = false := hf
      subst ef 
      clear hf hd hi ho
      simp only [sel_false]
      go_simp
      have hb : Below W.heap.size W (W.alloc (.cells #[.int .i64 a, .int .i64 b, .int .i64 c, .int .i64 d] 23)) := (Below.refl _ W).alloc (Nat.le_refl _) _
      refine hK.out _ _ ⟨f2, f3, true, f7, f8, f9, f10, f11, r2, W.heap.size, g8, g9, rfl, rfl, hm.trans (hb.mono hz), fun h1 h2 => (hr2 h1 h2).stays hb (Nat.le_refl _), fun _ _ => row_two W a b c d _ rfl, fun h => (hg8 h).below hb, fun h => (hg9 h).below hb, hn8_9, hs8, hs9⟩
    · obtain rfl : o = ({ dst := some 18, op := Op.call { callee := Callee.value (Operand.func 23), args := #[Operand.tmp 17], argTypes := #[50] }, type := 23, pos := "outright.go:43", after := #[{ on := 6, ground := Ground.data }, { on := 3, ground := Ground.chain }], guard := none } : Oper) := (Option.some.inj ho).symm
      obtain ⟨hf, hd⟩ := ready_dep hi ho
      have ef : f7 = false := hf
      have e3 : f3 = true := hd 3 (by decide)
      have e6 : f6 = true := hd 6 (by decide)
      subst ef e3 e6
      clear hf hd hi ho
      have q6 := hr6 rfl rfl
      simp only [sel_true, sel_false]
      go_simp
      refine Calls.mono (meet_at2 _ _ a b c d m1 m2 HB.out.1 HB.out.2.1 HB.out.2.2.1 HB.out.2.2.2.1 M1.out M2.out q6) ?_
      rintro e W' ⟨rfl, hb⟩
      go_wp2_with fail
      refine hK.out _ _ ⟨f2, true, true, true, f8, f9, f10, f11, r2, r6, g8, g9, rfl, rfl, hm.trans (hb.mono hz), fun h => by (cases h), fun h => by (cases h), fun h => (hg8 h).below hb, fun h => (hg9 h).below hb, hn8_9, hs8, hs9⟩
    · obtain rfl : o = ({ dst := some 9, op := Op.alloc 23, type := 0, pos := "outright.go:43", after := #[], guard := none } : Oper) := (Option.some.inj ho).symm
      obtain ⟨hf, hd⟩ := ready_dep hi ho
      have ef : f8 = false := hf
      subst ef 
      clear hf hd hi ho
      have es : f10 = false := hs8 rfl
      subst es
      simp only [sel_false]
      go_simp
      have hb : Below W.heap.size W (W.alloc (.cells #[.int .i64 0, .int .i64 0] 23)) := (Below.refl _ W).alloc (Nat.le_refl _) _
      have FR := Loc.fresh (W0.heap.size) W j1 j2 (by omega)
      refine hK.out _ _ ⟨f2, f3, f6, f7, true, f9, false, f11, r2, r6, W.heap.size, g9, rfl, rfl, hm.trans (hb.mono hz), fun h1 h2 => (hr2 h1 h2).stays hb (Nat.le_refl _), fun h1 h2 => (hr6 h1 h2).stays hb (Nat.le_refl _), fun _ => FR, fun h => (hg9 h).below hb, fun _ h => by (have := (hg9 h).lt; omega), fun h => by (cases h), hs9⟩
    · obtain rfl : o = ({ dst := some 10, op := Op.alloc 23, type := 0, pos := "outright.go:43", after := #[], guard := none } : Oper) := (Option.some.inj ho).symm
      obtain ⟨hf, hd⟩ := ready_dep hi ho
      have ef : f9 = false := hf
      subst ef 
      clear hf hd hi ho
      have es : f11 = false := hs9 rfl
      subst es
      simp only [sel_false]
      go_simp
      have hb : Below W.heap.size W (W.alloc (.cells #[.int .i64 0, .int .i64 0] 23)) := (Below.refl _ W).alloc (Nat.le_refl _) _
      have FR := Loc.fresh (W0.heap.size) W m1 m2 (by omega)
      refine hK.out _ _ ⟨f2, f3, f6, f7, f8, true, f10, false, r2, r6, g8, W.heap.size, rfl, rfl, hm.trans (hb.mono hz), fun h1 h2 => (hr2 h1 h2).stays hb (Nat.le_refl _), fun h1 h2 => (hr6 h1 h2).stays hb (Nat.le_refl _), fun h => (hg8 h).below hb, fun _ => FR, fun h _ => by (have := (hg8 h).lt; omega), hs8, fun h => by (cases h)⟩
    · obtain rfl : o = ({ dst := none, op := Op.store 23 (Operand.tmp 9) (Operand.tmp 14), type := 0, pos := "outright.go:43", after := #[{ on := 8, ground := Ground.data }, { on := 3, ground := Ground.data }, { on := 7, ground := Ground.chain }, { on := 0, ground := Ground.phase }, { on := 1, ground := Ground.phase }, { on := 2, ground := Ground.phase }, { on := 3, ground := Ground.phase }, { on := 4, ground := Ground.textOnly Departure.lateStores }, { on := 5, ground := Ground.textOnly Departure.lateStores }, { on := 6, ground := Ground.textOnly Departure.lateStores }, { on := 7, ground := Ground.textOnly Departure.lateStoresUnsure }, { on := 8, ground := Ground.phase }, { on := 9, ground := Ground.phase }], guard := none } : Oper) := (Option.some.inj ho).symm
      obtain ⟨hf, hd⟩ := ready_dep hi ho
      have ef : f10 = false := hf
      have e2 : f2 = true := hd 2 (by decide)
      have e3 : f3 = true := hd 3 (by decide)
      have e7 : f7 = true := hd 7 (by decide)
      have e8 : f8 = true := hd 8 (by decide)
      have e9 : f9 = true := hd 9 (by decide)
      subst ef e2 e3 e7 e8 e9
      clear hf hd hi ho
      have L1 := hg8 rfl
      have c0 := L1.c0
      have c1 := L1.c1
      have q0 := L1.f0
      have q1 := L1.f1
      simp only [Bool.false_eq_true, if_false] at c0 c1
      have hnew := L1.new
      simp only [sel_true]
      go_simp
      refine hK.out _ _ ⟨true, true, f6, true, true, true, true, f11, r2, r6, g8, g9, rfl, rfl, below_set (below_set hm g8 0 _ (by omega)) g8 1 _ (by omega), fun h => by (cases h), fun h => by (cases h), fun _ => L1.store, fun h => (hg9 h).other (Ne.symm (hn8_9 rfl h)) _ _, hn8_9, fun h => by (cases h), fun h => by (cases h)⟩
    · obtain rfl : o = ({ dst := none, op := Op.store 23 (Operand.tmp 10) (Operand.tmp 18), type := 0, pos := "outright.go:43", after := #[{ on := 9, ground := Ground.data }, { on := 7, ground := Ground.data }, { on := 10, ground := Ground.chain }, { on := 0, ground := Ground.phase }, { on := 1, ground := Ground.phase }, { on := 2, ground := Ground.phase }, { on := 3, ground := Ground.phase }, { on := 4, ground := Ground.phase }, { on := 5, ground := Ground.phase }, { on := 6, ground := Ground.phase }, { on := 7, ground := Ground.phase }, { on := 8, ground := Ground.phase }, { on := 9, ground := Ground.phase }, { on := 10, ground := Ground.phase }], guard := none } : Oper) := (Option.some.inj ho).symm
      obtain ⟨hf, hd⟩ := ready_dep hi ho
      have ef : f11 = false := hf
      have e2 : f2 = true := hd 2 (by decide)
      have e3 : f3 = true := hd 3 (by decide)
      have e6 : f6 = true := hd 6 (by decide)
      have e7 : f7 = true := hd 7 (by decide)
      have e8 : f8 = true := hd 8 (by decide)
      have e9 : f9 = true := hd 9 (by decide)
      have e10 : f10 = true := hd 10 (by decide)
      subst ef e2 e3 e6 e7 e8 e9 e10
      clear hf hd hi ho
      have L1 := hg9 rfl
      have c0 := L1.c0
      have c1 := L1.c1
      have q0 := L1.f0
      have q1 := L1.f1
      simp only [Bool.false_eq_true, if_false] at c0 c1
      have hnew := L1.new
      simp only [sel_true]
      go_simp
      refine hK.out _ _ ⟨true, true, true, true, true, true, true, true, r2, r6, g8, g9, rfl, rfl, below_set (below_set hm g9 0 _ (by omega)) g9 1 _ (by omega), fun h => by (cases h), fun h => by (cases h), fun h => (hg8 h).other (hn8_9 h rfl) _ _, fun _ => L1.store, hn8_9, fun h => by (cases h), fun h => by (cases h)⟩
  · rintro l act W ⟨f2, f3, f6, f7, f8, f9, f10, f11, r2, r6, g8, g9, rfl, rfl, hm, hr2, hr6, hg8, hg9, hn8_9, hs8, hs9⟩ hall
    have e2 : f2 = true := hall 2 (by decide)
    have e3 : f3 = true := hall 3 (by decide)
    have e6 : f6 = true := hall 6 (by decide)
    have e7 : f7 = true := hall 7 (by decide)
    have e8 : f8 = true := hall 8 (by decide)
    have e9 : f9 = true := hall 9 (by decide)
    have e10 : f10 = true := hall 10 (by decide)
    have e11 : f11 = true := hall 11 (by decide)
    subst e2 e3 e6 e7 e8 e9 e10 e11
    clear hall
    simp only [sel_true]
    have L8 := hg8 rfl
    have L9 := hg9 rfl
    have c8a := L8.c0
    have c8b := L8.c1
    have c9a := L9.c0
    have c9b := L9.c1
    simp only [if_true] at c8a c8b c9a c9b
    have HKr : Hid (∀ W', Below W.heap.size W W' → W'.cell? ⟨w.heap.size, 0, none⟩ = some (.int .i64 a) ∧ W'.cell? ⟨w.heap.size, 1, none⟩ = some (.int .i64 b) ∧ W'.cell? ⟨w.heap.size + 1, 0, none⟩ = some (.int .i64 c) ∧ W'.cell? ⟨w.heap.size + 1, 1, none⟩ = some (.int .i64 d) ∧ W'.cell? ⟨w.heap.size + 1 + 1, 0, none⟩ = some (.int .i64 e) ∧ W'.cell? ⟨w.heap.size + 1 + 1, 1, none⟩ = some (.int .i64 f) ∧ W'.cell? ⟨g9, 0, none⟩ = some (.int .i64 m1) ∧ W'.cell? ⟨g9, 1, none⟩ = some (.int .i64 m2) ∧ W'.cell? ⟨g8, 0, none⟩ = some (.int .i64 j1) ∧ W'.cell? ⟨g8, 1, none⟩ = some (.int .i64 j2)) := fun W' kk => by
      obtain ⟨x1, x2, x3, x4, x5, x6⟩ := HK.out _ hm
      exact ⟨cell_later kk x1, cell_later kk x2, cell_later kk x3, cell_later kk x4, cell_later kk x5, cell_later kk x6, cell_later kk c9a, cell_later kk c9b, cell_later kk c8a, cell_later kk c8b⟩
    have HBW : Hid (Below w.heap.size w W) := HB0.out.trans (hm.mono HB0.out.size)
    have kb0 := Below.refl W.heap.size W
    clear hr2 hr6 hg8 hg9 hn8_9 hs8 hs9 L8 L9 c8a c8b c9a c9b hm HW0 hHeld HK J1 J2 M1 M2 m0
    obtain ⟨x1, x2, x3, x4, x5, x6, x7, x8, x9, x10⟩ := HKr.out _ kb0
    go_wp2_with fail
    refine Calls.mono (sin_any a b j1 j2 true _ I1.out) ?_
    clear x1 x2 x3 x4 x5 x6 x7 x8 x9 x10
    rintro e V0 ⟨rfl, hb⟩
    have kb1 := kb0.trans (hb.mono kb0.size)
    clear hb
    obtain ⟨x1, x2, x3, x4, x5, x6, x7, x8, x9, x10⟩ := HKr.out _ kb1
    go_wp2_with fail
    refine Calls.mono (sin_any c d j1 j2 true _ I2.out) ?_
    clear x1 x2 x3 x4 x5 x6 x7 x8 x9 x10
    rintro e V1 ⟨rfl, hb⟩
    have kb2 := kb1.trans (hb.mono kb1.size)
    clear hb
    obtain ⟨x1, x2, x3, x4, x5, x6, x7, x8, x9, x10⟩ := HKr.out _ kb2
    go_wp2_with fail
    refine Calls.mono (sin_any m1 m2 a b true _ I3.out) ?_
    clear x1 x2 x3 x4 x5 x6 x7 x8 x9 x10
    rintro e V2 ⟨rfl, hb⟩
    have kb3 := kb2.trans (hb.mono kb2.size)
    clear hb
    obtain ⟨x1, x2, x3, x4, x5, x6, x7, x8, x9, x10⟩ := HKr.out _ kb3
    go_wp2_with fail
    refine Calls.mono (sin_any m1 m2 c d true _ I4.out) ?_
    clear x1 x2 x3 x4 x5 x6 x7 x8 x9 x10
    rintro e V3 ⟨rfl, hb⟩
    have kb4 := kb3.trans (hb.mono kb3.size)
    clear hb
    obtain ⟨x1, x2, x3, x4, x5, x6, x7, x8, x9, x10⟩ := HKr.out _ kb4
    go_wp2_with fail
    refine Calls.mono (sin_any a b e f false _ Hhp1.out) ?_
    clear x1 x2 x3 x4 x5 x6 x7 x8 x9 x10
    rintro e V4 ⟨rfl, hb⟩
    have kb5 := kb4.trans (hb.mono kb4.size)
    clear hb
    obtain ⟨x1, x2, x3, x4, x5, x6, x7, x8, x9, x10⟩ := HKr.out _ kb5
    go_wp2_with fail
    refine Calls.mono (sin_any e f a b true _ Hhq1.out) ?_
    clear x1 x2 x3 x4 x5 x6 x7 x8 x9 x10
    rintro e V5 ⟨rfl, hb⟩
    have kb6 := kb5.trans (hb.mono kb5.size)
    clear hb
    obtain ⟨x1, x2, x3, x4, x5, x6, x7, x8, x9, x10⟩ := HKr.out _ kb6
    go_wp2_with fail
    refine Calls.mono (sin_any e f c d false _ Hhq2.out) ?_
    clear x1 x2 x3 x4 x5 x6 x7 x8 x9 x10
    rintro e V6 ⟨rfl, hb⟩
    have kb7 := kb6.trans (hb.mono kb6.size)
    clear hb
    obtain ⟨x1, x2, x3, x4, x5, x6, x7, x8, x9, x10⟩ := HKr.out _ kb7
    have HBV : Hid (Below w.heap.size w V6) := HBW.out.trans (kb7.mono HBW.out.size)
    have HS : ∀ W' : World, W' = V6 → W'.cell? ⟨w.heap.size, 0, none⟩ = some (.int .i64 a) ∧ W'.cell? ⟨w.heap.size, 1, none⟩ = some (.int .i64 b) ∧ W'.cell? ⟨w.heap.size + 1, 0, none⟩ = some (.int .i64 c) ∧ W'.cell? ⟨w.heap.size + 1, 1, none⟩ = some (.int .i64 d) ∧ W'.cell? ⟨w.heap.size + 1 + 1, 0, none⟩ = some (.int .i64 e) ∧ W'.cell? ⟨w.heap.size + 1 + 1, 1, none⟩ = some (.int .i64 f) ∧ W'.cell? ⟨g9, 0, none⟩ = some (.int .i64 m1) ∧ W'.cell? ⟨g9, 1, none⟩ = some (.int .i64 m2) := fun W' hW => by rw [hW]; exact ⟨x1, x2, x3, x4, x5, x6, x7, x8⟩
    go_wp2_with fail
    have HI7 := I7.out n
    by_cases hx : a ≤ n ∧ n ≤ b
    · by_cases hy : c ≤ n ∧ n ≤ d
      · refine lat_tail_tt a b c d e f n m1 m2 w _ _ _ _ _ _ _ _ _ _ _ _ _ _ _ _ _ _ _ _ _ _ _ _ _ _ _ _ _ _ _ _ _ _ _ _ _ _ _ _ _ _ _ _ _ _ _ _ _ _ _ _ _ _ _ _ _ _ _ _ _ _ _ _ _ _ HB.out (fun c a dd vv w h => by cases dd <;> exact h) HBV.out HS hx hy (HI7.2 ⟨hx, hy⟩) ?_
        intro X _ _ _ _ _ _ _ _ _ _ _ _ _ _ _ _ _ _ hX
        go_wp2
        go_ret
        exact ⟨rfl, hX⟩
      · refine lat_tail_tf a b c d e f n m1 m2 w _ _ _ _ _ _ _ _ _ _ _ _ _ _ _ _ _ _ _ _ _ _ _ _ _ _ _ _ _ _ _ _ _ _ _ _ _ _ _ _ _ _ _ _ _ _ _ _ _ _ _ _ _ _ _ _ _ _ _ _ _ _ _ _ _ _ HB.out (fun c a dd vv w h => by cases dd <;> exact h) HBV.out HS hx (by omega) (by omega) ?_
        intro X _ _ _ _ _ _ _ _ _ _ _ _ _ _ _ _ _ _ hX
        go_wp2
        go_ret
        exact ⟨rfl, hX⟩
    · refine lat_tail_f a b c d e f n m1 m2 w _ _ _ _ _ _ _ _ _ _ _ _ _ _ _ _ _ _ _ _ _ _ _ _ _ _ _ _ _ _ _ _ _ _ _ _ _ _ _ _ _ _ _ _ _ _ _ _ _ _ _ _ _ _ _ _ _ _ _ _ _ _ _ _ _ _ HB.out (fun c a dd vv w h => by cases dd <;> exact h) HBV.out HS (by omega) trivial (by omega) ?_
      intro X _ _ _ _ _ _ _ _ _ _ _ _ _ _ _ _ _ _ hX
      go_wp2
      go_ret
      exact ⟨rfl, hX⟩
  · exact ⟨false, false, false, false, false, false, false, false, 0, 0, 0, 0, by decide, rfl, m0, fun _ h => by (cases h), fun _ h => by (cases h), fun h => by (cases h), fun h => by (cases h), fun h => by (cases h), fun _ => rfl, fun _ => rfl⟩

set_option maxHeartbeats 16000000 in
theorem lat_f_tt (a b c d e f n : Int) (w : World) (bs : B64 a ∧ B64 b ∧ B64 c ∧ B64 d ∧ B64 e ∧ B64 f) (hp1 : inB a b e f = false) (hq1 : inB e f a b = true) (hq2 : inB e f c d = true) :
    Calls Try.prog 7 #[(.agg #[.int .i64 a, .int .i64 b]), (.agg #[.int .i64 c, .int .i64 d]), (.agg #[.int .i64 e, .int .i64 f]), .int .i64 n] w fun e w' => e = .returned (.bool true) ∧ Below w.heap.size w w' := by
  obtain ⟨j1, hj1⟩ : ∃ z, jnLo a b c d = z := ⟨_, rfl⟩
  obtain ⟨j2, hj2⟩ : ∃ z, jnHi a b c d = z := ⟨_, rfl⟩
  obtain ⟨m1, hm1⟩ : ∃ z, mtLo a b c d = z := ⟨_, rfl⟩
  obtain ⟨m2, hm2⟩ : ∃ z, mtHi a b c d = z := ⟨_, rfl⟩
  have J1 : Hid (jnLo a b c d = j1) := hj1
  have J2 : Hid (jnHi a b c d = j2) := hj2
  have M1 : Hid (mtLo a b c d = m1) := hm1
  have M2 : Hid (mtHi a b c d = m2) := hm2
  have I1 : Hid (inB a b j1 j2 = true) := by rw [← hj1, ← hj2]; exact in_join1 a b c d
  have I2 : Hid (inB c d j1 j2 = true) := by rw [← hj1, ← hj2]; exact in_join2 a b c d
  have I3 : Hid (inB m1 m2 a b = true) := by rw [← hm1, ← hm2]; exact in_meet1 a b c d
  have I4 : Hid (inB m1 m2 c d = true) := by rw [← hm1, ← hm2]; exact in_meet2 a b c d
  have I5 : Hid (inB a b e f = true → inB c d e f = true → inB j1 j2 e f = true) := by rw [← hj1, ← hj2]; exact in_least
  have I6 : Hid (inB e f a b = true → inB e f c d = true → inB e f m1 m2 = true) := by rw [← hm1, ← hm2]; exact in_greatest
  have I7 : Hid (∀ n, (m1 ≤ n ∧ n ≤ m2) ↔ ((a ≤ n ∧ n ≤ b) ∧ (c ≤ n ∧ n ≤ d))) := by rw [← hm1, ← hm2]; exact has_meetP a b c d
  have HB : Hid (B64 a ∧ B64 b ∧ B64 c ∧ B64 d ∧ B64 e ∧ B64 f) := bs
  have Hhp1 : Hid (inB a b e f = false) := hp1
  clear hp1
  have Hhq1 : Hid (inB e f a b = true) := hq1
  clear hq1
  have Hhq2 : Hid (inB e f c d = true) := hq2
  clear hq2
  clear hj1 hj2 hm1 hm2 bs
  obtain ⟨W0, hW0⟩ : ∃ Z, (((w.alloc (.cells #[.int .i64 a, .int .i64 b] 23)).alloc (.cells #[.int .i64 c, .int .i64 d] 23)).alloc (.cells #[.int .i64 e, .int .i64 f] 23)) = Z := ⟨_, rfl⟩
  have HW0 : Hid ((((w.alloc (.cells #[.int .i64 a, .int .i64 b] 23)).alloc (.cells #[.int .i64 c, .int .i64 d] 23)).alloc (.cells #[.int .i64 e, .int .i64 f] 23)) = W0) := hW0
  have HB0 : Hid (Below w.heap.size w W0) := by rw [← hW0]; exact ((((Below.refl _ w).alloc (Nat.le_refl _) _).alloc (by simp) _).alloc (by simp; omega) _)
  have HK : Hid (∀ W', Below W0.heap.size W0 W' → W'.cell? ⟨w.heap.size, 0, none⟩ = some (.int .i64 a) ∧ W'.cell? ⟨w.heap.size, 1, none⟩ = some (.int .i64 b) ∧ W'.cell? ⟨w.heap.size + 1, 0, none⟩ = some (.int .i64 c) ∧ W'.cell? ⟨w.heap.size + 1, 1, none⟩ = some (.int .i64 d) ∧ W'.cell? ⟨w.heap.size + 1 + 1, 0, none⟩ = some (.int .i64 e) ∧ W'.cell? ⟨w.heap.size + 1 + 1, 1, none⟩ = some (.int .i64 f)) := fun W' kk => by
    rw [← hW0] at kk
    exact ⟨cell_later kk (by simp [go_sem]), cell_later kk (by simp [go_sem]), cell_later kk (by simp [go_sem]), cell_later kk (by simp [go_sem]), cell_later kk (by simp [go_sem]), cell_later kk (by simp [go_sem])⟩
  have m0 : Below W0.heap.size W0 W0.drew := (Below.refl _ W0).drew
  clear hW0
  go_enter Try.func7, Try.ntmps7
  go_wp2_with fail
  rw [HW0.out]
  refine wp_region_held_drew (S := fun W' => W'.cell? ⟨w.heap.size, 0, none⟩ = some (.int .i64 a) ∧ W'.cell? ⟨w.heap.size, 1, none⟩ = some (.int .i64 b) ∧ W'.cell? ⟨w.heap.size + 1, 0, none⟩ = some (.int .i64 c) ∧ W'.cell? ⟨w.heap.size + 1, 1, none⟩ = some (.int .i64 d) ∧ W'.cell? ⟨w.heap.size + 1 + 1, 0, none⟩ = some (.int .i64 e) ∧ W'.cell? ⟨w.heap.size + 1 + 1, 1, none⟩ = some (.int .i64 f)) (by kernel_rfl) (HK.out _ m0) (fun hHeld => ?_)
  refine wpAnyH_take (i := 0) (oi := { dst := some 11, op := Op.load 23 (Operand.tmp 4), type := 23, pos := "outright.go:43", after := #[], guard := none }) (v := ?_) rfl (by kernel_rfl) (by kernel_rfl) (by kernel_rfl) (fun _ _ _ h => h) (Or.inl ⟨by rfl, ?_⟩) hHeld ?_
  rotate_left
  · (intro w hSw; (try dsimp only at hSw); go_simp; all_goals (try with_reducible rfl))
  try simp only [Act.put, List.setIfInBounds_toArray, List.set_cons_zero, List.set_cons_succ]
  refine wpAnyH_take (i := 1) (oi := { dst := some 12, op := Op.load 23 (Operand.tmp 5), type := 23, pos := "outright.go:43", after := #[], guard := none }) (v := ?_) rfl (by kernel_rfl) (by kernel_rfl) (by kernel_rfl) (fun _ _ _ h => h) (Or.inl ⟨by rfl, ?_⟩) hHeld ?_
  rotate_left
  · (intro w hSw; (try dsimp only at hSw); go_simp; all_goals (try with_reducible rfl))
  try simp only [Act.put, List.setIfInBounds_toArray, List.set_cons_zero, List.set_cons_succ]
  refine wpAnyH_take (i := 4) (oi := { dst := some 15, op := Op.load 23 (Operand.tmp 4), type := 23, pos := "outright.go:43", after := #[], guard := none }) (v := ?_) rfl (by kernel_rfl) (by kernel_rfl) (by kernel_rfl) (fun _ _ _ h => h) (Or.inl ⟨by rfl, ?_⟩) hHeld ?_
  rotate_left
  · (intro w hSw; (try dsimp only at hSw); go_simp; all_goals (try with_reducible rfl))
  try simp only [Act.put, List.setIfInBounds_toArray, List.set_cons_zero, List.set_cons_succ]
  refine wpAnyH_take (i := 5) (oi := { dst := some 16, op := Op.load 23 (Operand.tmp 5), type := 23, pos := "outright.go:43", after := #[], guard := none }) (v := ?_) rfl (by kernel_rfl) (by kernel_rfl) (by kernel_rfl) (fun _ _ _ h => h) (Or.inl ⟨by rfl, ?_⟩) hHeld ?_
  rotate_left
  · (intro w hSw; (try dsimp only at hSw); go_simp; all_goals (try with_reducible rfl))
  try simp only [Act.put, List.setIfInBounds_toArray, List.set_cons_zero, List.set_cons_succ]
  refine inv_any (fun l act W => ∃ f2 f3 f6 f7 f8 f9 f10 f11 : Bool, ∃ r2 r6 g8 g9 : Nat, l = #[true, true, f2, f3, true, true, f6, f7, f8, f9, f10, f11] ∧ act = { tmps := #[Value.agg #[Value.int IntKind.i64 a, Value.int IntKind.i64 b], Value.agg #[Value.int IntKind.i64 c, Value.int IntKind.i64 d], Value.agg #[Value.int IntKind.i64 e, Value.int IntKind.i64 f], Value.int IntKind.i64 n, Value.pointer (some { block := w.heap.size, off := 0 }), Value.pointer (some { block := w.heap.size + 1, off := 0 }), Value.pointer (some { block := w.heap.size + 1 + 1, off := 0 }), undef, Value.bool false, sel f8 (Value.pointer (some ⟨g8, 0, none⟩)), sel f9 (Value.pointer (some ⟨g9, 0, none⟩)), Value.agg #[Value.int IntKind.i64 a, Value.int IntKind.i64 b], Value.agg #[Value.int IntKind.i64 c, Value.int IntKind.i64 d], sel f2 (Value.slice (some ⟨r2, 0, none⟩) 2 2), sel f3 (Value.agg #[.int .i64 j1, .int .i64 j2]), Value.agg #[Value.int IntKind.i64 a, Value.int IntKind.i64 b], Value.agg #[Value.int IntKind.i64 c, Value.int IntKind.i64 d], sel f6 (Value.slice (some ⟨r6, 0, none⟩) 2 2), sel f7 (Value.agg #[.int .i64 m1, .int .i64 m2]), undef, undef, undef, undef, undef, undef, undef, undef, undef, undef, undef, undef, undef, undef, undef, undef, undef, undef, undef, undef, undef, undef, undef, undef, undef, undef, undef, undef, undef, undef, undef, undef, undef, undef, undef, undef, undef, undef, undef, undef, undef, undef, undef, undef, undef, undef, undef, undef, undef, undef, undef, undef, undef, undef, undef, undef, undef, undef, undef, undef, undef, undef, undef, undef, undef, undef, undef, undef, undef, undef, undef, undef, undef, undef, undef, undef, undef, undef, undef, undef, undef, undef, undef, undef, undef, undef, undef, undef, undef, undef, undef, undef, undef, undef, undef, undef, undef, undef, undef, undef, undef, undef, undef, undef, undef, undef, undef, undef], defers := [] } ∧ Below W0.heap.size W0 W ∧ (f3 = false → f2 = true → SpanRow W (some ⟨r2, 0, none⟩) [(a, b), (c, d)]) ∧ (f7 = false → f6 = true → SpanRow W (some ⟨r6, 0, none⟩) [(a, b), (c, d)]) ∧ (f8 = true → Loc (W0.heap.size) W g8 f10 j1 j2) ∧ (f9 = true → Loc (W0.heap.size) W g9 f11 m1 m2) ∧ (f8 = true → f9 = true → g8 ≠ g9) ∧ (f8 = false → f10 = false) ∧ (f9 = false → f11 = false)) (by kernel_rfl) ?_ ?_ ?_ _ _ _ _ (by decide) (by decide) ?_
  · rintro l act W ⟨f2, f3, f6, f7, f8, f9, f10, f11, r2, r6, g8, g9, rfl, rfl, hm, hr2, hr6, hg8, hg9, hn8_9, hs8, hs9⟩
    exact HK.out _ hm
  · rintro l act W ⟨f2, f3, f6, f7, f8, f9, f10, f11, r2, r6, g8, g9, rfl, rfl, hm, hr2, hr6, hg8, hg9, hn8_9, hs8, hs9⟩ i o hi ho K' hK
    have hlt' : i < 12 := ready_lt hi
    have hcase : i = 0 ∨ i = 1 ∨ i = 2 ∨ i = 3 ∨ i = 4 ∨ i = 5 ∨ i = 6 ∨ i = 7 ∨ i = 8 ∨ i = 9 ∨ i = 10 ∨ i = 11 := by omega
    clear hlt'
    have hz := hm.size
    rcases hcase with rfl | rfl | rfl | rfl | rfl | rfl | rfl | rfl | rfl | rfl | rfl | rfl
    · exact absurd (show true = false from (ready_dep hi ho).1) (by decide)
    · exact absurd (show true = false from (ready_dep hi ho).1) (by decide)
    · obtain rfl : o = ({ dst := some 13, op := Op.buildSlice 50 2 #[(0, Operand.tmp 11), (1, Operand.tmp 12)], type := 50, pos := "outright.go:43", after := #[{ on := 0, ground := Ground.data }, { on := 1, ground := Ground.data }], guard := none } : Oper) := (Option.some.inj ho).symm
      obtain ⟨hf, hd⟩ := ready_dep hi ho
      have ef : f2 = false := hf
      subst ef 
      clear hf hd hi ho
      simp only [sel_false]
      go_simp
      have hb : Below W.heap.size W (W.alloc (.cells #[.int .i64 a, .int .i64 b, .int .i64 c, .int .i64 d] 23)) := (Below.refl _ W).alloc (Nat.le_refl _) _
      refine hK.out _ _ ⟨true, f3, f6, f7, f8, f9, f10, f11, W.heap.size, r6, g8, g9, rfl, rfl, hm.trans (hb.mono hz), fun _ _ => row_two W a b c d _ rfl, fun h1 h2 => (hr6 h1 h2).stays hb (Nat.le_refl _), fun h => (hg8 h).below hb, fun h => (hg9 h).below hb, hn8_9, hs8, hs9⟩
    · obtain rfl : o = ({ dst := some 14, op := Op.call { callee := Callee.value (Operand.func 22), args := #[Operand.tmp 13], argTypes := #[50] }, type := 23, pos := "outright.go:43", after := #[{ on := 2, ground := Ground.data }], guard := none } : Oper) := (Option.some.inj ho).symm
      obtain ⟨hf, hd⟩ := ready_dep hi ho
      have ef : f3 = false := hf
      have e2 : f2 = true := hd 2 (by decide)
      subst ef e2
      clear hf hd hi ho
      have q2 := hr2 rfl rfl
      simp only [sel_true, sel_false]
      go_simp
      refine Calls.mono (join_at2 _ _ a b c d j1 j2 J1.out J2.out q2) ?_
      rintro e W' ⟨rfl, hb⟩
      go_wp2_with fail
      refine hK.out _ _ ⟨true, true, f6, f7, f8, f9, f10, f11, r2, r6, g8, g9, rfl, rfl, hm.trans (hb.mono hz), fun h => by (cases h), fun h1 h2 => (hr6 h1 h2).stays hb (Nat.le_refl _), fun h => (hg8 h).below hb, fun h => (hg9 h).below hb, hn8_9, hs8, hs9⟩
    · exact absurd (show true = false from (ready_dep hi ho).1) (by decide)
    · exact absurd (show true = false from (ready_dep hi ho).1) (by decide)
    · obtain rfl : o = ({ dst := some 17, op := Op.buildSlice 50 2 #[(0, Operand.tmp 15), (1, Operand.tmp 16)], type := 50, pos := "outright.go:43", after := #[{ on := 4, ground := Ground.data }, { on := 5, ground := Ground.data }], guard := none } : Oper) := (Option.some.inj ho).symm
      obtain ⟨hf, hd⟩ := ready_dep hi ho
      have ef : f6 = false := hf
      subst ef 
      clear hf hd hi ho
      simp only [sel_false]
      go_simp
      have hb : Below W.heap.size W (W.alloc (.cells #[.int .i64 a, .int .i64 b, .int .i64 c, .int .i64 d] 23)) := (Below.refl _ W).alloc (Nat.le_refl _) _
      refine hK.out _ _ ⟨f2, f3, true, f7, f8, f9, f10, f11, r2, W.heap.size, g8, g9, rfl, rfl, hm.trans (hb.mono hz), fun h1 h2 => (hr2 h1 h2).stays hb (Nat.le_refl _), fun _ _ => row_two W a b c d _ rfl, fun h => (hg8 h).below hb, fun h => (hg9 h).below hb, hn8_9, hs8, hs9⟩
    · obtain rfl : o = ({ dst := some 18, op := Op.call { callee := Callee.value (Operand.func 23), args := #[Operand.tmp 17], argTypes := #[50] }, type := 23, pos := "outright.go:43", after := #[{ on := 6, ground := Ground.data }, { on := 3, ground := Ground.chain }], guard := none } : Oper) := (Option.some.inj ho).symm
      obtain ⟨hf, hd⟩ := ready_dep hi ho
      have ef : f7 = false := hf
      have e3 : f3 = true := hd 3 (by decide)
      have e6 : f6 = true := hd 6 (by decide)
      subst ef e3 e6
      clear hf hd hi ho
      have q6 := hr6 rfl rfl
      simp only [sel_true, sel_false]
      go_simp
      refine Calls.mono (meet_at2 _ _ a b c d m1 m2 HB.out.1 HB.out.2.1 HB.out.2.2.1 HB.out.2.2.2.1 M1.out M2.out q6) ?_
      rintro e W' ⟨rfl, hb⟩
      go_wp2_with fail
      refine hK.out _ _ ⟨f2, true, true, true, f8, f9, f10, f11, r2, r6, g8, g9, rfl, rfl, hm.trans (hb.mono hz), fun h => by (cases h), fun h => by (cases h), fun h => (hg8 h).below hb, fun h => (hg9 h).below hb, hn8_9, hs8, hs9⟩
    · obtain rfl : o = ({ dst := some 9, op := Op.alloc 23, type := 0, pos := "outright.go:43", after := #[], guard := none } : Oper) := (Option.some.inj ho).symm
      obtain ⟨hf, hd⟩ := ready_dep hi ho
      have ef : f8 = false := hf
      subst ef 
      clear hf hd hi ho
      have es : f10 = false := hs8 rfl
      subst es
      simp only [sel_false]
      go_simp
      have hb : Below W.heap.size W (W.alloc (.cells #[.int .i64 0, .int .i64 0] 23)) := (Below.refl _ W).alloc (Nat.le_refl _) _
      have FR := Loc.fresh (W0.heap.size) W j1 j2 (by omega)
      refine hK.out _ _ ⟨f2, f3, f6, f7, true, f9, false, f11, r2, r6, W.heap.size, g9, rfl, rfl, hm.trans (hb.mono hz), fun h1 h2 => (hr2 h1 h2).stays hb (Nat.le_refl _), fun h1 h2 => (hr6 h1 h2).stays hb (Nat.le_refl _), fun _ => FR, fun h => (hg9 h).below hb, fun _ h => by (have := (hg9 h).lt; omega), fun h => by (cases h), hs9⟩
    · obtain rfl : o = ({ dst := some 10, op := Op.alloc 23, type := 0, pos := "outright.go:43", after := #[], guard := none } : Oper) := (Option.some.inj ho).symm
      obtain ⟨hf, hd⟩ := ready_dep hi ho
      have ef : f9 = false := hf
      subst ef 
      clear hf hd hi ho
      have es : f11 = false := hs9 rfl
      subst es
      simp only [sel_false]
      go_simp
      have hb : Below W.heap.size W (W.alloc (.cells #[.int .i64 0, .int .i64 0] 23)) := (Below.refl _ W).alloc (Nat.le_refl _) _
      have FR := Loc.fresh (W0.heap.size) W m1 m2 (by omega)
      refine hK.out _ _ ⟨f2, f3, f6, f7, f8, true, f10, false, r2, r6, g8, W.heap.size, rfl, rfl, hm.trans (hb.mono hz), fun h1 h2 => (hr2 h1 h2).stays hb (Nat.le_refl _), fun h1 h2 => (hr6 h1 h2).stays hb (Nat.le_refl _), fun h => (hg8 h).below hb, fun _ => FR, fun h _ => by (have := (hg8 h).lt; omega), hs8, fun h => by (cases h)⟩
    · obtain rfl : o = ({ dst := none, op := Op.store 23 (Operand.tmp 9) (Operand.tmp 14), type := 0, pos := "outright.go:43", after := #[{ on := 8, ground := Ground.data }, { on := 3, ground := Ground.data }, { on := 7, ground := Ground.chain }, { on := 0, ground := Ground.phase }, { on := 1, ground := Ground.phase }, { on := 2, ground := Ground.phase }, { on := 3, ground := Ground.phase }, { on := 4, ground := Ground.textOnly Departure.lateStores }, { on := 5, ground := Ground.textOnly Departure.lateStores }, { on := 6, ground := Ground.textOnly Departure.lateStores }, { on := 7, ground := Ground.textOnly Departure.lateStoresUnsure }, { on := 8, ground := Ground.phase }, { on := 9, ground := Ground.phase }], guard := none } : Oper) := (Option.some.inj ho).symm
      obtain ⟨hf, hd⟩ := ready_dep hi ho
      have ef : f10 = false := hf
      have e2 : f2 = true := hd 2 (by decide)
      have e3 : f3 = true := hd 3 (by decide)
      have e7 : f7 = true := hd 7 (by decide)
      have e8 : f8 = true := hd 8 (by decide)
      have e9 : f9 = true := hd 9 (by decide)
      subst ef e2 e3 e7 e8 e9
      clear hf hd hi ho
      have L1 := hg8 rfl
      have c0 := L1.c0
      have c1 := L1.c1
      have q0 := L1.f0
      have q1 := L1.f1
      simp only [Bool.false_eq_true, if_false] at c0 c1
      have hnew := L1.new
      simp only [sel_true]
      go_simp
      refine hK.out _ _ ⟨true, true, f6, true, true, true, true, f11, r2, r6, g8, g9, rfl, rfl, below_set (below_set hm g8 0 _ (by omega)) g8 1 _ (by omega), fun h => by (cases h), fun h => by (cases h), fun _ => L1.store, fun h => (hg9 h).other (Ne.symm (hn8_9 rfl h)) _ _, hn8_9, fun h => by (cases h), fun h => by (cases h)⟩
    · obtain rfl : o = ({ dst := none, op := Op.store 23 (Operand.tmp 10) (Operand.tmp 18), type := 0, pos := "outright.go:43", after := #[{ on := 9, ground := Ground.data }, { on := 7, ground := Ground.data }, { on := 10, ground := Ground.chain }, { on := 0, ground := Ground.phase }, { on := 1, ground := Ground.phase }, { on := 2, ground := Ground.phase }, { on := 3, ground := Ground.phase }, { on := 4, ground := Ground.phase }, { on := 5, ground := Ground.phase }, { on := 6, ground := Ground.phase }, { on := 7, ground := Ground.phase }, { on := 8, ground := Ground.phase }, { on := 9, ground := Ground.phase }, { on := 10, ground := Ground.phase }], guard := none } : Oper) := (Option.some.inj ho).symm
      obtain ⟨hf, hd⟩ := ready_dep hi ho
      have ef : f11 = false := hf
      have e2 : f2 = true := hd 2 (by decide)
      have e3 : f3 = true := hd 3 (by decide)
      have e6 : f6 = true := hd 6 (by decide)
      have e7 : f7 = true := hd 7 (by decide)
      have e8 : f8 = true := hd 8 (by decide)
      have e9 : f9 = true := hd 9 (by decide)
      have e10 : f10 = true := hd 10 (by decide)
      subst ef e2 e3 e6 e7 e8 e9 e10
      clear hf hd hi ho
      have L1 := hg9 rfl
      have c0 := L1.c0
      have c1 := L1.c1
      have q0 := L1.f0
      have q1 := L1.f1
      simp only [Bool.false_eq_true, if_false] at c0 c1
      have hnew := L1.new
      simp only [sel_true]
      go_simp
      refine hK.out _ _ ⟨true, true, true, true, true, true, true, true, r2, r6, g8, g9, rfl, rfl, below_set (below_set hm g9 0 _ (by omega)) g9 1 _ (by omega), fun h => by (cases h), fun h => by (cases h), fun h => (hg8 h).other (hn8_9 h rfl) _ _, fun _ => L1.store, hn8_9, fun h => by (cases h), fun h => by (cases h)⟩
  · rintro l act W ⟨f2, f3, f6, f7, f8, f9, f10, f11, r2, r6, g8, g9, rfl, rfl, hm, hr2, hr6, hg8, hg9, hn8_9, hs8, hs9⟩ hall
    have e2 : f2 = true := hall 2 (by decide)
    have e3 : f3 = true := hall 3 (by decide)
    have e6 : f6 = true := hall 6 (by decide)
    have e7 : f7 = true := hall 7 (by decide)
    have e8 : f8 = true := hall 8 (by decide)
    have e9 : f9 = true := hall 9 (by decide)
    have e10 : f10 = true := hall 10 (by decide)
    have e11 : f11 = true := hall 11 (by decide)
    subst e2 e3 e6 e7 e8 e9 e10 e11
    clear hall
    simp only [sel_true]
    have L8 := hg8 rfl
    have L9 := hg9 rfl
    have c8a := L8.c0
    have c8b := L8.c1
    have c9a := L9.c0
    have c9b := L9.c1
    simp only [if_true] at c8a c8b c9a c9b
    have HKr : Hid (∀ W', Below W.heap.size W W' → W'.cell? ⟨w.heap.size, 0, none⟩ = some (.int .i64 a) ∧ W'.cell? ⟨w.heap.size, 1, none⟩ = some (.int .i64 b) ∧ W'.cell? ⟨w.heap.size + 1, 0, none⟩ = some (.int .i64 c) ∧ W'.cell? ⟨w.heap.size + 1, 1, none⟩ = some (.int .i64 d) ∧ W'.cell? ⟨w.heap.size + 1 + 1, 0, none⟩ = some (.int .i64 e) ∧ W'.cell? ⟨w.heap.size + 1 + 1, 1, none⟩ = some (.int .i64 f) ∧ W'.cell? ⟨g9, 0, none⟩ = some (.int .i64 m1) ∧ W'.cell? ⟨g9, 1, none⟩ = some (.int .i64 m2) ∧ W'.cell? ⟨g8, 0, none⟩ = some (.int .i64 j1) ∧ W'.cell? ⟨g8, 1, none⟩ = some (.int .i64 j2)) := fun W' kk => by
      obtain ⟨x1, x2, x3, x4, x5, x6⟩ := HK.out _ hm
      exact ⟨cell_later kk x1, cell_later kk x2, cell_later kk x3, cell_later kk x4, cell_later kk x5, cell_later kk x6, cell_later kk c9a, cell_later kk c9b, cell_later kk c8a, cell_later kk c8b⟩
    have HBW : Hid (Below w.heap.size w W) := HB0.out.trans (hm.mono HB0.out.size)
    have kb0 := Below.refl W.heap.size W
    clear hr2 hr6 hg8 hg9 hn8_9 hs8 hs9 L8 L9 c8a c8b c9a c9b hm HW0 hHeld HK J1 J2 M1 M2 m0
    obtain ⟨x1, x2, x3, x4, x5, x6, x7, x8, x9, x10⟩ := HKr.out _ kb0
    go_wp2_with fail
    refine Calls.mono (sin_any a b j1 j2 true _ I1.out) ?_
    clear x1 x2 x3 x4 x5 x6 x7 x8 x9 x10
    rintro e V0 ⟨rfl, hb⟩
    have kb1 := kb0.trans (hb.mono kb0.size)
    clear hb
    obtain ⟨x1, x2, x3, x4, x5, x6, x7, x8, x9, x10⟩ := HKr.out _ kb1
    go_wp2_with fail
    refine Calls.mono (sin_any c d j1 j2 true _ I2.out) ?_
    clear x1 x2 x3 x4 x5 x6 x7 x8 x9 x10
    rintro e V1 ⟨rfl, hb⟩
    have kb2 := kb1.trans (hb.mono kb1.size)
    clear hb
    obtain ⟨x1, x2, x3, x4, x5, x6, x7, x8, x9, x10⟩ := HKr.out _ kb2
    go_wp2_with fail
    refine Calls.mono (sin_any m1 m2 a b true _ I3.out) ?_
    clear x1 x2 x3 x4 x5 x6 x7 x8 x9 x10
    rintro e V2 ⟨rfl, hb⟩
    have kb3 := kb2.trans (hb.mono kb2.size)
    clear hb
    obtain ⟨x1, x2, x3, x4, x5, x6, x7, x8, x9, x10⟩ := HKr.out _ kb3
    go_wp2_with fail
    refine Calls.mono (sin_any m1 m2 c d true _ I4.out) ?_
    clear x1 x2 x3 x4 x5 x6 x7 x8 x9 x10
    rintro e V3 ⟨rfl, hb⟩
    have kb4 := kb3.trans (hb.mono kb3.size)
    clear hb
    obtain ⟨x1, x2, x3, x4, x5, x6, x7, x8, x9, x10⟩ := HKr.out _ kb4
    go_wp2_with fail
    refine Calls.mono (sin_any a b e f false _ Hhp1.out) ?_
    clear x1 x2 x3 x4 x5 x6 x7 x8 x9 x10
    rintro e V4 ⟨rfl, hb⟩
    have kb5 := kb4.trans (hb.mono kb4.size)
    clear hb
    obtain ⟨x1, x2, x3, x4, x5, x6, x7, x8, x9, x10⟩ := HKr.out _ kb5
    go_wp2_with fail
    refine Calls.mono (sin_any e f a b true _ Hhq1.out) ?_
    clear x1 x2 x3 x4 x5 x6 x7 x8 x9 x10
    rintro e V5 ⟨rfl, hb⟩
    have kb6 := kb5.trans (hb.mono kb5.size)
    clear hb
    obtain ⟨x1, x2, x3, x4, x5, x6, x7, x8, x9, x10⟩ := HKr.out _ kb6
    go_wp2_with fail
    refine Calls.mono (sin_any e f c d true _ Hhq2.out) ?_
    clear x1 x2 x3 x4 x5 x6 x7 x8 x9 x10
    rintro e V6 ⟨rfl, hb⟩
    have kb7 := kb6.trans (hb.mono kb6.size)
    clear hb
    obtain ⟨x1, x2, x3, x4, x5, x6, x7, x8, x9, x10⟩ := HKr.out _ kb7
    go_wp2_with fail
    refine Calls.mono (sin_any e f m1 m2 true _ (I6.out Hhq1.out Hhq2.out)) ?_
    clear x1 x2 x3 x4 x5 x6 x7 x8 x9 x10
    rintro e V7 ⟨rfl, hb⟩
    have kb8 := kb7.trans (hb.mono kb7.size)
    clear hb
    obtain ⟨x1, x2, x3, x4, x5, x6, x7, x8, x9, x10⟩ := HKr.out _ kb8
    have HBV : Hid (Below w.heap.size w V7) := HBW.out.trans (kb8.mono HBW.out.size)
    have HS : ∀ W' : World, W' = V7 → W'.cell? ⟨w.heap.size, 0, none⟩ = some (.int .i64 a) ∧ W'.cell? ⟨w.heap.size, 1, none⟩ = some (.int .i64 b) ∧ W'.cell? ⟨w.heap.size + 1, 0, none⟩ = some (.int .i64 c) ∧ W'.cell? ⟨w.heap.size + 1, 1, none⟩ = some (.int .i64 d) ∧ W'.cell? ⟨w.heap.size + 1 + 1, 0, none⟩ = some (.int .i64 e) ∧ W'.cell? ⟨w.heap.size + 1 + 1, 1, none⟩ = some (.int .i64 f) ∧ W'.cell? ⟨g9, 0, none⟩ = some (.int .i64 m1) ∧ W'.cell? ⟨g9, 1, none⟩ = some (.int .i64 m2) := fun W' hW => by rw [hW]; exact ⟨x1, x2, x3, x4, x5, x6, x7, x8⟩
    go_wp2_with fail
    have HI7 := I7.out n
    by_cases hx : a ≤ n ∧ n ≤ b
    · by_cases hy : c ≤ n ∧ n ≤ d
      · refine lat_tail_tt a b c d e f n m1 m2 w _ _ _ _ _ _ _ _ _ _ _ _ _ _ _ _ _ _ _ _ _ _ _ _ _ _ _ _ _ _ _ _ _ _ _ _ _ _ _ _ _ _ _ _ _ _ _ _ _ _ _ _ _ _ _ _ _ _ _ _ _ _ _ _ _ _ HB.out (fun c a dd vv w h => by cases dd <;> exact h) HBV.out HS hx hy (HI7.2 ⟨hx, hy⟩) ?_
        intro X _ _ _ _ _ _ _ _ _ _ _ _ _ _ _ _ _ _ hX
        go_wp2
        go_ret
        exact ⟨rfl, hX⟩
      · refine lat_tail_tf a b c d e f n m1 m2 w _ _ _ _ _ _ _ _ _ _ _ _ _ _ _ _ _ _ _ _ _ _ _ _ _ _ _ _ _ _ _ _ _ _ _ _ _ _ _ _ _ _ _ _ _ _ _ _ _ _ _ _ _ _ _ _ _ _ _ _ _ _ _ _ _ _ HB.out (fun c a dd vv w h => by cases dd <;> exact h) HBV.out HS hx (by omega) (by omega) ?_
        intro X _ _ _ _ _ _ _ _ _ _ _ _ _ _ _ _ _ _ hX
        go_wp2
        go_ret
        exact ⟨rfl, hX⟩
    · refine lat_tail_f a b c d e f n m1 m2 w _ _ _ _ _ _ _ _ _ _ _ _ _ _ _ _ _ _ _ _ _ _ _ _ _ _ _ _ _ _ _ _ _ _ _ _ _ _ _ _ _ _ _ _ _ _ _ _ _ _ _ _ _ _ _ _ _ _ _ _ _ _ _ _ _ _ HB.out (fun c a dd vv w h => by cases dd <;> exact h) HBV.out HS (by omega) trivial (by omega) ?_
      intro X _ _ _ _ _ _ _ _ _ _ _ _ _ _ _ _ _ _ hX
      go_wp2
      go_ret
      exact ⟨rfl, hX⟩
  · exact ⟨false, false, false, false, false, false, false, false, 0, 0, 0, 0, by decide, rfl, m0, fun _ h => by (cases h), fun _ h => by (cases h), fun h => by (cases h), fun h => by (cases h), fun h => by (cases h), fun _ => rfl, fun _ => rfl⟩
end Go.Proofs.Ythnhlgiibiephab
