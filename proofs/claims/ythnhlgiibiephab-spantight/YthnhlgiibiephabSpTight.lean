/- SpanTight: the law's walk. Conditions: none but the numbers' own ranges. -/
import Derived.Test.YthnhlgiibiephabLoc
namespace Go.Proofs.Ythnhlgiibiephab
open Go.RowKit
set_option linter.unusedVariables false
set_option maxRecDepth 100000

set_option maxHeartbeats 2000000 in
theorem tight_nx (a b c d k : Int) (w : World) (h1 : b < a) : Calls Try.prog 6 #[(.agg #[.int .i64 a, .int .i64 b]), (.agg #[.int .i64 c, .int .i64 d]), .int .i64 k] w fun e w' => e = .returned (.bool true) ∧ Below w.heap.size w w' := by
  go_enter Try.func6, Try.ntmps6
  go_wp2_with fail
  refine Calls.mono (sempty_any a b true _ (by simp; omega)) ?_
  rintro e w1 ⟨rfl, hb⟩
  have B1 : Below (w.heap.size + 1 + 1) ((w.alloc (.cells #[.int .i64 a, .int .i64 b] 23)).alloc (.cells #[.int .i64 c, .int .i64 d] 23)) w1 := by simpa using hb
  have HB1 : Hid (Below (w.heap.size + 1 + 1) ((w.alloc (.cells #[.int .i64 a, .int .i64 b] 23)).alloc (.cells #[.int .i64 c, .int .i64 d] 23)) w1) := B1
  have HW1 : Hid (Below w.heap.size w w1) := (((Below.refl _ w).alloc (Nat.le_refl _) _).alloc (by simp) _).trans (B1.mono (by omega))
  have q3 : w1.cell? ⟨w.heap.size + 1, 0, none⟩ = some (.int .i64 c) := (B1.cell (p := ⟨w.heap.size + 1, 0, none⟩) (by simp)).trans (by simp [go_sem])
  have q4 : w1.cell? ⟨w.heap.size + 1, 1, none⟩ = some (.int .i64 d) := (B1.cell (p := ⟨w.heap.size + 1, 1, none⟩) (by simp)).trans (by simp [go_sem])
  clear hb B1
  go_wp2_with fail
  refine Calls.mono (salive_any _) ?_
  rintro e w9 ⟨rfl, hb⟩
  have HB9 : Hid (Below w.heap.size w w9) := HW1.out.trans (hb.mono HW1.out.size)
  clear hb
  go_wp2
  go_ret
  exact ⟨rfl, HB9.out⟩

set_option maxHeartbeats 2000000 in
theorem tight_ny (a b c d k : Int) (w : World) (h1 : a ≤ b) (h2 : d < c) : Calls Try.prog 6 #[(.agg #[.int .i64 a, .int .i64 b]), (.agg #[.int .i64 c, .int .i64 d]), .int .i64 k] w fun e w' => e = .returned (.bool true) ∧ Below w.heap.size w w' := by
  go_enter Try.func6, Try.ntmps6
  go_wp2_with fail
  refine Calls.mono (sempty_any a b false _ (by simp; omega)) ?_
  rintro e w1 ⟨rfl, hb⟩
  have B1 : Below (w.heap.size + 1 + 1) ((w.alloc (.cells #[.int .i64 a, .int .i64 b] 23)).alloc (.cells #[.int .i64 c, .int .i64 d] 23)) w1 := by simpa using hb
  have HB1 : Hid (Below (w.heap.size + 1 + 1) ((w.alloc (.cells #[.int .i64 a, .int .i64 b] 23)).alloc (.cells #[.int .i64 c, .int .i64 d] 23)) w1) := B1
  have HW1 : Hid (Below w.heap.size w w1) := (((Below.refl _ w).alloc (Nat.le_refl _) _).alloc (by simp) _).trans (B1.mono (by omega))
  have q3 : w1.cell? ⟨w.heap.size + 1, 0, none⟩ = some (.int .i64 c) := (B1.cell (p := ⟨w.heap.size + 1, 0, none⟩) (by simp)).trans (by simp [go_sem])
  have q4 : w1.cell? ⟨w.heap.size + 1, 1, none⟩ = some (.int .i64 d) := (B1.cell (p := ⟨w.heap.size + 1, 1, none⟩) (by simp)).trans (by simp [go_sem])
  clear hb B1
  go_wp2_with fail
  refine Calls.mono (sempty_any c d true _ (by simp; omega)) ?_
  rintro e w2 ⟨rfl, hb⟩
  have B2 : Below (w.heap.size + 1 + 1) ((w.alloc (.cells #[.int .i64 a, .int .i64 b] 23)).alloc (.cells #[.int .i64 c, .int .i64 d] 23)) w2 := HB1.out.trans (hb.mono (by have := HB1.out.size; simpa using this))
  have HB2 : Hid (Below (w.heap.size + 1 + 1) ((w.alloc (.cells #[.int .i64 a, .int .i64 b] 23)).alloc (.cells #[.int .i64 c, .int .i64 d] 23)) w2) := B2
  have HW2 : Hid (Below w.heap.size w w2) := HW1.out.trans (hb.mono HW1.out.size)
  have p1 : w2.cell? ⟨w.heap.size, 0, none⟩ = some (.int .i64 a) := (B2.cell (p := ⟨w.heap.size, 0, none⟩) (by simp; omega)).trans (by simp [go_sem])
  have p2 : w2.cell? ⟨w.heap.size, 1, none⟩ = some (.int .i64 b) := (B2.cell (p := ⟨w.heap.size, 1, none⟩) (by simp; omega)).trans (by simp [go_sem])
  have p3 : w2.cell? ⟨w.heap.size + 1, 0, none⟩ = some (.int .i64 c) := (B2.cell (p := ⟨w.heap.size + 1, 0, none⟩) (by simp)).trans (by simp [go_sem])
  have p4 : w2.cell? ⟨w.heap.size + 1, 1, none⟩ = some (.int .i64 d) := (B2.cell (p := ⟨w.heap.size + 1, 1, none⟩) (by simp)).trans (by simp [go_sem])
  have z2 : w.heap.size + 1 < w2.heap.size := by have := B2.size; simp at this; omega
  have z1 : w.heap.size < w2.heap.size := by omega
  clear hb B2 q3 q4
  go_wp2_with fail
  refine Calls.mono (salive_any _) ?_
  rintro e w9 ⟨rfl, hb⟩
  have HB9 : Hid (Below w.heap.size w w9) := HW2.out.trans (hb.mono HW2.out.size)
  clear hb
  go_wp2
  go_ret
  exact ⟨rfl, HB9.out⟩

set_option maxHeartbeats 16000000 in
theorem tight_pos (a b c d k : Int) (w : World) (ha : B64 a) (hb' : B64 b) (hc' : B64 c) (hd' : B64 d) (hk : B64 k) (h1 : a ≤ b) (h2 : c ≤ d) (hs : 0 ≤ k) :
    Calls Try.prog 6 #[(.agg #[.int .i64 a, .int .i64 b]), (.agg #[.int .i64 c, .int .i64 d]), .int .i64 k] w fun e w' => e = .returned (.bool true) ∧ Below w.heap.size w w' := by
  obtain ⟨p1, hp1⟩ : ∃ z, clampF (a + c) = z := ⟨_, rfl⟩
  obtain ⟨p2, hp2⟩ : ∃ z, clampF (b + d) = z := ⟨_, rfl⟩
  obtain ⟨t1, ht1⟩ : ∃ z, crossLo a b k k = z := ⟨_, rfl⟩
  obtain ⟨t2, ht2⟩ : ∃ z, crossHi a b k k = z := ⟨_, rfl⟩
  obtain ⟨op, hop⟩ : ∃ z, (overF (a + c) || overF (b + d)) = z := ⟨_, rfl⟩
  obtain ⟨ot, hot⟩ : ∃ z, (crossOv a b k k false || crossOv a b k k true) = z := ⟨_, rfl⟩
  have HP' : Hid (∀ v W o g, Live w v W o → SpanRow W (some ⟨g, 0, none⟩) [(a, b), (c, d)] → g ≠ v → Calls Try.prog 14 #[.pointer (some ⟨v, 0, none⟩), .slice (some ⟨g, 0, none⟩) 2 2] W fun e W' => e = .returned ((.agg #[.int .i64 p1, .int .i64 p2])) ∧ Live w v W' (o || op) ∧ Kept v W W') := fun v W o g l hr hg => by
    have t := plus_at l a b c d h1 h2 ha hb' hc' hd' g hr hg
    rw [hp1, hp2, hop] at t
    exact Calls.mono t fun e W' t => ⟨t.1, t.2.1, t.2.2⟩
  have HT' : Hid (∀ v W o, Live w v W o → Calls Try.prog 13 #[.pointer (some ⟨v, 0, none⟩), (.agg #[.int .i64 a, .int .i64 b]), .int .i64 k] W fun e W' => e = .returned ((.agg #[.int .i64 t1, .int .i64 t2])) ∧ Live w v W' (o || ot) ∧ Kept v W W') := fun v W o l => by
    have t := stimes_some l a b k h1 ha hb' hk
    rw [ht1, ht2, hot] at t
    exact Calls.mono t fun e W' t => ⟨t.1, t.2.1, t.2.2⟩
  have HM' : Hid (∀ u W o x up, B64 x → Live w u W o → Calls Try.prog 21 #[.pointer (some ⟨u, 0, none⟩), .int .i64 x, .int .i64 k, .bool up] W (Says w u o W (mulF x k up))) := fun u W o x up hx l => mul_live l up hx.1 hx.2 hk.1 hk.2
  have HA1' : Hid (∀ u W o g, Live w u W o → IntRow W (some ⟨g, 0, none⟩) [a, c] → Calls Try.prog 19 #[.pointer (some ⟨u, 0, none⟩), .slice (some ⟨g, 0, none⟩) 2 2] W fun e W' => e = .returned (.int .i64 p1) ∧ Live w u W' (o || overF (a + c)) ∧ Kept u W W') := fun u W o g l hr => by
    have t := add_at l a c ha hc' g hr
    rw [← hp1]
    exact t
  have HA2' : Hid (∀ u W o g, Live w u W o → IntRow W (some ⟨g, 0, none⟩) [b, d] → Calls Try.prog 19 #[.pointer (some ⟨u, 0, none⟩), .slice (some ⟨g, 0, none⟩) 2 2] W fun e W' => e = .returned (.int .i64 p2) ∧ Live w u W' (o || overF (b + d)) ∧ Kept u W W') := fun u W o g l hr => by
    have t := add_at l b d hb' hd' g hr
    rw [← hp2]
    exact t
  have HBs : Hid (B64 a ∧ B64 b) := ⟨ha, hb'⟩
  have E1 : Hid (t1 = clampF (mulF a k false)) := by rw [← ht1]; exact (cross_pos h1 (by omega)).1
  have E2 : Hid (t2 = clampF (mulF b k true)) := by rw [← ht2]; exact (cross_pos h1 (by omega)).2
  have hk1 : decide (k < 0) = false := by simp; omega
  clear hp1 hp2 ht1 ht2 hop hot ha hb' hc' hd' hk
  go_enter Try.func6, Try.ntmps6
  go_wp2_with fail
  refine Calls.mono (sempty_any a b false _ (by simp; omega)) ?_
  rintro e w1 ⟨rfl, hb⟩
  have B1 : Below (w.heap.size + 1 + 1) ((w.alloc (.cells #[.int .i64 a, .int .i64 b] 23)).alloc (.cells #[.int .i64 c, .int .i64 d] 23)) w1 := by simpa using hb
  have HB1 : Hid (Below (w.heap.size + 1 + 1) ((w.alloc (.cells #[.int .i64 a, .int .i64 b] 23)).alloc (.cells #[.int .i64 c, .int .i64 d] 23)) w1) := B1
  have HW1 : Hid (Below w.heap.size w w1) := (((Below.refl _ w).alloc (Nat.le_refl _) _).alloc (by simp) _).trans (B1.mono (by omega))
  have q3 : w1.cell? ⟨w.heap.size + 1, 0, none⟩ = some (.int .i64 c) := (B1.cell (p := ⟨w.heap.size + 1, 0, none⟩) (by simp)).trans (by simp [go_sem])
  have q4 : w1.cell? ⟨w.heap.size + 1, 1, none⟩ = some (.int .i64 d) := (B1.cell (p := ⟨w.heap.size + 1, 1, none⟩) (by simp)).trans (by simp [go_sem])
  clear hb B1
  go_wp2_with fail
  refine Calls.mono (sempty_any c d false _ (by simp; omega)) ?_
  rintro e w2 ⟨rfl, hb⟩
  have B2 : Below (w.heap.size + 1 + 1) ((w.alloc (.cells #[.int .i64 a, .int .i64 b] 23)).alloc (.cells #[.int .i64 c, .int .i64 d] 23)) w2 := HB1.out.trans (hb.mono (by have := HB1.out.size; simpa using this))
  have HB2 : Hid (Below (w.heap.size + 1 + 1) ((w.alloc (.cells #[.int .i64 a, .int .i64 b] 23)).alloc (.cells #[.int .i64 c, .int .i64 d] 23)) w2) := B2
  have HW2 : Hid (Below w.heap.size w w2) := HW1.out.trans (hb.mono HW1.out.size)
  have p1' : w2.cell? ⟨w.heap.size, 0, none⟩ = some (.int .i64 a) := (B2.cell (p := ⟨w.heap.size, 0, none⟩) (by simp; omega)).trans (by simp [go_sem])
  have p2' : w2.cell? ⟨w.heap.size, 1, none⟩ = some (.int .i64 b) := (B2.cell (p := ⟨w.heap.size, 1, none⟩) (by simp; omega)).trans (by simp [go_sem])
  have p3' : w2.cell? ⟨w.heap.size + 1, 0, none⟩ = some (.int .i64 c) := (B2.cell (p := ⟨w.heap.size + 1, 0, none⟩) (by simp)).trans (by simp [go_sem])
  have p4' : w2.cell? ⟨w.heap.size + 1, 1, none⟩ = some (.int .i64 d) := (B2.cell (p := ⟨w.heap.size + 1, 1, none⟩) (by simp)).trans (by simp [go_sem])
  have z2 : w.heap.size + 1 < w2.heap.size := by have := B2.size; simp at this; omega
  have z1 : w.heap.size < w2.heap.size := by omega
  clear hb B2 q3 q4
  have lb1 := Live.sacc w (w2.alloc (.cells #[.bool false] 30)) false 28 (HW2.out.alloc HW2.out.size _)
  have la1 := (Live.sacc w w2 false 30 HW2.out).alloc (.cells #[.bool false] 28)
  have e1 : (w2.alloc (.cells #[.bool false] 30)).heap.size = w2.heap.size + 1 := by simp
  rw [e1] at lb1
  obtain ⟨v, hv⟩ : ∃ v, w2.heap.size = v := ⟨_, rfl⟩
  obtain ⟨u, hu⟩ : ∃ u, v + 1 = u := ⟨_, rfl⟩
  have s0 : ((w2.alloc (.cells #[.bool false] 30)).alloc (.cells #[.bool false] 28)).heap.size = u + 1 := by simp; omega
  rw [hv] at la1 lb1
  rw [hu] at lb1
  have hne01 : v ≠ u := by omega
  have hne10 : u ≠ v := by omega
  have y1 : w.heap.size + 1 < v := by omega
  have hvu : v < u := by omega
  have HV : Hid (w2.heap.size = v) := hv
  have HU : Hid (v + 1 = u) := hu
  have HK : Hid (∀ W', Kept2 v u ((w2.alloc (.cells #[.bool false] 30)).alloc (.cells #[.bool false] 28)) W' → W'.cell? ⟨w.heap.size, 0, none⟩ = some (.int .i64 a) ∧ W'.cell? ⟨w.heap.size, 1, none⟩ = some (.int .i64 b) ∧ W'.cell? ⟨w.heap.size + 1, 0, none⟩ = some (.int .i64 c) ∧ W'.cell? ⟨w.heap.size + 1, 1, none⟩ = some (.int .i64 d)) := fun W' k => by
    have f1 : w.heap.size < w2.heap.size := by omega
    have f2 : w.heap.size < w2.heap.size + 1 := by omega
    have f3 : w.heap.size + 1 < w2.heap.size := by omega
    have f4 : w.heap.size + 1 < w2.heap.size + 1 := by omega
    exact ⟨k.cell (by simp [go_sem, f1, f2, p1']) (by omega) (by omega), k.cell (by simp [go_sem, f1, f2, p2']) (by omega) (by omega), k.cell (by simp [go_sem, f3, f4, p3']) (by omega) (by omega), k.cell (by simp [go_sem, f3, f4, p4']) (by omega) (by omega)⟩
  obtain ⟨W0, hW0⟩ : ∃ Z, ((w2.alloc (.cells #[.bool false] 30)).alloc (.cells #[.bool false] 28)) = Z := ⟨_, rfl⟩
  have l0 : Live w v W0.drew false := by rw [← hW0]; exact la1.drew
  have l1 : Live w u W0.drew false := by rw [← hW0]; exact lb1.drew
  have m0 : Kept2 v u W0 W0.drew := Kept2.drew v u _
  have HW0 : Hid (((w2.alloc (.cells #[.bool false] 30)).alloc (.cells #[.bool false] 28)) = W0) := hW0
  rw [hW0] at HK s0
  clear p1' p2' p3' p4' hv hu hW0 HB1 HB2 HW1 HW2 la1 lb1 e1
  go_wp2_with fail
  rw [HW0.out, HV.out, HU.out]
  refine wp_region_held_drew (S := fun W' => W'.cell? ⟨w.heap.size, 0, none⟩ = some (.int .i64 a) ∧ W'.cell? ⟨w.heap.size, 1, none⟩ = some (.int .i64 b) ∧ W'.cell? ⟨w.heap.size + 1, 0, none⟩ = some (.int .i64 c) ∧ W'.cell? ⟨w.heap.size + 1, 1, none⟩ = some (.int .i64 d)) (by kernel_rfl) (HK.out _ m0) (fun hHeld => ?_)
  refine wpAnyH_take (i := 0) (oi := { dst := some 24, op := Op.move (Operand.tmp 7), type := 26, pos := "outright.go:33", after := #[], guard := none }) (v := ?_) rfl (by kernel_rfl) (by kernel_rfl) (by kernel_rfl) (fun _ _ _ h => h) (Or.inl ⟨by rfl, ?_⟩) hHeld ?_
  rotate_left
  · (intro w hSw; (try dsimp only at hSw); go_simp; all_goals (try with_reducible rfl))
  try simp only [Act.put, List.setIfInBounds_toArray, List.set_cons_zero, List.set_cons_succ]
  refine wpAnyH_take (i := 1) (oi := { dst := some 25, op := Op.load 23 (Operand.tmp 3), type := 23, pos := "outright.go:33", after := #[], guard := none }) (v := ?_) rfl (by kernel_rfl) (by kernel_rfl) (by kernel_rfl) (fun _ _ _ h => h) (Or.inl ⟨by rfl, ?_⟩) hHeld ?_
  rotate_left
  · (intro w hSw; (try dsimp only at hSw); go_simp; all_goals (try with_reducible rfl))
  try simp only [Act.put, List.setIfInBounds_toArray, List.set_cons_zero, List.set_cons_succ]
  refine wpAnyH_take (i := 2) (oi := { dst := some 26, op := Op.load 23 (Operand.tmp 4), type := 23, pos := "outright.go:33", after := #[], guard := none }) (v := ?_) rfl (by kernel_rfl) (by kernel_rfl) (by kernel_rfl) (fun _ _ _ h => h) (Or.inl ⟨by rfl, ?_⟩) hHeld ?_
  rotate_left
  · (intro w hSw; (try dsimp only at hSw); go_simp; all_goals (try with_reducible rfl))
  try simp only [Act.put, List.setIfInBounds_toArray, List.set_cons_zero, List.set_cons_succ]
  refine wpAnyH_take (i := 5) (oi := { dst := some 29, op := Op.move (Operand.tmp 7), type := 26, pos := "outright.go:33", after := #[], guard := none }) (v := ?_) rfl (by kernel_rfl) (by kernel_rfl) (by kernel_rfl) (fun _ _ _ h => h) (Or.inl ⟨by rfl, ?_⟩) hHeld ?_
  rotate_left
  · (intro w hSw; (try dsimp only at hSw); go_simp; all_goals (try with_reducible rfl))
  try simp only [Act.put, List.setIfInBounds_toArray, List.set_cons_zero, List.set_cons_succ]
  refine wpAnyH_take (i := 6) (oi := { dst := some 30, op := Op.load 23 (Operand.tmp 3), type := 23, pos := "outright.go:33", after := #[], guard := none }) (v := ?_) rfl (by kernel_rfl) (by kernel_rfl) (by kernel_rfl) (fun _ _ _ h => h) (Or.inl ⟨by rfl, ?_⟩) hHeld ?_
  rotate_left
  · (intro w hSw; (try dsimp only at hSw); go_simp; all_goals (try with_reducible rfl))
  try simp only [Act.put, List.setIfInBounds_toArray, List.set_cons_zero, List.set_cons_succ]
  refine wpAnyH_take (i := 7) (oi := { dst := some 31, op := Op.move (Operand.tmp 2), type := 3, pos := "outright.go:33", after := #[], guard := none }) (v := ?_) rfl (by kernel_rfl) (by kernel_rfl) (by kernel_rfl) (fun _ _ _ h => h) (Or.inl ⟨by rfl, ?_⟩) hHeld ?_
  rotate_left
  · (intro w hSw; (try dsimp only at hSw); go_simp; all_goals (try with_reducible rfl))
  try simp only [Act.put, List.setIfInBounds_toArray, List.set_cons_zero, List.set_cons_succ]
  refine inv_any (fun l act W => ∃ f3 f4 f8 f9 f10 f11 f12 : Bool, ∃ r g9 g10 : Nat, ∃ oo : Bool, l = #[true, true, true, f3, f4, true, true, true, f8, f9, f10, f11, f12] ∧ act = { tmps := #[Value.agg #[Value.int IntKind.i64 a, Value.int IntKind.i64 b], Value.agg #[Value.int IntKind.i64 c, Value.int IntKind.i64 d], Value.int IntKind.i64 k, Value.pointer (some { block := w.heap.size, off := 0 }), Value.pointer (some { block := w.heap.size + 1, off := 0 }), undef, Value.bool false, Value.pointer (some { block := v, off := 0 }), Value.pointer (some { block := u, off := 0 }), sel f9 (Value.pointer (some ⟨g9, 0, none⟩)), sel f10 (Value.pointer (some ⟨g10, 0, none⟩)), undef, undef, Value.agg #[Value.int IntKind.i64 a, Value.int IntKind.i64 b], Value.bool false, Value.bool false, Value.agg #[Value.int IntKind.i64 c, Value.int IntKind.i64 d], Value.bool false, Value.bool false, undef, Value.agg #[Value.bool false], Value.pointer (some { block := v, off := 0 }), Value.agg #[Value.bool false], Value.pointer (some { block := u, off := 0 }), Value.pointer (some { block := v, off := 0 }), Value.agg #[Value.int IntKind.i64 a, Value.int IntKind.i64 b], Value.agg #[Value.int IntKind.i64 c, Value.int IntKind.i64 d], sel f3 (Value.slice (some ⟨r, 0, none⟩) 2 2), sel f4 (Value.agg #[.int .i64 p1, .int .i64 p2]), Value.pointer (some { block := v, off := 0 }), Value.agg #[Value.int IntKind.i64 a, Value.int IntKind.i64 b], Value.int IntKind.i64 k, sel f8 (Value.agg #[.int .i64 t1, .int .i64 t2]), undef, undef, undef, undef, undef, undef, undef, undef, undef, undef, undef, undef, undef, undef, undef, undef, undef, undef, undef, undef, undef, undef, undef, undef, undef, undef, undef, undef, undef, undef, undef, undef, undef, undef, undef, undef, undef, undef, undef, undef, undef, undef, undef, undef, undef, undef, undef, undef, undef, undef, undef, undef, undef, undef, undef, undef, undef, undef, undef], defers := [] } ∧ Live w v W oo ∧ Live w u W false ∧ Kept2 v u W0 W ∧ (f4 = false → f3 = true → SpanRow W (some ⟨r, 0, none⟩) [(a, b), (c, d)] ∧ r ≠ v ∧ r ≠ u) ∧ (f9 = true → Loc (u + 1) W g9 f11 p1 p2) ∧ (f10 = true → Loc (u + 1) W g10 f12 t1 t2) ∧ (f9 = true → f10 = true → g9 ≠ g10) ∧ (f9 = false → f11 = false) ∧ (f10 = false → f12 = false)) (by kernel_rfl) ?_ ?_ ?_ _ _ _ _ (by decide) (by decide) ?_
  · rintro l act W ⟨f3, f4, f8, f9, f10, f11, f12, r, g9, g10, oo, rfl, rfl, hl, hl2, hm, hr, hg9, hg10, hgg, hs1, hs2⟩
    exact HK.out _ hm
  · rintro l act W ⟨f3, f4, f8, f9, f10, f11, f12, r, g9, g10, oo, rfl, rfl, hl, hl2, hm, hr, hg9, hg10, hgg, hs1, hs2⟩ i o hi ho K' hK
    have hlt := ready_lt hi
    have hlt' : i < 13 := hlt
    have hcase : i = 0 ∨ i = 1 ∨ i = 2 ∨ i = 3 ∨ i = 4 ∨ i = 5 ∨ i = 6 ∨ i = 7 ∨ i = 8 ∨ i = 9 ∨ i = 10 ∨ i = 11 ∨ i = 12 := by omega
    clear hlt hlt'
    have hz := hm.size
    rcases hcase with rfl | rfl | rfl | rfl | rfl | rfl | rfl | rfl | rfl | rfl | rfl | rfl | rfl
    · exact absurd (show true = false from (ready_dep hi ho).1) (by decide)
    · exact absurd (show true = false from (ready_dep hi ho).1) (by decide)
    · exact absurd (show true = false from (ready_dep hi ho).1) (by decide)
    · obtain rfl : o = ({ dst := some 27, op := Op.buildSlice 50 2 #[(0, Operand.tmp 25), (1, Operand.tmp 26)], type := 50, pos := "outright.go:33", after := #[{ on := 1, ground := Ground.data }, { on := 2, ground := Ground.data }], guard := none } : Oper) := (Option.some.inj ho).symm
      obtain ⟨hf, hd⟩ := ready_dep hi ho
      have ef : f3 = false := hf
      subst ef 
      clear hf hd hi ho
      simp only [sel_false]
      go_simp
      have hb : Below W.heap.size W (W.alloc (.cells #[.int .i64 a, .int .i64 b, .int .i64 c, .int .i64 d] 23)) := (Below.refl _ W).alloc (Nat.le_refl _) _
      have ho1 := hl.old
      have ho2 := hl2.old
      refine hK.out _ _ ⟨true, f4, f8, f9, f10, f11, f12, W.heap.size, g9, g10, oo, rfl, rfl, hl.stays hb, hl2.stays hb, hm.below hb, fun _ _ => ⟨row_two W a b c d _ rfl, by omega, by omega⟩, fun h => (hg9 h).below hb, fun h => (hg10 h).below hb, hgg, hs1, hs2⟩
    · obtain rfl : o = ({ dst := some 28, op := Op.call { callee := Callee.value (Operand.func 14), args := #[Operand.tmp 24, Operand.tmp 27], argTypes := #[26, 50] }, type := 23, pos := "outright.go:33", after := #[{ on := 0, ground := Ground.data }, { on := 3, ground := Ground.data }], guard := none } : Oper) := (Option.some.inj ho).symm
      obtain ⟨hf, hd⟩ := ready_dep hi ho
      have ef : f4 = false := hf
      have e3 : f3 = true := hd 3 (by decide)
      subst ef e3
      clear hf hd hi ho
      obtain ⟨hr1, hr2, hr3⟩ := hr rfl rfl
      simp only [sel_true, sel_false]
      go_simp
      refine Calls.mono (HP'.out _ _ _ _ hl hr1 hr2) ?_
      rintro e W' ⟨rfl, lx, kx⟩
      have hlv := kx.size
      go_wp2_with fail
      refine hK.out _ _ ⟨true, true, f8, f9, f10, f11, f12, r, g9, g10, _, rfl, rfl, lx, hl2.kept kx hne10 hl.new, hm.left kx, fun h => by (cases h), fun h => (hg9 h).kept kx (by omega), fun h => (hg10 h).kept kx (by omega), hgg, hs1, hs2⟩
    · exact absurd (show true = false from (ready_dep hi ho).1) (by decide)
    · exact absurd (show true = false from (ready_dep hi ho).1) (by decide)
    · exact absurd (show true = false from (ready_dep hi ho).1) (by decide)
    · obtain rfl : o = ({ dst := some 32, op := Op.call { callee := Callee.value (Operand.func 13), args := #[Operand.tmp 29, Operand.tmp 30, Operand.tmp 31], argTypes := #[26, 23, 3] }, type := 23, pos := "outright.go:33", after := #[{ on := 5, ground := Ground.data }, { on := 6, ground := Ground.data }, { on := 7, ground := Ground.data }, { on := 4, ground := Ground.chain }], guard := none } : Oper) := (Option.some.inj ho).symm
      obtain ⟨hf, hd⟩ := ready_dep hi ho
      have ef : f8 = false := hf
      have e4 : f4 = true := hd 4 (by decide)
      subst ef e4
      clear hf hd hi ho
      simp only [sel_true, sel_false]
      go_simp
      refine Calls.mono (HT'.out _ _ _ hl) ?_
      rintro e W' ⟨rfl, lx, kx⟩
      go_wp2_with fail
      refine hK.out _ _ ⟨f3, true, true, f9, f10, f11, f12, r, g9, g10, _, rfl, rfl, lx, hl2.kept kx hne10 hl.new, hm.left kx, fun h => by (cases h), fun h => (hg9 h).kept kx (by omega), fun h => (hg10 h).kept kx (by omega), hgg, hs1, hs2⟩
    · obtain rfl : o = ({ dst := some 9, op := Op.alloc 23, type := 0, pos := "outright.go:33", after := #[], guard := none } : Oper) := (Option.some.inj ho).symm
      obtain ⟨hf, hd⟩ := ready_dep hi ho
      have ef : f9 = false := hf
      subst ef 
      clear hf hd hi ho
      have es : f11 = false := hs1 rfl
      subst es
      simp only [sel_false]
      go_simp
      have hb : Below W.heap.size W (W.alloc (.cells #[.int .i64 0, .int .i64 0] 23)) := (Below.refl _ W).alloc (Nat.le_refl _) _
      have FR := Loc.fresh (u + 1) W p1 p2 (by omega)
      refine hK.out _ _ ⟨f3, f4, f8, true, f10, false, f12, r, W.heap.size, g10, oo, rfl, rfl, hl.stays hb, hl2.stays hb, hm.below hb, fun h1 h2 => ⟨(hr h1 h2).1.stays hb (Nat.le_refl _), (hr h1 h2).2⟩, fun _ => FR, fun h => (hg10 h).below hb, fun _ h => by (have := (hg10 h).lt; omega), fun h => by (cases h), hs2⟩
    · obtain rfl : o = ({ dst := some 10, op := Op.alloc 23, type := 0, pos := "outright.go:33", after := #[], guard := none } : Oper) := (Option.some.inj ho).symm
      obtain ⟨hf, hd⟩ := ready_dep hi ho
      have ef : f10 = false := hf
      subst ef 
      clear hf hd hi ho
      have es : f12 = false := hs2 rfl
      subst es
      simp only [sel_false]
      go_simp
      have hb : Below W.heap.size W (W.alloc (.cells #[.int .i64 0, .int .i64 0] 23)) := (Below.refl _ W).alloc (Nat.le_refl _) _
      have FR := Loc.fresh (u + 1) W t1 t2 (by omega)
      refine hK.out _ _ ⟨f3, f4, f8, f9, true, f11, false, r, g9, W.heap.size, oo, rfl, rfl, hl.stays hb, hl2.stays hb, hm.below hb, fun h1 h2 => ⟨(hr h1 h2).1.stays hb (Nat.le_refl _), (hr h1 h2).2⟩, fun h => (hg9 h).below hb, fun _ => FR, fun h _ => by (have := (hg9 h).lt; omega), hs1, fun h => by (cases h)⟩
    · obtain rfl : o = ({ dst := none, op := Op.store 23 (Operand.tmp 9) (Operand.tmp 28), type := 0, pos := "outright.go:33", after := #[{ on := 9, ground := Ground.data }, { on := 4, ground := Ground.data }, { on := 8, ground := Ground.chain }, { on := 0, ground := Ground.phase }, { on := 1, ground := Ground.phase }, { on := 2, ground := Ground.phase }, { on := 3, ground := Ground.phase }, { on := 4, ground := Ground.phase }, { on := 5, ground := Ground.textOnly Departure.lateStores }, { on := 6, ground := Ground.textOnly Departure.lateStores }, { on := 7, ground := Ground.textOnly Departure.lateStores }, { on := 8, ground := Ground.textOnly Departure.lateStoresUnsure }, { on := 9, ground := Ground.phase }, { on := 10, ground := Ground.phase }], guard := none } : Oper) := (Option.some.inj ho).symm
      obtain ⟨hf, hd⟩ := ready_dep hi ho
      have ef : f11 = false := hf
      have e3 : f3 = true := hd 3 (by decide)
      have e4 : f4 = true := hd 4 (by decide)
      have e8 : f8 = true := hd 8 (by decide)
      have e9 : f9 = true := hd 9 (by decide)
      have e10 : f10 = true := hd 10 (by decide)
      subst ef e3 e4 e8 e9 e10
      clear hf hd hi ho
      have L1 := hg9 rfl
      have c0 := L1.c0
      have c1 := L1.c1
      have q0 := L1.f0
      have q1 := L1.f1
      simp only [Bool.false_eq_true, if_false] at c0 c1
      have hnn := hgg rfl rfl
      have hnew := L1.new
      simp only [sel_true]
      go_simp
      refine hK.out _ _ ⟨true, true, true, true, true, true, f12, r, g9, g10, oo, rfl, rfl, hl.set2 g9 _ _ (by omega), hl2.set2 g9 _ _ (by omega), hm.set g9 _ _ (by omega), fun h => by (cases h), fun _ => L1.store, fun h => (hg10 rfl).other (Ne.symm hnn) _ _, fun _ _ => hnn, fun h => by (cases h), fun h => by (cases h)⟩
    · obtain rfl : o = ({ dst := none, op := Op.store 23 (Operand.tmp 10) (Operand.tmp 32), type := 0, pos := "outright.go:33", after := #[{ on := 10, ground := Ground.data }, { on := 8, ground := Ground.data }, { on := 11, ground := Ground.chain }, { on := 0, ground := Ground.phase }, { on := 1, ground := Ground.phase }, { on := 2, ground := Ground.phase }, { on := 3, ground := Ground.phase }, { on := 4, ground := Ground.phase }, { on := 5, ground := Ground.phase }, { on := 6, ground := Ground.phase }, { on := 7, ground := Ground.phase }, { on := 8, ground := Ground.phase }, { on := 9, ground := Ground.phase }, { on := 10, ground := Ground.phase }, { on := 11, ground := Ground.phase }], guard := none } : Oper) := (Option.some.inj ho).symm
      obtain ⟨hf, hd⟩ := ready_dep hi ho
      have ef : f12 = false := hf
      have e3 : f3 = true := hd 3 (by decide)
      have e4 : f4 = true := hd 4 (by decide)
      have e8 : f8 = true := hd 8 (by decide)
      have e9 : f9 = true := hd 9 (by decide)
      have e10 : f10 = true := hd 10 (by decide)
      have e11 : f11 = true := hd 11 (by decide)
      subst ef e3 e4 e8 e9 e10 e11
      clear hf hd hi ho
      have L1 := hg10 rfl
      have c0 := L1.c0
      have c1 := L1.c1
      have q0 := L1.f0
      have q1 := L1.f1
      simp only [Bool.false_eq_true, if_false] at c0 c1
      have hnn := hgg rfl rfl
      have hnew := L1.new
      simp only [sel_true]
      go_simp
      refine hK.out _ _ ⟨true, true, true, true, true, true, true, r, g9, g10, oo, rfl, rfl, hl.set2 g10 _ _ (by omega), hl2.set2 g10 _ _ (by omega), hm.set g10 _ _ (by omega), fun h => by (cases h), fun _ => (hg9 rfl).other hnn _ _, fun _ => L1.store, fun _ _ => hnn, fun h => by (cases h), fun h => by (cases h)⟩
  · rintro l act W ⟨f3, f4, f8, f9, f10, f11, f12, r, g9, g10, oo, rfl, rfl, hl, hl2, hm, hr, hg9, hg10, hgg, hs1, hs2⟩ hall
    have e3 : f3 = true := hall 3 (by decide)
    have e4 : f4 = true := hall 4 (by decide)
    have e8 : f8 = true := hall 8 (by decide)
    have e9 : f9 = true := hall 9 (by decide)
    have e10 : f10 = true := hall 10 (by decide)
    have e11 : f11 = true := hall 11 (by decide)
    have e12 : f12 = true := hall 12 (by decide)
    subst e3 e4 e8 e9 e10 e11 e12
    clear hall
    simp only [sel_true]
    have L9 := hg9 rfl
    have L10 := hg10 rfl
    have hnn := hgg rfl rfl
    have n9 := L9.new
    have n10 := L10.new
    have c90 := L9.c0
    have c91 := L9.c1
    have c100 := L10.c0
    have c101 := L10.c1
    simp only [if_true] at c90 c91 c100 c101
    have HK5 : Hid (∀ W', Kept2 v u W W' → W'.cell? ⟨w.heap.size, 0, none⟩ = some (.int .i64 a) ∧ W'.cell? ⟨w.heap.size, 1, none⟩ = some (.int .i64 b) ∧ W'.cell? ⟨w.heap.size + 1, 0, none⟩ = some (.int .i64 c) ∧ W'.cell? ⟨w.heap.size + 1, 1, none⟩ = some (.int .i64 d) ∧ W'.cell? ⟨g9, 0, none⟩ = some (.int .i64 p1) ∧ W'.cell? ⟨g9, 1, none⟩ = some (.int .i64 p2) ∧ W'.cell? ⟨g10, 0, none⟩ = some (.int .i64 t1) ∧ W'.cell? ⟨g10, 1, none⟩ = some (.int .i64 t2)) := fun W' kk => by
      obtain ⟨x1, x2, x3, x4⟩ := HK.out _ hm
      exact ⟨kk.cell x1 (by omega) (by omega), kk.cell x2 (by omega) (by omega), kk.cell x3 (by omega) (by omega), kk.cell x4 (by omega) (by omega), kk.cell c90 (by omega) (by omega), kk.cell c91 (by omega) (by omega), kk.cell c100 (by omega) (by omega), kk.cell c101 (by omega) (by omega)⟩
    obtain ⟨B1, B2⟩ := HBs.out
    have l0 : Live w v W.drew oo := hl.drew
    have l1 : Live w u W.drew false := hl2.drew
    have m0 : Kept2 v u W W.drew := Kept2.drew v u _
    clear hr hg9 hg10 hgg hs1 hs2 L9 L10 hl hl2 c90 c91 c100 c101 HP' HT' hHeld HW0 HV HU
    go_wp2_with fail
    refine wp_region_held_drew (S := fun W' => W'.cell? ⟨w.heap.size, 0, none⟩ = some (.int .i64 a) ∧ W'.cell? ⟨w.heap.size, 1, none⟩ = some (.int .i64 b) ∧ W'.cell? ⟨w.heap.size + 1, 0, none⟩ = some (.int .i64 c) ∧ W'.cell? ⟨w.heap.size + 1, 1, none⟩ = some (.int .i64 d) ∧ W'.cell? ⟨g9, 0, none⟩ = some (.int .i64 p1) ∧ W'.cell? ⟨g9, 1, none⟩ = some (.int .i64 p2) ∧ W'.cell? ⟨g10, 0, none⟩ = some (.int .i64 t1) ∧ W'.cell? ⟨g10, 1, none⟩ = some (.int .i64 t2)) (by kernel_rfl) (HK5.out _ m0) (fun hHeld => ?_)
    refine wpAnyH_take (i := 0) (oi := { dst := some 33, op := Op.move (Operand.tmp 8), type := 38, pos := "outright.go:34", after := #[], guard := none }) (v := ?_) rfl (by kernel_rfl) (by kernel_rfl) (by kernel_rfl) (fun _ _ _ h => h) (Or.inl ⟨by rfl, ?_⟩) hHeld ?_
    rotate_left
    · (intro w hSw; (try dsimp only at hSw); go_simp; all_goals (try with_reducible rfl))
    try simp only [Act.put, List.setIfInBounds_toArray, List.set_cons_zero, List.set_cons_succ]
    refine wpAnyH_take (i := 1) (oi := { dst := some 34, op := Op.fieldAddr 23 (Operand.tmp 3) 0, type := 0, pos := "outright.go:34", after := #[], guard := none }) (v := ?_) rfl (by kernel_rfl) (by kernel_rfl) (by kernel_rfl) (fun _ _ _ h => h) (Or.inl ⟨by rfl, ?_⟩) hHeld ?_
    rotate_left
    · (intro w hSw; (try dsimp only at hSw); go_simp; all_goals (try with_reducible rfl))
    try simp only [Act.put, List.setIfInBounds_toArray, List.set_cons_zero, List.set_cons_succ]
    refine wpAnyH_take (i := 2) (oi := { dst := some 35, op := Op.load 3 (Operand.tmp 34), type := 3, pos := "outright.go:34", after := #[{ on := 1, ground := Ground.data }], guard := none }) (v := ?_) rfl (by kernel_rfl) (by kernel_rfl) (by kernel_rfl) (fun _ _ _ h => h) (Or.inl ⟨by rfl, ?_⟩) hHeld ?_
    rotate_left
    · (intro w hSw; (try dsimp only at hSw); go_simp; all_goals (try with_reducible rfl))
    try simp only [Act.put, List.setIfInBounds_toArray, List.set_cons_zero, List.set_cons_succ]
    refine wpAnyH_take (i := 3) (oi := { dst := some 36, op := Op.move (Operand.tmp 2), type := 3, pos := "outright.go:34", after := #[], guard := none }) (v := ?_) rfl (by kernel_rfl) (by kernel_rfl) (by kernel_rfl) (fun _ _ _ h => h) (Or.inl ⟨by rfl, ?_⟩) hHeld ?_
    rotate_left
    · (intro w hSw; (try dsimp only at hSw); go_simp; all_goals (try with_reducible rfl))
    try simp only [Act.put, List.setIfInBounds_toArray, List.set_cons_zero, List.set_cons_succ]
    refine wpAnyH_take (i := 5) (oi := { dst := some 38, op := Op.move (Operand.tmp 8), type := 38, pos := "outright.go:34", after := #[], guard := none }) (v := ?_) rfl (by kernel_rfl) (by kernel_rfl) (by kernel_rfl) (fun _ _ _ h => h) (Or.inl ⟨by rfl, ?_⟩) hHeld ?_
    rotate_left
    · (intro w hSw; (try dsimp only at hSw); go_simp; all_goals (try with_reducible rfl))
    try simp only [Act.put, List.setIfInBounds_toArray, List.set_cons_zero, List.set_cons_succ]
    refine wpAnyH_take (i := 6) (oi := { dst := some 39, op := Op.fieldAddr 23 (Operand.tmp 3) 1, type := 0, pos := "outright.go:34", after := #[], guard := none }) (v := ?_) rfl (by kernel_rfl) (by kernel_rfl) (by kernel_rfl) (fun _ _ _ h => h) (Or.inl ⟨by rfl, ?_⟩) hHeld ?_
    rotate_left
    · (intro w hSw; (try dsimp only at hSw); go_simp; all_goals (try with_reducible rfl))
    try simp only [Act.put, List.setIfInBounds_toArray, List.set_cons_zero, List.set_cons_succ]
    refine wpAnyH_take (i := 7) (oi := { dst := some 40, op := Op.load 3 (Operand.tmp 39), type := 3, pos := "outright.go:34", after := #[{ on := 6, ground := Ground.data }], guard := none }) (v := ?_) rfl (by kernel_rfl) (by kernel_rfl) (by kernel_rfl) (fun _ _ _ h => h) (Or.inl ⟨by rfl, ?_⟩) hHeld ?_
    rotate_left
    · (intro w hSw; (try dsimp only at hSw); go_simp; all_goals (try with_reducible rfl))
    try simp only [Act.put, List.setIfInBounds_toArray, List.set_cons_zero, List.set_cons_succ]
    refine wpAnyH_take (i := 8) (oi := { dst := some 41, op := Op.move (Operand.tmp 2), type := 3, pos := "outright.go:34", after := #[], guard := none }) (v := ?_) rfl (by kernel_rfl) (by kernel_rfl) (by kernel_rfl) (fun _ _ _ h => h) (Or.inl ⟨by rfl, ?_⟩) hHeld ?_
    rotate_left
    · (intro w hSw; (try dsimp only at hSw); go_simp; all_goals (try with_reducible rfl))
    try simp only [Act.put, List.setIfInBounds_toArray, List.set_cons_zero, List.set_cons_succ]
    refine wpAnyH_ready (rs := [4]) (by kernel_rfl) (by simp) ?_
    refine AllReadyH.cons (o := { dst := some 37, op := Op.call { callee := Callee.value (Operand.func 21), args := #[Operand.tmp 33, Operand.tmp 35, Operand.tmp 36, Operand.const (Value.bool false)], argTypes := #[38, 3, 3, 4] }, type := 3, pos := "outright.go:34", after := #[{ on := 0, ground := Ground.data }, { on := 2, ground := Ground.data }, { on := 3, ground := Ground.data }], guard := none }) rfl (fun K hK => ?_) AllReadyH.nil
    go_simp
    refine Calls.mono (HM'.out _ _ _ a false B1 l1) ?_
    rintro e qW1 ⟨rfl, lx, kx⟩
    have ql1_0 := l0.kept kx hne01 l1.new
    have ql1_1 := lx
    have qm1 := m0.right kx
    clear kx lx
    go_wp2_with fail
    refine hK.out _ _ (HK5.out _ qm1) (fun hHeld => ?_)
    clear hK K
    try simp only [Act.put, List.setIfInBounds_toArray, List.set_cons_zero, List.set_cons_succ]
    refine wpAnyH_ready (rs := [9]) (by kernel_rfl) (by simp) ?_
    refine AllReadyH.cons (o := { dst := some 42, op := Op.call { callee := Callee.value (Operand.func 21), args := #[Operand.tmp 38, Operand.tmp 40, Operand.tmp 41, Operand.const (Value.bool true)], argTypes := #[38, 3, 3, 4] }, type := 3, pos := "outright.go:34", after := #[{ on := 5, ground := Ground.data }, { on := 7, ground := Ground.data }, { on := 8, ground := Ground.data }, { on := 4, ground := Ground.chain }], guard := none }) rfl (fun K hK => ?_) AllReadyH.nil
    go_simp
    refine Calls.mono (HM'.out _ _ _ b true B2 ql1_1) ?_
    rintro e qW2 ⟨rfl, lx, kx⟩
    have ql2_0 := ql1_0.kept kx hne01 ql1_1.new
    have ql2_1 := lx
    have qm2 := qm1.right kx
    clear kx lx
    go_wp2_with fail
    refine hK.out _ _ (HK5.out _ qm2) (fun hHeld => ?_)
    clear hK K
    try simp only [Act.put, List.setIfInBounds_toArray, List.set_cons_zero, List.set_cons_succ]
    refine wpAnyH_take (i := 10) (oi := { dst := some 11, op := Op.assign (Operand.tmp 37), type := 3, pos := "outright.go:34", after := #[{ on := 4, ground := Ground.data }, { on := 9, ground := Ground.chain }, { on := 0, ground := Ground.phase }, { on := 1, ground := Ground.phase }, { on := 2, ground := Ground.phase }, { on := 3, ground := Ground.phase }, { on := 4, ground := Ground.phase }, { on := 5, ground := Ground.textOnly Departure.lateStores }, { on := 6, ground := Ground.textOnly Departure.lateStores }, { on := 7, ground := Ground.textOnly Departure.lateStores }, { on := 8, ground := Ground.textOnly Departure.lateStores }, { on := 9, ground := Ground.textOnly Departure.lateStoresUnsure }], guard := none }) (v := ?_) rfl (by kernel_rfl) (by kernel_rfl) (by kernel_rfl) (fun _ _ _ h => h) (Or.inl ⟨by rfl, ?_⟩) hHeld ?_
    rotate_left
    · (intro w hSw; (try dsimp only at hSw); go_simp; all_goals (try with_reducible rfl))
    try simp only [Act.put, List.setIfInBounds_toArray, List.set_cons_zero, List.set_cons_succ]
    refine wpAnyH_take (i := 11) (oi := { dst := some 12, op := Op.assign (Operand.tmp 42), type := 3, pos := "outright.go:34", after := #[{ on := 9, ground := Ground.data }, { on := 10, ground := Ground.chain }, { on := 0, ground := Ground.phase }, { on := 1, ground := Ground.phase }, { on := 2, ground := Ground.phase }, { on := 3, ground := Ground.phase }, { on := 4, ground := Ground.phase }, { on := 5, ground := Ground.phase }, { on := 6, ground := Ground.phase }, { on := 7, ground := Ground.phase }, { on := 8, ground := Ground.phase }, { on := 9, ground := Ground.phase }, { on := 10, ground := Ground.phase }], guard := none }) (v := ?_) rfl (by kernel_rfl) (by kernel_rfl) (by kernel_rfl) (fun _ _ _ h => h) (Or.inl ⟨by rfl, ?_⟩) hHeld ?_
    rotate_left
    · (intro w hSw; (try dsimp only at hSw); go_simp; all_goals (try with_reducible rfl))
    try simp only [Act.put, List.setIfInBounds_toArray, List.set_cons_zero, List.set_cons_succ]
    refine wpAnyH_done (by kernel_rfl) ?_ _
    obtain ⟨B1, B2⟩ := HBs.out
    rw [← E1.out, ← E2.out]
    have et1 : (t1 == t1) = true := beq_self_eq_true t1
    have et2 : (t2 == t2) = true := beq_self_eq_true t2
    have ep1 : (p1 == p1) = true := beq_self_eq_true p1
    have ep2 : (p2 == p2) = true := beq_self_eq_true p2
    have l0 := ql2_0.drew
    have l1 := ql2_1.drew
    have m0 := qm2.below (Below.refl _ qW2).drew
    go_wp2_with fail
    refine wp_region_held_drew (S := fun W' => W'.cell? ⟨w.heap.size, 0, none⟩ = some (.int .i64 a) ∧ W'.cell? ⟨w.heap.size, 1, none⟩ = some (.int .i64 b) ∧ W'.cell? ⟨w.heap.size + 1, 0, none⟩ = some (.int .i64 c) ∧ W'.cell? ⟨w.heap.size + 1, 1, none⟩ = some (.int .i64 d) ∧ W'.cell? ⟨g9, 0, none⟩ = some (.int .i64 p1) ∧ W'.cell? ⟨g9, 1, none⟩ = some (.int .i64 p2) ∧ W'.cell? ⟨g10, 0, none⟩ = some (.int .i64 t1) ∧ W'.cell? ⟨g10, 1, none⟩ = some (.int .i64 t2)) (by kernel_rfl) (HK5.out _ m0) (fun hHeld => ?_)
    refine wpAnyH_ready (rs := [0]) (by kernel_rfl) (by simp) ?_
    refine AllReadyH.cons (o := { dst := some 55, op := Op.call { callee := Callee.value (Operand.func 10), args := #[], argTypes := #[] }, type := 4, pos := "outright.go:38", after := #[], guard := none }) rfl (fun K hK => ?_) AllReadyH.nil
    go_simp
    refine Calls.mono (salive_any _) ?_
    rintro e zW1 ⟨rfl, hb⟩
    have zl1_0 := l0.stays hb
    have zl1_1 := l1.stays hb
    have zm1 := m0.below hb
    clear hb
    go_wp2_with fail
    refine hK.out _ _ (HK5.out _ zm1) (fun hHeld => ?_)
    clear hK K
    try simp only [Act.put, List.setIfInBounds_toArray, List.set_cons_zero, List.set_cons_succ]
    refine wpAnyH_take (i := 1) (oi := { dst := some 56, op := Op.move (Operand.tmp 55), type := 4, pos := "outright.go:38", after := #[{ on := 0, ground := Ground.data }, { on := 0, ground := Ground.chain }], guard := none }) (v := ?_) rfl (by kernel_rfl) (by kernel_rfl) (by kernel_rfl) (fun _ _ _ h => h) (Or.inl ⟨by rfl, ?_⟩) hHeld ?_
    rotate_left
    · (intro w hSw; (try dsimp only at hSw); go_simp; all_goals (try with_reducible rfl))
    try simp only [Act.put, List.setIfInBounds_toArray, List.set_cons_zero, List.set_cons_succ]
    refine wpAnyH_take (i := 2) (oi := { dst := some 57, op := Op.fieldAddr 23 (Operand.tmp 9) 0, type := 0, pos := "outright.go:38", after := #[{ on := 1, ground := Ground.guard }], guard := some (1, true) }) (v := ?_) rfl (by kernel_rfl) (by kernel_rfl) (by kernel_rfl) (fun _ _ _ h => h) (Or.inl ⟨by rfl, ?_⟩) hHeld ?_
    rotate_left
    · (intro w hSw; (try dsimp only at hSw); go_simp; all_goals (try with_reducible rfl))
    try simp only [Act.put, List.setIfInBounds_toArray, List.set_cons_zero, List.set_cons_succ]
    refine wpAnyH_take (i := 3) (oi := { dst := some 58, op := Op.load 3 (Operand.tmp 57), type := 3, pos := "outright.go:38", after := #[{ on := 2, ground := Ground.data }, { on := 1, ground := Ground.guard }], guard := some (1, true) }) (v := ?_) rfl (by kernel_rfl) (by kernel_rfl) (by kernel_rfl) (fun _ _ _ h => h) (Or.inl ⟨by rfl, ?_⟩) hHeld ?_
    rotate_left
    · (intro w hSw; (try dsimp only at hSw); go_simp; all_goals (try with_reducible rfl))
    try simp only [Act.put, List.setIfInBounds_toArray, List.set_cons_zero, List.set_cons_succ]
    refine wpAnyH_take (i := 4) (oi := { dst := some 59, op := Op.move (Operand.tmp 8), type := 38, pos := "outright.go:38", after := #[{ on := 1, ground := Ground.guard }], guard := some (1, true) }) (v := ?_) rfl (by kernel_rfl) (by kernel_rfl) (by kernel_rfl) (fun _ _ _ h => h) (Or.inl ⟨by rfl, ?_⟩) hHeld ?_
    rotate_left
    · (intro w hSw; (try dsimp only at hSw); go_simp; all_goals (try with_reducible rfl))
    try simp only [Act.put, List.setIfInBounds_toArray, List.set_cons_zero, List.set_cons_succ]
    refine wpAnyH_take (i := 5) (oi := { dst := some 60, op := Op.fieldAddr 23 (Operand.tmp 3) 0, type := 0, pos := "outright.go:38", after := #[{ on := 1, ground := Ground.guard }], guard := some (1, true) }) (v := ?_) rfl (by kernel_rfl) (by kernel_rfl) (by kernel_rfl) (fun _ _ _ h => h) (Or.inl ⟨by rfl, ?_⟩) hHeld ?_
    rotate_left
    · (intro w hSw; (try dsimp only at hSw); go_simp; all_goals (try with_reducible rfl))
    try simp only [Act.put, List.setIfInBounds_toArray, List.set_cons_zero, List.set_cons_succ]
    refine wpAnyH_take (i := 6) (oi := { dst := some 61, op := Op.load 3 (Operand.tmp 60), type := 3, pos := "outright.go:38", after := #[{ on := 5, ground := Ground.data }, { on := 1, ground := Ground.guard }], guard := some (1, true) }) (v := ?_) rfl (by kernel_rfl) (by kernel_rfl) (by kernel_rfl) (fun _ _ _ h => h) (Or.inl ⟨by rfl, ?_⟩) hHeld ?_
    rotate_left
    · (intro w hSw; (try dsimp only at hSw); go_simp; all_goals (try with_reducible rfl))
    try simp only [Act.put, List.setIfInBounds_toArray, List.set_cons_zero, List.set_cons_succ]
    refine wpAnyH_take (i := 7) (oi := { dst := some 62, op := Op.fieldAddr 23 (Operand.tmp 4) 0, type := 0, pos := "outright.go:38", after := #[{ on := 1, ground := Ground.guard }], guard := some (1, true) }) (v := ?_) rfl (by kernel_rfl) (by kernel_rfl) (by kernel_rfl) (fun _ _ _ h => h) (Or.inl ⟨by rfl, ?_⟩) hHeld ?_
    rotate_left
    · (intro w hSw; (try dsimp only at hSw); go_simp; all_goals (try with_reducible rfl))
    try simp only [Act.put, List.setIfInBounds_toArray, List.set_cons_zero, List.set_cons_succ]
    refine wpAnyH_take (i := 8) (oi := { dst := some 63, op := Op.load 3 (Operand.tmp 62), type := 3, pos := "outright.go:38", after := #[{ on := 7, ground := Ground.data }, { on := 1, ground := Ground.guard }], guard := some (1, true) }) (v := ?_) rfl (by kernel_rfl) (by kernel_rfl) (by kernel_rfl) (fun _ _ _ h => h) (Or.inl ⟨by rfl, ?_⟩) hHeld ?_
    rotate_left
    · (intro w hSw; (try dsimp only at hSw); go_simp; all_goals (try with_reducible rfl))
    try simp only [Act.put, List.setIfInBounds_toArray, List.set_cons_zero, List.set_cons_succ]
    refine wpAnyH_ready (rs := [9]) (by kernel_rfl) (by simp) ?_
    refine AllReadyH.cons (o := { dst := some 64, op := Op.buildSlice 51 2 #[(0, Operand.tmp 61), (1, Operand.tmp 63)], type := 51, pos := "outright.go:38", after := #[{ on := 6, ground := Ground.data }, { on := 8, ground := Ground.data }, { on := 1, ground := Ground.guard }], guard := some (1, true) }) rfl (fun K hK => ?_) AllReadyH.nil
    go_simp
    obtain ⟨zW2, hX⟩ : ∃ Z, zW1.alloc (.cells #[.int .i64 a, .int .i64 c] 3) = Z := ⟨_, rfl⟩
    rw [hX]
    have hb : Below zW1.heap.size zW1 zW2 := by rw [← hX]; exact (Below.refl _ zW1).alloc (Nat.le_refl _) _
    have zl2_0 := zl1_0.stays hb
    have zl2_1 := zl1_1.stays hb
    have zm2 := zm1.below hb
    have zr2_9 := row_ints zW1 a c _ rfl
    rw [hX] at zr2_9
    have zn2_9_0 : zW1.heap.size ≠ v := by have := zl1_0.old; omega
    have zn2_9_1 : zW1.heap.size ≠ u := by have := zl1_1.old; omega
    clear hX hb
    refine hK.out _ _ (HK5.out _ zm2) (fun hHeld => ?_)
    clear hK K
    try simp only [Act.put, List.setIfInBounds_toArray, List.set_cons_zero, List.set_cons_succ]
    refine wpAnyH_ready (rs := [10]) (by kernel_rfl) (by simp) ?_
    refine AllReadyH.cons (o := { dst := some 65, op := Op.call { callee := Callee.value (Operand.func 19), args := #[Operand.tmp 59, Operand.tmp 64], argTypes := #[38, 51] }, type := 3, pos := "outright.go:38", after := #[{ on := 4, ground := Ground.data }, { on := 9, ground := Ground.data }, { on := 1, ground := Ground.chain }, { on := 1, ground := Ground.guard }], guard := some (1, true) }) rfl (fun K hK => ?_) AllReadyH.nil
    go_simp
    refine Calls.mono (HA1'.out _ _ _ _ zl2_1 zr2_9) ?_
    rintro e zW3 ⟨rfl, lx, kx⟩
    have zl3_0 := zl2_0.kept kx hne01 zl2_1.new
    have zl3_1 := lx
    have zm3 := zm2.right kx
    have zr3_9 := zr2_9.kept kx (blk_ne zn2_9_1)
    clear kx lx
    go_wp2_with fail
    refine hK.out _ _ (HK5.out _ zm3) (fun hHeld => ?_)
    clear hK K
    try simp only [Act.put, List.setIfInBounds_toArray, List.set_cons_zero, List.set_cons_succ]
    refine wpAnyH_take (i := 11) (oi := { dst := some 66, op := Op.binOp BinOp.eql 3 (Operand.tmp 58) (Operand.tmp 65) 3, type := 4, pos := "outright.go:38", after := #[{ on := 3, ground := Ground.data }, { on := 10, ground := Ground.data }, { on := 1, ground := Ground.guard }], guard := some (1, true) }) (v := ?_) rfl (by kernel_rfl) (by kernel_rfl) (by kernel_rfl) (fun _ _ _ h => h) (Or.inl ⟨by rfl, ?_⟩) hHeld ?_
    rotate_left
    · (intro w hSw; (try dsimp only at hSw); go_simp; all_goals (try with_reducible rfl))
    try simp only [Act.put, List.setIfInBounds_toArray, List.set_cons_zero, List.set_cons_succ]
    refine wpAnyH_take (i := 12) (oi := { dst := some 67, op := Op.pick (Operand.tmp 56) (Operand.tmp 66) (Operand.const (Value.bool false)), type := 4, pos := "outright.go:38", after := #[{ on := 1, ground := Ground.data }, { on := 11, ground := Ground.data }], guard := none }) (v := ?_) rfl (by kernel_rfl) (by kernel_rfl) (by kernel_rfl) (fun _ _ _ h => h) (Or.inl ⟨by rfl, ?_⟩) hHeld ?_
    rotate_left
    · (intro w hSw; (try dsimp only at hSw); go_simp; all_goals (try with_reducible rfl))
    try simp only [Act.put, List.setIfInBounds_toArray, List.set_cons_zero, List.set_cons_succ]
    refine wpAnyH_take (i := 13) (oi := { dst := some 68, op := Op.move (Operand.tmp 67), type := 4, pos := "outright.go:38", after := #[{ on := 12, ground := Ground.data }, { on := 10, ground := Ground.chain }], guard := none }) (v := ?_) rfl (by kernel_rfl) (by kernel_rfl) (by kernel_rfl) (fun _ _ _ h => h) (Or.inl ⟨by rfl, ?_⟩) hHeld ?_
    rotate_left
    · (intro w hSw; (try dsimp only at hSw); go_simp; all_goals (try with_reducible rfl))
    try simp only [Act.put, List.setIfInBounds_toArray, List.set_cons_zero, List.set_cons_succ]
    refine wpAnyH_take (i := 14) (oi := { dst := some 69, op := Op.fieldAddr 23 (Operand.tmp 9) 1, type := 0, pos := "outright.go:38", after := #[{ on := 13, ground := Ground.guard }], guard := some (13, true) }) (v := ?_) rfl (by kernel_rfl) (by kernel_rfl) (by kernel_rfl) (fun _ _ _ h => h) (Or.inl ⟨by rfl, ?_⟩) hHeld ?_
    rotate_left
    · (intro w hSw; (try dsimp only at hSw); go_simp; all_goals (try with_reducible rfl))
    try simp only [Act.put, List.setIfInBounds_toArray, List.set_cons_zero, List.set_cons_succ]
    refine wpAnyH_take (i := 15) (oi := { dst := some 70, op := Op.load 3 (Operand.tmp 69), type := 3, pos := "outright.go:38", after := #[{ on := 14, ground := Ground.data }, { on := 13, ground := Ground.guard }], guard := some (13, true) }) (v := ?_) rfl (by kernel_rfl) (by kernel_rfl) (by kernel_rfl) (fun _ _ _ h => h) (Or.inl ⟨by rfl, ?_⟩) hHeld ?_
    rotate_left
    · (intro w hSw; (try dsimp only at hSw); go_simp; all_goals (try with_reducible rfl))
    try simp only [Act.put, List.setIfInBounds_toArray, List.set_cons_zero, List.set_cons_succ]
    refine wpAnyH_take (i := 16) (oi := { dst := some 71, op := Op.move (Operand.tmp 8), type := 38, pos := "outright.go:38", after := #[{ on := 13, ground := Ground.guard }], guard := some (13, true) }) (v := ?_) rfl (by kernel_rfl) (by kernel_rfl) (by kernel_rfl) (fun _ _ _ h => h) (Or.inl ⟨by rfl, ?_⟩) hHeld ?_
    rotate_left
    · (intro w hSw; (try dsimp only at hSw); go_simp; all_goals (try with_reducible rfl))
    try simp only [Act.put, List.setIfInBounds_toArray, List.set_cons_zero, List.set_cons_succ]
    refine wpAnyH_take (i := 17) (oi := { dst := some 72, op := Op.fieldAddr 23 (Operand.tmp 3) 1, type := 0, pos := "outright.go:38", after := #[{ on := 13, ground := Ground.guard }], guard := some (13, true) }) (v := ?_) rfl (by kernel_rfl) (by kernel_rfl) (by kernel_rfl) (fun _ _ _ h => h) (Or.inl ⟨by rfl, ?_⟩) hHeld ?_
    rotate_left
    · (intro w hSw; (try dsimp only at hSw); go_simp; all_goals (try with_reducible rfl))
    try simp only [Act.put, List.setIfInBounds_toArray, List.set_cons_zero, List.set_cons_succ]
    refine wpAnyH_take (i := 18) (oi := { dst := some 73, op := Op.load 3 (Operand.tmp 72), type := 3, pos := "outright.go:38", after := #[{ on := 17, ground := Ground.data }, { on := 13, ground := Ground.guard }], guard := some (13, true) }) (v := ?_) rfl (by kernel_rfl) (by kernel_rfl) (by kernel_rfl) (fun _ _ _ h => h) (Or.inl ⟨by rfl, ?_⟩) hHeld ?_
    rotate_left
    · (intro w hSw; (try dsimp only at hSw); go_simp; all_goals (try with_reducible rfl))
    try simp only [Act.put, List.setIfInBounds_toArray, List.set_cons_zero, List.set_cons_succ]
    refine wpAnyH_take (i := 19) (oi := { dst := some 74, op := Op.fieldAddr 23 (Operand.tmp 4) 1, type := 0, pos := "outright.go:38", after := #[{ on := 13, ground := Ground.guard }], guard := some (13, true) }) (v := ?_) rfl (by kernel_rfl) (by kernel_rfl) (by kernel_rfl) (fun _ _ _ h => h) (Or.inl ⟨by rfl, ?_⟩) hHeld ?_
    rotate_left
    · (intro w hSw; (try dsimp only at hSw); go_simp; all_goals (try with_reducible rfl))
    try simp only [Act.put, List.setIfInBounds_toArray, List.set_cons_zero, List.set_cons_succ]
    refine wpAnyH_take (i := 20) (oi := { dst := some 75, op := Op.load 3 (Operand.tmp 74), type := 3, pos := "outright.go:38", after := #[{ on := 19, ground := Ground.data }, { on := 13, ground := Ground.guard }], guard := some (13, true) }) (v := ?_) rfl (by kernel_rfl) (by kernel_rfl) (by kernel_rfl) (fun _ _ _ h => h) (Or.inl ⟨by rfl, ?_⟩) hHeld ?_
    rotate_left
    · (intro w hSw; (try dsimp only at hSw); go_simp; all_goals (try with_reducible rfl))
    try simp only [Act.put, List.setIfInBounds_toArray, List.set_cons_zero, List.set_cons_succ]
    refine wpAnyH_ready (rs := [21]) (by kernel_rfl) (by simp) ?_
    refine AllReadyH.cons (o := { dst := some 76, op := Op.buildSlice 51 2 #[(0, Operand.tmp 73), (1, Operand.tmp 75)], type := 51, pos := "outright.go:38", after := #[{ on := 18, ground := Ground.data }, { on := 20, ground := Ground.data }, { on := 13, ground := Ground.guard }], guard := some (13, true) }) rfl (fun K hK => ?_) AllReadyH.nil
    go_simp
    obtain ⟨zW4, hX⟩ : ∃ Z, zW3.alloc (.cells #[.int .i64 b, .int .i64 d] 3) = Z := ⟨_, rfl⟩
    rw [hX]
    have hb : Below zW3.heap.size zW3 zW4 := by rw [← hX]; exact (Below.refl _ zW3).alloc (Nat.le_refl _) _
    have zl4_0 := zl3_0.stays hb
    have zl4_1 := zl3_1.stays hb
    have zm4 := zm3.below hb
    have zr4_9 := zr3_9.stays hb (Nat.le_refl _)
    have zr4_21 := row_ints zW3 b d _ rfl
    rw [hX] at zr4_21
    have zn4_21_0 : zW3.heap.size ≠ v := by have := zl3_0.old; omega
    have zn4_21_1 : zW3.heap.size ≠ u := by have := zl3_1.old; omega
    clear hX hb
    refine hK.out _ _ (HK5.out _ zm4) (fun hHeld => ?_)
    clear hK K
    try simp only [Act.put, List.setIfInBounds_toArray, List.set_cons_zero, List.set_cons_succ]
    refine wpAnyH_ready (rs := [22]) (by kernel_rfl) (by simp) ?_
    refine AllReadyH.cons (o := { dst := some 77, op := Op.call { callee := Callee.value (Operand.func 19), args := #[Operand.tmp 71, Operand.tmp 76], argTypes := #[38, 51] }, type := 3, pos := "outright.go:38", after := #[{ on := 16, ground := Ground.data }, { on := 21, ground := Ground.data }, { on := 13, ground := Ground.chain }, { on := 13, ground := Ground.guard }], guard := some (13, true) }) rfl (fun K hK => ?_) AllReadyH.nil
    go_simp
    refine Calls.mono (HA2'.out _ _ _ _ zl4_1 zr4_21) ?_
    rintro e zW5 ⟨rfl, lx, kx⟩
    have zl5_0 := zl4_0.kept kx hne01 zl4_1.new
    have zl5_1 := lx
    have zm5 := zm4.right kx
    have zr5_9 := zr4_9.kept kx (blk_ne zn2_9_1)
    have zr5_21 := zr4_21.kept kx (blk_ne zn4_21_1)
    clear kx lx
    go_wp2_with fail
    refine hK.out _ _ (HK5.out _ zm5) (fun hHeld => ?_)
    clear hK K
    try simp only [Act.put, List.setIfInBounds_toArray, List.set_cons_zero, List.set_cons_succ]
    refine wpAnyH_take (i := 23) (oi := { dst := some 78, op := Op.binOp BinOp.eql 3 (Operand.tmp 70) (Operand.tmp 77) 3, type := 4, pos := "outright.go:38", after := #[{ on := 15, ground := Ground.data }, { on := 22, ground := Ground.data }, { on := 13, ground := Ground.guard }], guard := some (13, true) }) (v := ?_) rfl (by kernel_rfl) (by kernel_rfl) (by kernel_rfl) (fun _ _ _ h => h) (Or.inl ⟨by rfl, ?_⟩) hHeld ?_
    rotate_left
    · (intro w hSw; (try dsimp only at hSw); go_simp; all_goals (try with_reducible rfl))
    try simp only [Act.put, List.setIfInBounds_toArray, List.set_cons_zero, List.set_cons_succ]
    refine wpAnyH_take (i := 24) (oi := { dst := some 79, op := Op.pick (Operand.tmp 68) (Operand.tmp 78) (Operand.const (Value.bool false)), type := 4, pos := "outright.go:38", after := #[{ on := 13, ground := Ground.data }, { on := 23, ground := Ground.data }], guard := none }) (v := ?_) rfl (by kernel_rfl) (by kernel_rfl) (by kernel_rfl) (fun _ _ _ h => h) (Or.inl ⟨by rfl, ?_⟩) hHeld ?_
    rotate_left
    · (intro w hSw; (try dsimp only at hSw); go_simp; all_goals (try with_reducible rfl))
    try simp only [Act.put, List.setIfInBounds_toArray, List.set_cons_zero, List.set_cons_succ]
    refine wpAnyH_take (i := 25) (oi := { dst := some 80, op := Op.move (Operand.tmp 79), type := 4, pos := "outright.go:38", after := #[{ on := 24, ground := Ground.data }, { on := 22, ground := Ground.chain }], guard := none }) (v := ?_) rfl (by kernel_rfl) (by kernel_rfl) (by kernel_rfl) (fun _ _ _ h => h) (Or.inl ⟨by rfl, ?_⟩) hHeld ?_
    rotate_left
    · (intro w hSw; (try dsimp only at hSw); go_simp; all_goals (try with_reducible rfl))
    try simp only [Act.put, List.setIfInBounds_toArray, List.set_cons_zero, List.set_cons_succ]
    refine wpAnyH_take (i := 26) (oi := { dst := some 81, op := Op.fieldAddr 23 (Operand.tmp 10) 0, type := 0, pos := "outright.go:38", after := #[{ on := 25, ground := Ground.guard }], guard := some (25, true) }) (v := ?_) rfl (by kernel_rfl) (by kernel_rfl) (by kernel_rfl) (fun _ _ _ h => h) (Or.inl ⟨by rfl, ?_⟩) hHeld ?_
    rotate_left
    · (intro w hSw; (try dsimp only at hSw); go_simp; all_goals (try with_reducible rfl))
    try simp only [Act.put, List.setIfInBounds_toArray, List.set_cons_zero, List.set_cons_succ]
    refine wpAnyH_take (i := 27) (oi := { dst := some 82, op := Op.load 3 (Operand.tmp 81), type := 3, pos := "outright.go:38", after := #[{ on := 26, ground := Ground.data }, { on := 25, ground := Ground.guard }], guard := some (25, true) }) (v := ?_) rfl (by kernel_rfl) (by kernel_rfl) (by kernel_rfl) (fun _ _ _ h => h) (Or.inl ⟨by rfl, ?_⟩) hHeld ?_
    rotate_left
    · (intro w hSw; (try dsimp only at hSw); go_simp; all_goals (try with_reducible rfl))
    try simp only [Act.put, List.setIfInBounds_toArray, List.set_cons_zero, List.set_cons_succ]
    refine wpAnyH_take (i := 28) (oi := { dst := some 83, op := Op.move (Operand.tmp 11), type := 3, pos := "outright.go:38", after := #[{ on := 25, ground := Ground.guard }], guard := some (25, true) }) (v := ?_) rfl (by kernel_rfl) (by kernel_rfl) (by kernel_rfl) (fun _ _ _ h => h) (Or.inl ⟨by rfl, ?_⟩) hHeld ?_
    rotate_left
    · (intro w hSw; (try dsimp only at hSw); go_simp; all_goals (try with_reducible rfl))
    try simp only [Act.put, List.setIfInBounds_toArray, List.set_cons_zero, List.set_cons_succ]
    refine wpAnyH_take (i := 29) (oi := { dst := some 84, op := Op.binOp BinOp.eql 3 (Operand.tmp 82) (Operand.tmp 83) 3, type := 4, pos := "outright.go:38", after := #[{ on := 27, ground := Ground.data }, { on := 28, ground := Ground.data }, { on := 25, ground := Ground.guard }], guard := some (25, true) }) (v := ?_) rfl (by kernel_rfl) (by kernel_rfl) (by kernel_rfl) (fun _ _ _ h => h) (Or.inl ⟨by rfl, ?_⟩) hHeld ?_
    rotate_left
    · (intro w hSw; (try dsimp only at hSw); go_simp; all_goals (try with_reducible rfl))
    try simp only [Act.put, List.setIfInBounds_toArray, List.set_cons_zero, List.set_cons_succ]
    refine wpAnyH_take (i := 30) (oi := { dst := some 85, op := Op.pick (Operand.tmp 80) (Operand.tmp 84) (Operand.const (Value.bool false)), type := 4, pos := "outright.go:38", after := #[{ on := 25, ground := Ground.data }, { on := 29, ground := Ground.data }], guard := none }) (v := ?_) rfl (by kernel_rfl) (by kernel_rfl) (by kernel_rfl) (fun _ _ _ h => h) (Or.inl ⟨by rfl, ?_⟩) hHeld ?_
    rotate_left
    · (intro w hSw; (try dsimp only at hSw); go_simp; all_goals (try with_reducible rfl))
    try simp only [Act.put, List.setIfInBounds_toArray, List.set_cons_zero, List.set_cons_succ]
    refine wpAnyH_take (i := 31) (oi := { dst := some 86, op := Op.move (Operand.tmp 85), type := 4, pos := "outright.go:38", after := #[{ on := 30, ground := Ground.data }, { on := 25, ground := Ground.chain }], guard := none }) (v := ?_) rfl (by kernel_rfl) (by kernel_rfl) (by kernel_rfl) (fun _ _ _ h => h) (Or.inl ⟨by rfl, ?_⟩) hHeld ?_
    rotate_left
    · (intro w hSw; (try dsimp only at hSw); go_simp; all_goals (try with_reducible rfl))
    try simp only [Act.put, List.setIfInBounds_toArray, List.set_cons_zero, List.set_cons_succ]
    refine wpAnyH_take (i := 32) (oi := { dst := some 87, op := Op.fieldAddr 23 (Operand.tmp 10) 1, type := 0, pos := "outright.go:38", after := #[{ on := 31, ground := Ground.guard }], guard := some (31, true) }) (v := ?_) rfl (by kernel_rfl) (by kernel_rfl) (by kernel_rfl) (fun _ _ _ h => h) (Or.inl ⟨by rfl, ?_⟩) hHeld ?_
    rotate_left
    · (intro w hSw; (try dsimp only at hSw); go_simp; all_goals (try with_reducible rfl))
    try simp only [Act.put, List.setIfInBounds_toArray, List.set_cons_zero, List.set_cons_succ]
    refine wpAnyH_take (i := 33) (oi := { dst := some 88, op := Op.load 3 (Operand.tmp 87), type := 3, pos := "outright.go:38", after := #[{ on := 32, ground := Ground.data }, { on := 31, ground := Ground.guard }], guard := some (31, true) }) (v := ?_) rfl (by kernel_rfl) (by kernel_rfl) (by kernel_rfl) (fun _ _ _ h => h) (Or.inl ⟨by rfl, ?_⟩) hHeld ?_
    rotate_left
    · (intro w hSw; (try dsimp only at hSw); go_simp; all_goals (try with_reducible rfl))
    try simp only [Act.put, List.setIfInBounds_toArray, List.set_cons_zero, List.set_cons_succ]
    refine wpAnyH_take (i := 34) (oi := { dst := some 89, op := Op.move (Operand.tmp 12), type := 3, pos := "outright.go:38", after := #[{ on := 31, ground := Ground.guard }], guard := some (31, true) }) (v := ?_) rfl (by kernel_rfl) (by kernel_rfl) (by kernel_rfl) (fun _ _ _ h => h) (Or.inl ⟨by rfl, ?_⟩) hHeld ?_
    rotate_left
    · (intro w hSw; (try dsimp only at hSw); go_simp; all_goals (try with_reducible rfl))
    try simp only [Act.put, List.setIfInBounds_toArray, List.set_cons_zero, List.set_cons_succ]
    refine wpAnyH_take (i := 35) (oi := { dst := some 90, op := Op.binOp BinOp.eql 3 (Operand.tmp 88) (Operand.tmp 89) 3, type := 4, pos := "outright.go:38", after := #[{ on := 33, ground := Ground.data }, { on := 34, ground := Ground.data }, { on := 31, ground := Ground.guard }], guard := some (31, true) }) (v := ?_) rfl (by kernel_rfl) (by kernel_rfl) (by kernel_rfl) (fun _ _ _ h => h) (Or.inl ⟨by rfl, ?_⟩) hHeld ?_
    rotate_left
    · (intro w hSw; (try dsimp only at hSw); go_simp; all_goals (try with_reducible rfl))
    try simp only [Act.put, List.setIfInBounds_toArray, List.set_cons_zero, List.set_cons_succ]
    refine wpAnyH_take (i := 36) (oi := { dst := some 91, op := Op.pick (Operand.tmp 86) (Operand.tmp 90) (Operand.const (Value.bool false)), type := 4, pos := "outright.go:38", after := #[{ on := 31, ground := Ground.data }, { on := 35, ground := Ground.data }], guard := none }) (v := ?_) rfl (by kernel_rfl) (by kernel_rfl) (by kernel_rfl) (fun _ _ _ h => h) (Or.inl ⟨by rfl, ?_⟩) hHeld ?_
    rotate_left
    · (intro w hSw; (try dsimp only at hSw); go_simp; all_goals (try with_reducible rfl))
    try simp only [Act.put, List.setIfInBounds_toArray, List.set_cons_zero, List.set_cons_succ]
    refine wpAnyH_take (i := 37) (oi := { dst := some 6, op := Op.assign (Operand.tmp 91), type := 4, pos := "outright.go:38", after := #[{ on := 36, ground := Ground.data }, { on := 31, ground := Ground.chain }, { on := 0, ground := Ground.phase }, { on := 1, ground := Ground.phase }, { on := 2, ground := Ground.phase }, { on := 3, ground := Ground.phase }, { on := 4, ground := Ground.phase }, { on := 5, ground := Ground.phase }, { on := 6, ground := Ground.phase }, { on := 7, ground := Ground.phase }, { on := 8, ground := Ground.phase }, { on := 9, ground := Ground.phase }, { on := 10, ground := Ground.phase }, { on := 11, ground := Ground.phase }, { on := 12, ground := Ground.phase }, { on := 13, ground := Ground.phase }, { on := 14, ground := Ground.phase }, { on := 15, ground := Ground.phase }, { on := 16, ground := Ground.phase }, { on := 17, ground := Ground.phase }, { on := 18, ground := Ground.phase }, { on := 19, ground := Ground.phase }, { on := 20, ground := Ground.phase }, { on := 21, ground := Ground.phase }, { on := 22, ground := Ground.phase }, { on := 23, ground := Ground.phase }, { on := 24, ground := Ground.phase }, { on := 25, ground := Ground.phase }, { on := 26, ground := Ground.phase }, { on := 27, ground := Ground.phase }, { on := 28, ground := Ground.phase }, { on := 29, ground := Ground.phase }, { on := 30, ground := Ground.phase }, { on := 31, ground := Ground.phase }, { on := 32, ground := Ground.phase }, { on := 33, ground := Ground.phase }, { on := 34, ground := Ground.phase }, { on := 35, ground := Ground.phase }, { on := 36, ground := Ground.phase }], guard := none }) (v := ?_) rfl (by kernel_rfl) (by kernel_rfl) (by kernel_rfl) (fun _ _ _ h => h) (Or.inl ⟨by rfl, ?_⟩) hHeld ?_
    rotate_left
    · (intro w hSw; (try dsimp only at hSw); go_simp; all_goals (try with_reducible rfl))
    try simp only [Act.put, List.setIfInBounds_toArray, List.set_cons_zero, List.set_cons_succ]
    refine wpAnyH_done (by kernel_rfl) ?_ _
    go_wp2
    go_ret
    exact ⟨rfl, zl5_0.below⟩
  · exact ⟨false, false, false, false, false, false, false, 0, 0, 0, false, by decide, rfl, l0, l1, m0, fun _ h => by (cases h), fun h => by (cases h), fun h => by (cases h), fun h => by (cases h), fun _ => rfl, fun _ => rfl⟩

set_option maxHeartbeats 16000000 in
theorem tight_neg (a b c d k : Int) (w : World) (ha : B64 a) (hb' : B64 b) (hc' : B64 c) (hd' : B64 d) (hk : B64 k) (h1 : a ≤ b) (h2 : c ≤ d) (hs : k < 0) :
    Calls Try.prog 6 #[(.agg #[.int .i64 a, .int .i64 b]), (.agg #[.int .i64 c, .int .i64 d]), .int .i64 k] w fun e w' => e = .returned (.bool true) ∧ Below w.heap.size w w' := by
  obtain ⟨p1, hp1⟩ : ∃ z, clampF (a + c) = z := ⟨_, rfl⟩
  obtain ⟨p2, hp2⟩ : ∃ z, clampF (b + d) = z := ⟨_, rfl⟩
  obtain ⟨t1, ht1⟩ : ∃ z, crossLo a b k k = z := ⟨_, rfl⟩
  obtain ⟨t2, ht2⟩ : ∃ z, crossHi a b k k = z := ⟨_, rfl⟩
  obtain ⟨op, hop⟩ : ∃ z, (overF (a + c) || overF (b + d)) = z := ⟨_, rfl⟩
  obtain ⟨ot, hot⟩ : ∃ z, (crossOv a b k k false || crossOv a b k k true) = z := ⟨_, rfl⟩
  have HP' : Hid (∀ v W o g, Live w v W o → SpanRow W (some ⟨g, 0, none⟩) [(a, b), (c, d)] → g ≠ v → Calls Try.prog 14 #[.pointer (some ⟨v, 0, none⟩), .slice (some ⟨g, 0, none⟩) 2 2] W fun e W' => e = .returned ((.agg #[.int .i64 p1, .int .i64 p2])) ∧ Live w v W' (o || op) ∧ Kept v W W') := fun v W o g l hr hg => by
    have t := plus_at l a b c d h1 h2 ha hb' hc' hd' g hr hg
    rw [hp1, hp2, hop] at t
    exact Calls.mono t fun e W' t => ⟨t.1, t.2.1, t.2.2⟩
  have HT' : Hid (∀ v W o, Live w v W o → Calls Try.prog 13 #[.pointer (some ⟨v, 0, none⟩), (.agg #[.int .i64 a, .int .i64 b]), .int .i64 k] W fun e W' => e = .returned ((.agg #[.int .i64 t1, .int .i64 t2])) ∧ Live w v W' (o || ot) ∧ Kept v W W') := fun v W o l => by
    have t := stimes_some l a b k h1 ha hb' hk
    rw [ht1, ht2, hot] at t
    exact Calls.mono t fun e W' t => ⟨t.1, t.2.1, t.2.2⟩
  have HM' : Hid (∀ u W o x up, B64 x → Live w u W o → Calls Try.prog 21 #[.pointer (some ⟨u, 0, none⟩), .int .i64 x, .int .i64 k, .bool up] W (Says w u o W (mulF x k up))) := fun u W o x up hx l => mul_live l up hx.1 hx.2 hk.1 hk.2
  have HA1' : Hid (∀ u W o g, Live w u W o → IntRow W (some ⟨g, 0, none⟩) [a, c] → Calls Try.prog 19 #[.pointer (some ⟨u, 0, none⟩), .slice (some ⟨g, 0, none⟩) 2 2] W fun e W' => e = .returned (.int .i64 p1) ∧ Live w u W' (o || overF (a + c)) ∧ Kept u W W') := fun u W o g l hr => by
    have t := add_at l a c ha hc' g hr
    rw [← hp1]
    exact t
  have HA2' : Hid (∀ u W o g, Live w u W o → IntRow W (some ⟨g, 0, none⟩) [b, d] → Calls Try.prog 19 #[.pointer (some ⟨u, 0, none⟩), .slice (some ⟨g, 0, none⟩) 2 2] W fun e W' => e = .returned (.int .i64 p2) ∧ Live w u W' (o || overF (b + d)) ∧ Kept u W W') := fun u W o g l hr => by
    have t := add_at l b d hb' hd' g hr
    rw [← hp2]
    exact t
  have HBs : Hid (B64 a ∧ B64 b) := ⟨ha, hb'⟩
  have E1 : Hid (t1 = clampF (mulF b k false)) := by rw [← ht1]; exact (cross_neg h1 (by omega)).1
  have E2 : Hid (t2 = clampF (mulF a k true)) := by rw [← ht2]; exact (cross_neg h1 (by omega)).2
  have hk1 : decide (k < 0) = true := by simp; omega
  clear hp1 hp2 ht1 ht2 hop hot ha hb' hc' hd' hk
  go_enter Try.func6, Try.ntmps6
  go_wp2_with fail
  refine Calls.mono (sempty_any a b false _ (by simp; omega)) ?_
  rintro e w1 ⟨rfl, hb⟩
  have B1 : Below (w.heap.size + 1 + 1) ((w.alloc (.cells #[.int .i64 a, .int .i64 b] 23)).alloc (.cells #[.int .i64 c, .int .i64 d] 23)) w1 := by simpa using hb
  have HB1 : Hid (Below (w.heap.size + 1 + 1) ((w.alloc (.cells #[.int .i64 a, .int .i64 b] 23)).alloc (.cells #[.int .i64 c, .int .i64 d] 23)) w1) := B1
  have HW1 : Hid (Below w.heap.size w w1) := (((Below.refl _ w).alloc (Nat.le_refl _) _).alloc (by simp) _).trans (B1.mono (by omega))
  have q3 : w1.cell? ⟨w.heap.size + 1, 0, none⟩ = some (.int .i64 c) := (B1.cell (p := ⟨w.heap.size + 1, 0, none⟩) (by simp)).trans (by simp [go_sem])
  have q4 : w1.cell? ⟨w.heap.size + 1, 1, none⟩ = some (.int .i64 d) := (B1.cell (p := ⟨w.heap.size + 1, 1, none⟩) (by simp)).trans (by simp [go_sem])
  clear hb B1
  go_wp2_with fail
  refine Calls.mono (sempty_any c d false _ (by simp; omega)) ?_
  rintro e w2 ⟨rfl, hb⟩
  have B2 : Below (w.heap.size + 1 + 1) ((w.alloc (.cells #[.int .i64 a, .int .i64 b] 23)).alloc (.cells #[.int .i64 c, .int .i64 d] 23)) w2 := HB1.out.trans (hb.mono (by have := HB1.out.size; simpa using this))
  have HB2 : Hid (Below (w.heap.size + 1 + 1) ((w.alloc (.cells #[.int .i64 a, .int .i64 b] 23)).alloc (.cells #[.int .i64 c, .int .i64 d] 23)) w2) := B2
  have HW2 : Hid (Below w.heap.size w w2) := HW1.out.trans (hb.mono HW1.out.size)
  have p1' : w2.cell? ⟨w.heap.size, 0, none⟩ = some (.int .i64 a) := (B2.cell (p := ⟨w.heap.size, 0, none⟩) (by simp; omega)).trans (by simp [go_sem])
  have p2' : w2.cell? ⟨w.heap.size, 1, none⟩ = some (.int .i64 b) := (B2.cell (p := ⟨w.heap.size, 1, none⟩) (by simp; omega)).trans (by simp [go_sem])
  have p3' : w2.cell? ⟨w.heap.size + 1, 0, none⟩ = some (.int .i64 c) := (B2.cell (p := ⟨w.heap.size + 1, 0, none⟩) (by simp)).trans (by simp [go_sem])
  have p4' : w2.cell? ⟨w.heap.size + 1, 1, none⟩ = some (.int .i64 d) := (B2.cell (p := ⟨w.heap.size + 1, 1, none⟩) (by simp)).trans (by simp [go_sem])
  have z2 : w.heap.size + 1 < w2.heap.size := by have := B2.size; simp at this; omega
  have z1 : w.heap.size < w2.heap.size := by omega
  clear hb B2 q3 q4
  have lb1 := Live.sacc w (w2.alloc (.cells #[.bool false] 30)) false 28 (HW2.out.alloc HW2.out.size _)
  have la1 := (Live.sacc w w2 false 30 HW2.out).alloc (.cells #[.bool false] 28)
  have e1 : (w2.alloc (.cells #[.bool false] 30)).heap.size = w2.heap.size + 1 := by simp
  rw [e1] at lb1
  obtain ⟨v, hv⟩ : ∃ v, w2.heap.size = v := ⟨_, rfl⟩
  obtain ⟨u, hu⟩ : ∃ u, v + 1 = u := ⟨_, rfl⟩
  have s0 : ((w2.alloc (.cells #[.bool false] 30)).alloc (.cells #[.bool false] 28)).heap.size = u + 1 := by simp; omega
  rw [hv] at la1 lb1
  rw [hu] at lb1
  have hne01 : v ≠ u := by omega
  have hne10 : u ≠ v := by omega
  have y1 : w.heap.size + 1 < v := by omega
  have hvu : v < u := by omega
  have HV : Hid (w2.heap.size = v) := hv
  have HU : Hid (v + 1 = u) := hu
  have HK : Hid (∀ W', Kept2 v u ((w2.alloc (.cells #[.bool false] 30)).alloc (.cells #[.bool false] 28)) W' → W'.cell? ⟨w.heap.size, 0, none⟩ = some (.int .i64 a) ∧ W'.cell? ⟨w.heap.size, 1, none⟩ = some (.int .i64 b) ∧ W'.cell? ⟨w.heap.size + 1, 0, none⟩ = some (.int .i64 c) ∧ W'.cell? ⟨w.heap.size + 1, 1, none⟩ = some (.int .i64 d)) := fun W' k => by
    have f1 : w.heap.size < w2.heap.size := by omega
    have f2 : w.heap.size < w2.heap.size + 1 := by omega
    have f3 : w.heap.size + 1 < w2.heap.size := by omega
    have f4 : w.heap.size + 1 < w2.heap.size + 1 := by omega
    exact ⟨k.cell (by simp [go_sem, f1, f2, p1']) (by omega) (by omega), k.cell (by simp [go_sem, f1, f2, p2']) (by omega) (by omega), k.cell (by simp [go_sem, f3, f4, p3']) (by omega) (by omega), k.cell (by simp [go_sem, f3, f4, p4']) (by omega) (by omega)⟩
  obtain ⟨W0, hW0⟩ : ∃ Z, ((w2.alloc (.cells #[.bool false] 30)).alloc (.cells #[.bool false] 28)) = Z := ⟨_, rfl⟩
  have l0 : Live w v W0.drew false := by rw [← hW0]; exact la1.drew
  have l1 : Live w u W0.drew false := by rw [← hW0]; exact lb1.drew
  have m0 : Kept2 v u W0 W0.drew := Kept2.drew v u _
  have HW0 : Hid (((w2.alloc (.cells #[.bool false] 30)).alloc (.cells #[.bool false] 28)) = W0) := hW0
  rw [hW0] at HK s0
  clear p1' p2' p3' p4' hv hu hW0 HB1 HB2 HW1 HW2 la1 lb1 e1
  go_wp2_with fail
  rw [HW0.out, HV.out, HU.out]
  refine wp_region_held_drew (S := fun W' => W'.cell? ⟨w.heap.size, 0, none⟩ = some (.int .i64 a) ∧ W'.cell? ⟨w.heap.size, 1, none⟩ = some (.int .i64 b) ∧ W'.cell? ⟨w.heap.size + 1, 0, none⟩ = some (.int .i64 c) ∧ W'.cell? ⟨w.heap.size + 1, 1, none⟩ = some (.int .i64 d)) (by kernel_rfl) (HK.out _ m0) (fun hHeld => ?_)
  refine wpAnyH_take (i := 0) (oi := { dst := some 24, op := Op.move (Operand.tmp 7), type := 26, pos := "outright.go:33", after := #[], guard := none }) (v := ?_) rfl (by kernel_rfl) (by kernel_rfl) (by kernel_rfl) (fun _ _ _ h => h) (Or.inl ⟨by rfl, ?_⟩) hHeld ?_
  rotate_left
  · (intro w hSw; (try dsimp only at hSw); go_simp; all_goals (try with_reducible rfl))
  try simp only [Act.put, List.setIfInBounds_toArray, List.set_cons_zero, List.set_cons_succ]
  refine wpAnyH_take (i := 1) (oi := { dst := some 25, op := Op.load 23 (Operand.tmp 3), type := 23, pos := "outright.go:33", after := #[], guard := none }) (v := ?_) rfl (by kernel_rfl) (by kernel_rfl) (by kernel_rfl) (fun _ _ _ h => h) (Or.inl ⟨by rfl, ?_⟩) hHeld ?_
  rotate_left
  · (intro w hSw; (try dsimp only at hSw); go_simp; all_goals (try with_reducible rfl))
  try simp only [Act.put, List.setIfInBounds_toArray, List.set_cons_zero, List.set_cons_succ]
  refine wpAnyH_take (i := 2) (oi := { dst := some 26, op := Op.load 23 (Operand.tmp 4), type := 23, pos := "outright.go:33", after := #[], guard := none }) (v := ?_) rfl (by kernel_rfl) (by kernel_rfl) (by kernel_rfl) (fun _ _ _ h => h) (Or.inl ⟨by rfl, ?_⟩) hHeld ?_
  rotate_left
  · (intro w hSw; (try dsimp only at hSw); go_simp; all_goals (try with_reducible rfl))
  try simp only [Act.put, List.setIfInBounds_toArray, List.set_cons_zero, List.set_cons_succ]
  refine wpAnyH_take (i := 5) (oi := { dst := some 29, op := Op.move (Operand.tmp 7), type := 26, pos := "outright.go:33", after := #[], guard := none }) (v := ?_) rfl (by kernel_rfl) (by kernel_rfl) (by kernel_rfl) (fun _ _ _ h => h) (Or.inl ⟨by rfl, ?_⟩) hHeld ?_
  rotate_left
  · (intro w hSw; (try dsimp only at hSw); go_simp; all_goals (try with_reducible rfl))
  try simp only [Act.put, List.setIfInBounds_toArray, List.set_cons_zero, List.set_cons_succ]
  refine wpAnyH_take (i := 6) (oi := { dst := some 30, op := Op.load 23 (Operand.tmp 3), type := 23, pos := "outright.go:33", after := #[], guard := none }) (v := ?_) rfl (by kernel_rfl) (by kernel_rfl) (by kernel_rfl) (fun _ _ _ h => h) (Or.inl ⟨by rfl, ?_⟩) hHeld ?_
  rotate_left
  · (intro w hSw; (try dsimp only at hSw); go_simp; all_goals (try with_reducible rfl))
  try simp only [Act.put, List.setIfInBounds_toArray, List.set_cons_zero, List.set_cons_succ]
  refine wpAnyH_take (i := 7) (oi := { dst := some 31, op := Op.move (Operand.tmp 2), type := 3, pos := "outright.go:33", after := #[], guard := none }) (v := ?_) rfl (by kernel_rfl) (by kernel_rfl) (by kernel_rfl) (fun _ _ _ h => h) (Or.inl ⟨by rfl, ?_⟩) hHeld ?_
  rotate_left
  · (intro w hSw; (try dsimp only at hSw); go_simp; all_goals (try with_reducible rfl))
  try simp only [Act.put, List.setIfInBounds_toArray, List.set_cons_zero, List.set_cons_succ]
  refine inv_any (fun l act W => ∃ f3 f4 f8 f9 f10 f11 f12 : Bool, ∃ r g9 g10 : Nat, ∃ oo : Bool, l = #[true, true, true, f3, f4, true, true, true, f8, f9, f10, f11, f12] ∧ act = { tmps := #[Value.agg #[Value.int IntKind.i64 a, Value.int IntKind.i64 b], Value.agg #[Value.int IntKind.i64 c, Value.int IntKind.i64 d], Value.int IntKind.i64 k, Value.pointer (some { block := w.heap.size, off := 0 }), Value.pointer (some { block := w.heap.size + 1, off := 0 }), undef, Value.bool false, Value.pointer (some { block := v, off := 0 }), Value.pointer (some { block := u, off := 0 }), sel f9 (Value.pointer (some ⟨g9, 0, none⟩)), sel f10 (Value.pointer (some ⟨g10, 0, none⟩)), undef, undef, Value.agg #[Value.int IntKind.i64 a, Value.int IntKind.i64 b], Value.bool false, Value.bool false, Value.agg #[Value.int IntKind.i64 c, Value.int IntKind.i64 d], Value.bool false, Value.bool false, undef, Value.agg #[Value.bool false], Value.pointer (some { block := v, off := 0 }), Value.agg #[Value.bool false], Value.pointer (some { block := u, off := 0 }), Value.pointer (some { block := v, off := 0 }), Value.agg #[Value.int IntKind.i64 a, Value.int IntKind.i64 b], Value.agg #[Value.int IntKind.i64 c, Value.int IntKind.i64 d], sel f3 (Value.slice (some ⟨r, 0, none⟩) 2 2), sel f4 (Value.agg #[.int .i64 p1, .int .i64 p2]), Value.pointer (some { block := v, off := 0 }), Value.agg #[Value.int IntKind.i64 a, Value.int IntKind.i64 b], Value.int IntKind.i64 k, sel f8 (Value.agg #[.int .i64 t1, .int .i64 t2]), undef, undef, undef, undef, undef, undef, undef, undef, undef, undef, undef, undef, undef, undef, undef, undef, undef, undef, undef, undef, undef, undef, undef, undef, undef, undef, undef, undef, undef, undef, undef, undef, undef, undef, undef, undef, undef, undef, undef, undef, undef, undef, undef, undef, undef, undef, undef, undef, undef, undef, undef, undef, undef, undef, undef, undef, undef, undef, undef], defers := [] } ∧ Live w v W oo ∧ Live w u W false ∧ Kept2 v u W0 W ∧ (f4 = false → f3 = true → SpanRow W (some ⟨r, 0, none⟩) [(a, b), (c, d)] ∧ r ≠ v ∧ r ≠ u) ∧ (f9 = true → Loc (u + 1) W g9 f11 p1 p2) ∧ (f10 = true → Loc (u + 1) W g10 f12 t1 t2) ∧ (f9 = true → f10 = true → g9 ≠ g10) ∧ (f9 = false → f11 = false) ∧ (f10 = false → f12 = false)) (by kernel_rfl) ?_ ?_ ?_ _ _ _ _ (by decide) (by decide) ?_
  · rintro l act W ⟨f3, f4, f8, f9, f10, f11, f12, r, g9, g10, oo, rfl, rfl, hl, hl2, hm, hr, hg9, hg10, hgg, hs1, hs2⟩
    exact HK.out _ hm
  · rintro l act W ⟨f3, f4, f8, f9, f10, f11, f12, r, g9, g10, oo, rfl, rfl, hl, hl2, hm, hr, hg9, hg10, hgg, hs1, hs2⟩ i o hi ho K' hK
    have hlt := ready_lt hi
    have hlt' : i < 13 := hlt
    have hcase : i = 0 ∨ i = 1 ∨ i = 2 ∨ i = 3 ∨ i = 4 ∨ i = 5 ∨ i = 6 ∨ i = 7 ∨ i = 8 ∨ i = 9 ∨ i = 10 ∨ i = 11 ∨ i = 12 := by omega
    clear hlt hlt'
    have hz := hm.size
    rcases hcase with rfl | rfl | rfl | rfl | rfl | rfl | rfl | rfl | rfl | rfl | rfl | rfl | rfl
    · exact absurd (show true = false from (ready_dep hi ho).1) (by decide)
    · exact absurd (show true = false from (ready_dep hi ho).1) (by decide)
    · exact absurd (show true = false from (ready_dep hi ho).1) (by decide)
    · obtain rfl : o = ({ dst := some 27, op := Op.buildSlice 50 2 #[(0, Operand.tmp 25), (1, Operand.tmp 26)], type := 50, pos := "outright.go:33", after := #[{ on := 1, ground := Ground.data }, { on := 2, ground := Ground.data }], guard := none } : Oper) := (Option.some.inj ho).symm
      obtain ⟨hf, hd⟩ := ready_dep hi ho
      have ef : f3 = false := hf
      subst ef 
      clear hf hd hi ho
      simp only [sel_false]
      go_simp
      have hb : Below W.heap.size W (W.alloc (.cells #[.int .i64 a, .int .i64 b, .int .i64 c, .int .i64 d] 23)) := (Below.refl _ W).alloc (Nat.le_refl _) _
      have ho1 := hl.old
      have ho2 := hl2.old
      refine hK.out _ _ ⟨true, f4, f8, f9, f10, f11, f12, W.heap.size, g9, g10, oo, rfl, rfl, hl.stays hb, hl2.stays hb, hm.below hb, fun _ _ => ⟨row_two W a b c d _ rfl, by omega, by omega⟩, fun h => (hg9 h).below hb, fun h => (hg10 h).below hb, hgg, hs1, hs2⟩
    · obtain rfl : o = ({ dst := some 28, op := Op.call { callee := Callee.value (Operand.func 14), args := #[Operand.tmp 24, Operand.tmp 27], argTypes := #[26, 50] }, type := 23, pos := "outright.go:33", after := #[{ on := 0, ground := Ground.data }, { on := 3, ground := Ground.data }], guard := none } : Oper) := (Option.some.inj ho).symm
      obtain ⟨hf, hd⟩ := ready_dep hi ho
      have ef : f4 = false := hf
      have e3 : f3 = true := hd 3 (by decide)
      subst ef e3
      clear hf hd hi ho
      obtain ⟨hr1, hr2, hr3⟩ := hr rfl rfl
      simp only [sel_true, sel_false]
      go_simp
      refine Calls.mono (HP'.out _ _ _ _ hl hr1 hr2) ?_
      rintro e W' ⟨rfl, lx, kx⟩
      have hlv := kx.size
      go_wp2_with fail
      refine hK.out _ _ ⟨true, true, f8, f9, f10, f11, f12, r, g9, g10, _, rfl, rfl, lx, hl2.kept kx hne10 hl.new, hm.left kx, fun h => by (cases h), fun h => (hg9 h).kept kx (by omega), fun h => (hg10 h).kept kx (by omega), hgg, hs1, hs2⟩
    · exact absurd (show true = false from (ready_dep hi ho).1) (by decide)
    · exact absurd (show true = false from (ready_dep hi ho).1) (by decide)
    · exact absurd (show true = false from (ready_dep hi ho).1) (by decide)
    · obtain rfl : o = ({ dst := some 32, op := Op.call { callee := Callee.value (Operand.func 13), args := #[Operand.tmp 29, Operand.tmp 30, Operand.tmp 31], argTypes := #[26, 23, 3] }, type := 23, pos := "outright.go:33", after := #[{ on := 5, ground := Ground.data }, { on := 6, ground := Ground.data }, { on := 7, ground := Ground.data }, { on := 4, ground := Ground.chain }], guard := none } : Oper) := (Option.some.inj ho).symm
      obtain ⟨hf, hd⟩ := ready_dep hi ho
      have ef : f8 = false := hf
      have e4 : f4 = true := hd 4 (by decide)
      subst ef e4
      clear hf hd hi ho
      simp only [sel_true, sel_false]
      go_simp
      refine Calls.mono (HT'.out _ _ _ hl) ?_
      rintro e W' ⟨rfl, lx, kx⟩
      go_wp2_with fail
      refine hK.out _ _ ⟨f3, true, true, f9, f10, f11, f12, r, g9, g10, _, rfl, rfl, lx, hl2.kept kx hne10 hl.new, hm.left kx, fun h => by (cases h), fun h => (hg9 h).kept kx (by omega), fun h => (hg10 h).kept kx (by omega), hgg, hs1, hs2⟩
    · obtain rfl : o = ({ dst := some 9, op := Op.alloc 23, type := 0, pos := "outright.go:33", after := #[], guard := none } : Oper) := (Option.some.inj ho).symm
      obtain ⟨hf, hd⟩ := ready_dep hi ho
      have ef : f9 = false := hf
      subst ef 
      clear hf hd hi ho
      have es : f11 = false := hs1 rfl
      subst es
      simp only [sel_false]
      go_simp
      have hb : Below W.heap.size W (W.alloc (.cells #[.int .i64 0, .int .i64 0] 23)) := (Below.refl _ W).alloc (Nat.le_refl _) _
      have FR := Loc.fresh (u + 1) W p1 p2 (by omega)
      refine hK.out _ _ ⟨f3, f4, f8, true, f10, false, f12, r, W.heap.size, g10, oo, rfl, rfl, hl.stays hb, hl2.stays hb, hm.below hb, fun h1 h2 => ⟨(hr h1 h2).1.stays hb (Nat.le_refl _), (hr h1 h2).2⟩, fun _ => FR, fun h => (hg10 h).below hb, fun _ h => by (have := (hg10 h).lt; omega), fun h => by (cases h), hs2⟩
    · obtain rfl : o = ({ dst := some 10, op := Op.alloc 23, type := 0, pos := "outright.go:33", after := #[], guard := none } : Oper) := (Option.some.inj ho).symm
      obtain ⟨hf, hd⟩ := ready_dep hi ho
      have ef : f10 = false := hf
      subst ef 
      clear hf hd hi ho
      have es : f12 = false := hs2 rfl
      subst es
      simp only [sel_false]
      go_simp
      have hb : Below W.heap.size W (W.alloc (.cells #[.int .i64 0, .int .i64 0] 23)) := (Below.refl _ W).alloc (Nat.le_refl _) _
      have FR := Loc.fresh (u + 1) W t1 t2 (by omega)
      refine hK.out _ _ ⟨f3, f4, f8, f9, true, f11, false, r, g9, W.heap.size, oo, rfl, rfl, hl.stays hb, hl2.stays hb, hm.below hb, fun h1 h2 => ⟨(hr h1 h2).1.stays hb (Nat.le_refl _), (hr h1 h2).2⟩, fun h => (hg9 h).below hb, fun _ => FR, fun h _ => by (have := (hg9 h).lt; omega), hs1, fun h => by (cases h)⟩
    · obtain rfl : o = ({ dst := none, op := Op.store 23 (Operand.tmp 9) (Operand.tmp 28), type := 0, pos := "outright.go:33", after := #[{ on := 9, ground := Ground.data }, { on := 4, ground := Ground.data }, { on := 8, ground := Ground.chain }, { on := 0, ground := Ground.phase }, { on := 1, ground := Ground.phase }, { on := 2, ground := Ground.phase }, { on := 3, ground := Ground.phase }, { on := 4, ground := Ground.phase }, { on := 5, ground := Ground.textOnly Departure.lateStores }, { on := 6, ground := Ground.textOnly Departure.lateStores }, { on := 7, ground := Ground.textOnly Departure.lateStores }, { on := 8, ground := Ground.textOnly Departure.lateStoresUnsure }, { on := 9, ground := Ground.phase }, { on := 10, ground := Ground.phase }], guard := none } : Oper) := (Option.some.inj ho).symm
      obtain ⟨hf, hd⟩ := ready_dep hi ho
      have ef : f11 = false := hf
      have e3 : f3 = true := hd 3 (by decide)
      have e4 : f4 = true := hd 4 (by decide)
      have e8 : f8 = true := hd 8 (by decide)
      have e9 : f9 = true := hd 9 (by decide)
      have e10 : f10 = true := hd 10 (by decide)
      subst ef e3 e4 e8 e9 e10
      clear hf hd hi ho
      have L1 := hg9 rfl
      have c0 := L1.c0
      have c1 := L1.c1
      have q0 := L1.f0
      have q1 := L1.f1
      simp only [Bool.false_eq_true, if_false] at c0 c1
      have hnn := hgg rfl rfl
      have hnew := L1.new
      simp only [sel_true]
      go_simp
      refine hK.out _ _ ⟨true, true, true, true, true, true, f12, r, g9, g10, oo, rfl, rfl, hl.set2 g9 _ _ (by omega), hl2.set2 g9 _ _ (by omega), hm.set g9 _ _ (by omega), fun h => by (cases h), fun _ => L1.store, fun h => (hg10 rfl).other (Ne.symm hnn) _ _, fun _ _ => hnn, fun h => by (cases h), fun h => by (cases h)⟩
    · obtain rfl : o = ({ dst := none, op := Op.store 23 (Operand.tmp 10) (Operand.tmp 32), type := 0, pos := "outright.go:33", after := #[{ on := 10, ground := Ground.data }, { on := 8, ground := Ground.data }, { on := 11, ground := Ground.chain }, { on := 0, ground := Ground.phase }, { on := 1, ground := Ground.phase }, { on := 2, ground := Ground.phase }, { on := 3, ground := Ground.phase }, { on := 4, ground := Ground.phase }, { on := 5, ground := Ground.phase }, { on := 6, ground := Ground.phase }, { on := 7, ground := Ground.phase }, { on := 8, ground := Ground.phase }, { on := 9, ground := Ground.phase }, { on := 10, ground := Ground.phase }, { on := 11, ground := Ground.phase }], guard := none } : Oper) := (Option.some.inj ho).symm
      obtain ⟨hf, hd⟩ := ready_dep hi ho
      have ef : f12 = false := hf
      have e3 : f3 = true := hd 3 (by decide)
      have e4 : f4 = true := hd 4 (by decide)
      have e8 : f8 = true := hd 8 (by decide)
      have e9 : f9 = true := hd 9 (by decide)
      have e10 : f10 = true := hd 10 (by decide)
      have e11 : f11 = true := hd 11 (by decide)
      subst ef e3 e4 e8 e9 e10 e11
      clear hf hd hi ho
      have L1 := hg10 rfl
      have c0 := L1.c0
      have c1 := L1.c1
      have q0 := L1.f0
      have q1 := L1.f1
      simp only [Bool.false_eq_true, if_false] at c0 c1
      have hnn := hgg rfl rfl
      have hnew := L1.new
      simp only [sel_true]
      go_simp
      refine hK.out _ _ ⟨true, true, true, true, true, true, true, r, g9, g10, oo, rfl, rfl, hl.set2 g10 _ _ (by omega), hl2.set2 g10 _ _ (by omega), hm.set g10 _ _ (by omega), fun h => by (cases h), fun _ => (hg9 rfl).other hnn _ _, fun _ => L1.store, fun _ _ => hnn, fun h => by (cases h), fun h => by (cases h)⟩
  · rintro l act W ⟨f3, f4, f8, f9, f10, f11, f12, r, g9, g10, oo, rfl, rfl, hl, hl2, hm, hr, hg9, hg10, hgg, hs1, hs2⟩ hall
    have e3 : f3 = true := hall 3 (by decide)
    have e4 : f4 = true := hall 4 (by decide)
    have e8 : f8 = true := hall 8 (by decide)
    have e9 : f9 = true := hall 9 (by decide)
    have e10 : f10 = true := hall 10 (by decide)
    have e11 : f11 = true := hall 11 (by decide)
    have e12 : f12 = true := hall 12 (by decide)
    subst e3 e4 e8 e9 e10 e11 e12
    clear hall
    simp only [sel_true]
    have L9 := hg9 rfl
    have L10 := hg10 rfl
    have hnn := hgg rfl rfl
    have n9 := L9.new
    have n10 := L10.new
    have c90 := L9.c0
    have c91 := L9.c1
    have c100 := L10.c0
    have c101 := L10.c1
    simp only [if_true] at c90 c91 c100 c101
    have HK5 : Hid (∀ W', Kept2 v u W W' → W'.cell? ⟨w.heap.size, 0, none⟩ = some (.int .i64 a) ∧ W'.cell? ⟨w.heap.size, 1, none⟩ = some (.int .i64 b) ∧ W'.cell? ⟨w.heap.size + 1, 0, none⟩ = some (.int .i64 c) ∧ W'.cell? ⟨w.heap.size + 1, 1, none⟩ = some (.int .i64 d) ∧ W'.cell? ⟨g9, 0, none⟩ = some (.int .i64 p1) ∧ W'.cell? ⟨g9, 1, none⟩ = some (.int .i64 p2) ∧ W'.cell? ⟨g10, 0, none⟩ = some (.int .i64 t1) ∧ W'.cell? ⟨g10, 1, none⟩ = some (.int .i64 t2)) := fun W' kk => by
      obtain ⟨x1, x2, x3, x4⟩ := HK.out _ hm
      exact ⟨kk.cell x1 (by omega) (by omega), kk.cell x2 (by omega) (by omega), kk.cell x3 (by omega) (by omega), kk.cell x4 (by omega) (by omega), kk.cell c90 (by omega) (by omega), kk.cell c91 (by omega) (by omega), kk.cell c100 (by omega) (by omega), kk.cell c101 (by omega) (by omega)⟩
    obtain ⟨B1, B2⟩ := HBs.out
    have l0 : Live w v W.drew oo := hl.drew
    have l1 : Live w u W.drew false := hl2.drew
    have m0 : Kept2 v u W W.drew := Kept2.drew v u _
    clear hr hg9 hg10 hgg hs1 hs2 L9 L10 hl hl2 c90 c91 c100 c101 HP' HT' hHeld HW0 HV HU
    go_wp2_with fail
    refine wp_region_held_drew (S := fun W' => W'.cell? ⟨w.heap.size, 0, none⟩ = some (.int .i64 a) ∧ W'.cell? ⟨w.heap.size, 1, none⟩ = some (.int .i64 b) ∧ W'.cell? ⟨w.heap.size + 1, 0, none⟩ = some (.int .i64 c) ∧ W'.cell? ⟨w.heap.size + 1, 1, none⟩ = some (.int .i64 d) ∧ W'.cell? ⟨g9, 0, none⟩ = some (.int .i64 p1) ∧ W'.cell? ⟨g9, 1, none⟩ = some (.int .i64 p2) ∧ W'.cell? ⟨g10, 0, none⟩ = some (.int .i64 t1) ∧ W'.cell? ⟨g10, 1, none⟩ = some (.int .i64 t2)) (by kernel_rfl) (HK5.out _ m0) (fun hHeld => ?_)
    refine wpAnyH_take (i := 0) (oi := { dst := some 33, op := Op.move (Operand.tmp 8), type := 38, pos := "outright.go:34", after := #[], guard := none }) (v := ?_) rfl (by kernel_rfl) (by kernel_rfl) (by kernel_rfl) (fun _ _ _ h => h) (Or.inl ⟨by rfl, ?_⟩) hHeld ?_
    rotate_left
    · (intro w hSw; (try dsimp only at hSw); go_simp; all_goals (try with_reducible rfl))
    try simp only [Act.put, List.setIfInBounds_toArray, List.set_cons_zero, List.set_cons_succ]
    refine wpAnyH_take (i := 1) (oi := { dst := some 34, op := Op.fieldAddr 23 (Operand.tmp 3) 0, type := 0, pos := "outright.go:34", after := #[], guard := none }) (v := ?_) rfl (by kernel_rfl) (by kernel_rfl) (by kernel_rfl) (fun _ _ _ h => h) (Or.inl ⟨by rfl, ?_⟩) hHeld ?_
    rotate_left
    · (intro w hSw; (try dsimp only at hSw); go_simp; all_goals (try with_reducible rfl))
    try simp only [Act.put, List.setIfInBounds_toArray, List.set_cons_zero, List.set_cons_succ]
    refine wpAnyH_take (i := 2) (oi := { dst := some 35, op := Op.load 3 (Operand.tmp 34), type := 3, pos := "outright.go:34", after := #[{ on := 1, ground := Ground.data }], guard := none }) (v := ?_) rfl (by kernel_rfl) (by kernel_rfl) (by kernel_rfl) (fun _ _ _ h => h) (Or.inl ⟨by rfl, ?_⟩) hHeld ?_
    rotate_left
    · (intro w hSw; (try dsimp only at hSw); go_simp; all_goals (try with_reducible rfl))
    try simp only [Act.put, List.setIfInBounds_toArray, List.set_cons_zero, List.set_cons_succ]
    refine wpAnyH_take (i := 3) (oi := { dst := some 36, op := Op.move (Operand.tmp 2), type := 3, pos := "outright.go:34", after := #[], guard := none }) (v := ?_) rfl (by kernel_rfl) (by kernel_rfl) (by kernel_rfl) (fun _ _ _ h => h) (Or.inl ⟨by rfl, ?_⟩) hHeld ?_
    rotate_left
    · (intro w hSw; (try dsimp only at hSw); go_simp; all_goals (try with_reducible rfl))
    try simp only [Act.put, List.setIfInBounds_toArray, List.set_cons_zero, List.set_cons_succ]
    refine wpAnyH_take (i := 5) (oi := { dst := some 38, op := Op.move (Operand.tmp 8), type := 38, pos := "outright.go:34", after := #[], guard := none }) (v := ?_) rfl (by kernel_rfl) (by kernel_rfl) (by kernel_rfl) (fun _ _ _ h => h) (Or.inl ⟨by rfl, ?_⟩) hHeld ?_
    rotate_left
    · (intro w hSw; (try dsimp only at hSw); go_simp; all_goals (try with_reducible rfl))
    try simp only [Act.put, List.setIfInBounds_toArray, List.set_cons_zero, List.set_cons_succ]
    refine wpAnyH_take (i := 6) (oi := { dst := some 39, op := Op.fieldAddr 23 (Operand.tmp 3) 1, type := 0, pos := "outright.go:34", after := #[], guard := none }) (v := ?_) rfl (by kernel_rfl) (by kernel_rfl) (by kernel_rfl) (fun _ _ _ h => h) (Or.inl ⟨by rfl, ?_⟩) hHeld ?_
    rotate_left
    · (intro w hSw; (try dsimp only at hSw); go_simp; all_goals (try with_reducible rfl))
    try simp only [Act.put, List.setIfInBounds_toArray, List.set_cons_zero, List.set_cons_succ]
    refine wpAnyH_take (i := 7) (oi := { dst := some 40, op := Op.load 3 (Operand.tmp 39), type := 3, pos := "outright.go:34", after := #[{ on := 6, ground := Ground.data }], guard := none }) (v := ?_) rfl (by kernel_rfl) (by kernel_rfl) (by kernel_rfl) (fun _ _ _ h => h) (Or.inl ⟨by rfl, ?_⟩) hHeld ?_
    rotate_left
    · (intro w hSw; (try dsimp only at hSw); go_simp; all_goals (try with_reducible rfl))
    try simp only [Act.put, List.setIfInBounds_toArray, List.set_cons_zero, List.set_cons_succ]
    refine wpAnyH_take (i := 8) (oi := { dst := some 41, op := Op.move (Operand.tmp 2), type := 3, pos := "outright.go:34", after := #[], guard := none }) (v := ?_) rfl (by kernel_rfl) (by kernel_rfl) (by kernel_rfl) (fun _ _ _ h => h) (Or.inl ⟨by rfl, ?_⟩) hHeld ?_
    rotate_left
    · (intro w hSw; (try dsimp only at hSw); go_simp; all_goals (try with_reducible rfl))
    try simp only [Act.put, List.setIfInBounds_toArray, List.set_cons_zero, List.set_cons_succ]
    refine wpAnyH_ready (rs := [4]) (by kernel_rfl) (by simp) ?_
    refine AllReadyH.cons (o := { dst := some 37, op := Op.call { callee := Callee.value (Operand.func 21), args := #[Operand.tmp 33, Operand.tmp 35, Operand.tmp 36, Operand.const (Value.bool false)], argTypes := #[38, 3, 3, 4] }, type := 3, pos := "outright.go:34", after := #[{ on := 0, ground := Ground.data }, { on := 2, ground := Ground.data }, { on := 3, ground := Ground.data }], guard := none }) rfl (fun K hK => ?_) AllReadyH.nil
    go_simp
    refine Calls.mono (HM'.out _ _ _ a false B1 l1) ?_
    rintro e qW1 ⟨rfl, lx, kx⟩
    have ql1_0 := l0.kept kx hne01 l1.new
    have ql1_1 := lx
    have qm1 := m0.right kx
    clear kx lx
    go_wp2_with fail
    refine hK.out _ _ (HK5.out _ qm1) (fun hHeld => ?_)
    clear hK K
    try simp only [Act.put, List.setIfInBounds_toArray, List.set_cons_zero, List.set_cons_succ]
    refine wpAnyH_ready (rs := [9]) (by kernel_rfl) (by simp) ?_
    refine AllReadyH.cons (o := { dst := some 42, op := Op.call { callee := Callee.value (Operand.func 21), args := #[Operand.tmp 38, Operand.tmp 40, Operand.tmp 41, Operand.const (Value.bool true)], argTypes := #[38, 3, 3, 4] }, type := 3, pos := "outright.go:34", after := #[{ on := 5, ground := Ground.data }, { on := 7, ground := Ground.data }, { on := 8, ground := Ground.data }, { on := 4, ground := Ground.chain }], guard := none }) rfl (fun K hK => ?_) AllReadyH.nil
    go_simp
    refine Calls.mono (HM'.out _ _ _ b true B2 ql1_1) ?_
    rintro e qW2 ⟨rfl, lx, kx⟩
    have ql2_0 := ql1_0.kept kx hne01 ql1_1.new
    have ql2_1 := lx
    have qm2 := qm1.right kx
    clear kx lx
    go_wp2_with fail
    refine hK.out _ _ (HK5.out _ qm2) (fun hHeld => ?_)
    clear hK K
    try simp only [Act.put, List.setIfInBounds_toArray, List.set_cons_zero, List.set_cons_succ]
    refine wpAnyH_take (i := 10) (oi := { dst := some 11, op := Op.assign (Operand.tmp 37), type := 3, pos := "outright.go:34", after := #[{ on := 4, ground := Ground.data }, { on := 9, ground := Ground.chain }, { on := 0, ground := Ground.phase }, { on := 1, ground := Ground.phase }, { on := 2, ground := Ground.phase }, { on := 3, ground := Ground.phase }, { on := 4, ground := Ground.phase }, { on := 5, ground := Ground.textOnly Departure.lateStores }, { on := 6, ground := Ground.textOnly Departure.lateStores }, { on := 7, ground := Ground.textOnly Departure.lateStores }, { on := 8, ground := Ground.textOnly Departure.lateStores }, { on := 9, ground := Ground.textOnly Departure.lateStoresUnsure }], guard := none }) (v := ?_) rfl (by kernel_rfl) (by kernel_rfl) (by kernel_rfl) (fun _ _ _ h => h) (Or.inl ⟨by rfl, ?_⟩) hHeld ?_
    rotate_left
    · (intro w hSw; (try dsimp only at hSw); go_simp; all_goals (try with_reducible rfl))
    try simp only [Act.put, List.setIfInBounds_toArray, List.set_cons_zero, List.set_cons_succ]
    refine wpAnyH_take (i := 11) (oi := { dst := some 12, op := Op.assign (Operand.tmp 42), type := 3, pos := "outright.go:34", after := #[{ on := 9, ground := Ground.data }, { on := 10, ground := Ground.chain }, { on := 0, ground := Ground.phase }, { on := 1, ground := Ground.phase }, { on := 2, ground := Ground.phase }, { on := 3, ground := Ground.phase }, { on := 4, ground := Ground.phase }, { on := 5, ground := Ground.phase }, { on := 6, ground := Ground.phase }, { on := 7, ground := Ground.phase }, { on := 8, ground := Ground.phase }, { on := 9, ground := Ground.phase }, { on := 10, ground := Ground.phase }], guard := none }) (v := ?_) rfl (by kernel_rfl) (by kernel_rfl) (by kernel_rfl) (fun _ _ _ h => h) (Or.inl ⟨by rfl, ?_⟩) hHeld ?_
    rotate_left
    · (intro w hSw; (try dsimp only at hSw); go_simp; all_goals (try with_reducible rfl))
    try simp only [Act.put, List.setIfInBounds_toArray, List.set_cons_zero, List.set_cons_succ]
    refine wpAnyH_done (by kernel_rfl) ?_ _
    obtain ⟨B1, B2⟩ := HBs.out
    have l0 := ql2_0.drew
    have l1 := ql2_1.drew
    have m0 := qm2.below (Below.refl _ qW2).drew
    go_wp2_with fail
    refine wp_region_held_drew (S := fun W' => W'.cell? ⟨w.heap.size, 0, none⟩ = some (.int .i64 a) ∧ W'.cell? ⟨w.heap.size, 1, none⟩ = some (.int .i64 b) ∧ W'.cell? ⟨w.heap.size + 1, 0, none⟩ = some (.int .i64 c) ∧ W'.cell? ⟨w.heap.size + 1, 1, none⟩ = some (.int .i64 d) ∧ W'.cell? ⟨g9, 0, none⟩ = some (.int .i64 p1) ∧ W'.cell? ⟨g9, 1, none⟩ = some (.int .i64 p2) ∧ W'.cell? ⟨g10, 0, none⟩ = some (.int .i64 t1) ∧ W'.cell? ⟨g10, 1, none⟩ = some (.int .i64 t2)) (by kernel_rfl) (HK5.out _ m0) (fun hHeld => ?_)
    refine wpAnyH_take (i := 0) (oi := { dst := some 45, op := Op.move (Operand.tmp 8), type := 38, pos := "outright.go:36", after := #[], guard := none }) (v := ?_) rfl (by kernel_rfl) (by kernel_rfl) (by kernel_rfl) (fun _ _ _ h => h) (Or.inl ⟨by rfl, ?_⟩) hHeld ?_
    rotate_left
    · (intro w hSw; (try dsimp only at hSw); go_simp; all_goals (try with_reducible rfl))
    try simp only [Act.put, List.setIfInBounds_toArray, List.set_cons_zero, List.set_cons_succ]
    refine wpAnyH_take (i := 1) (oi := { dst := some 46, op := Op.fieldAddr 23 (Operand.tmp 3) 1, type := 0, pos := "outright.go:36", after := #[], guard := none }) (v := ?_) rfl (by kernel_rfl) (by kernel_rfl) (by kernel_rfl) (fun _ _ _ h => h) (Or.inl ⟨by rfl, ?_⟩) hHeld ?_
    rotate_left
    · (intro w hSw; (try dsimp only at hSw); go_simp; all_goals (try with_reducible rfl))
    try simp only [Act.put, List.setIfInBounds_toArray, List.set_cons_zero, List.set_cons_succ]
    refine wpAnyH_take (i := 2) (oi := { dst := some 47, op := Op.load 3 (Operand.tmp 46), type := 3, pos := "outright.go:36", after := #[{ on := 1, ground := Ground.data }], guard := none }) (v := ?_) rfl (by kernel_rfl) (by kernel_rfl) (by kernel_rfl) (fun _ _ _ h => h) (Or.inl ⟨by rfl, ?_⟩) hHeld ?_
    rotate_left
    · (intro w hSw; (try dsimp only at hSw); go_simp; all_goals (try with_reducible rfl))
    try simp only [Act.put, List.setIfInBounds_toArray, List.set_cons_zero, List.set_cons_succ]
    refine wpAnyH_take (i := 3) (oi := { dst := some 48, op := Op.move (Operand.tmp 2), type := 3, pos := "outright.go:36", after := #[], guard := none }) (v := ?_) rfl (by kernel_rfl) (by kernel_rfl) (by kernel_rfl) (fun _ _ _ h => h) (Or.inl ⟨by rfl, ?_⟩) hHeld ?_
    rotate_left
    · (intro w hSw; (try dsimp only at hSw); go_simp; all_goals (try with_reducible rfl))
    try simp only [Act.put, List.setIfInBounds_toArray, List.set_cons_zero, List.set_cons_succ]
    refine wpAnyH_take (i := 5) (oi := { dst := some 50, op := Op.move (Operand.tmp 8), type := 38, pos := "outright.go:36", after := #[], guard := none }) (v := ?_) rfl (by kernel_rfl) (by kernel_rfl) (by kernel_rfl) (fun _ _ _ h => h) (Or.inl ⟨by rfl, ?_⟩) hHeld ?_
    rotate_left
    · (intro w hSw; (try dsimp only at hSw); go_simp; all_goals (try with_reducible rfl))
    try simp only [Act.put, List.setIfInBounds_toArray, List.set_cons_zero, List.set_cons_succ]
    refine wpAnyH_take (i := 6) (oi := { dst := some 51, op := Op.fieldAddr 23 (Operand.tmp 3) 0, type := 0, pos := "outright.go:36", after := #[], guard := none }) (v := ?_) rfl (by kernel_rfl) (by kernel_rfl) (by kernel_rfl) (fun _ _ _ h => h) (Or.inl ⟨by rfl, ?_⟩) hHeld ?_
    rotate_left
    · (intro w hSw; (try dsimp only at hSw); go_simp; all_goals (try with_reducible rfl))
    try simp only [Act.put, List.setIfInBounds_toArray, List.set_cons_zero, List.set_cons_succ]
    refine wpAnyH_take (i := 7) (oi := { dst := some 52, op := Op.load 3 (Operand.tmp 51), type := 3, pos := "outright.go:36", after := #[{ on := 6, ground := Ground.data }], guard := none }) (v := ?_) rfl (by kernel_rfl) (by kernel_rfl) (by kernel_rfl) (fun _ _ _ h => h) (Or.inl ⟨by rfl, ?_⟩) hHeld ?_
    rotate_left
    · (intro w hSw; (try dsimp only at hSw); go_simp; all_goals (try with_reducible rfl))
    try simp only [Act.put, List.setIfInBounds_toArray, List.set_cons_zero, List.set_cons_succ]
    refine wpAnyH_take (i := 8) (oi := { dst := some 53, op := Op.move (Operand.tmp 2), type := 3, pos := "outright.go:36", after := #[], guard := none }) (v := ?_) rfl (by kernel_rfl) (by kernel_rfl) (by kernel_rfl) (fun _ _ _ h => h) (Or.inl ⟨by rfl, ?_⟩) hHeld ?_
    rotate_left
    · (intro w hSw; (try dsimp only at hSw); go_simp; all_goals (try with_reducible rfl))
    try simp only [Act.put, List.setIfInBounds_toArray, List.set_cons_zero, List.set_cons_succ]
    refine wpAnyH_ready (rs := [4]) (by kernel_rfl) (by simp) ?_
    refine AllReadyH.cons (o := { dst := some 49, op := Op.call { callee := Callee.value (Operand.func 21), args := #[Operand.tmp 45, Operand.tmp 47, Operand.tmp 48, Operand.const (Value.bool false)], argTypes := #[38, 3, 3, 4] }, type := 3, pos := "outright.go:36", after := #[{ on := 0, ground := Ground.data }, { on := 2, ground := Ground.data }, { on := 3, ground := Ground.data }], guard := none }) rfl (fun K hK => ?_) AllReadyH.nil
    go_simp
    refine Calls.mono (HM'.out _ _ _ b false B2 l1) ?_
    rintro e sW1 ⟨rfl, lx, kx⟩
    have sl1_0 := l0.kept kx hne01 l1.new
    have sl1_1 := lx
    have sm1 := m0.right kx
    clear kx lx
    go_wp2_with fail
    refine hK.out _ _ (HK5.out _ sm1) (fun hHeld => ?_)
    clear hK K
    try simp only [Act.put, List.setIfInBounds_toArray, List.set_cons_zero, List.set_cons_succ]
    refine wpAnyH_ready (rs := [9]) (by kernel_rfl) (by simp) ?_
    refine AllReadyH.cons (o := { dst := some 54, op := Op.call { callee := Callee.value (Operand.func 21), args := #[Operand.tmp 50, Operand.tmp 52, Operand.tmp 53, Operand.const (Value.bool true)], argTypes := #[38, 3, 3, 4] }, type := 3, pos := "outright.go:36", after := #[{ on := 5, ground := Ground.data }, { on := 7, ground := Ground.data }, { on := 8, ground := Ground.data }, { on := 4, ground := Ground.chain }], guard := none }) rfl (fun K hK => ?_) AllReadyH.nil
    go_simp
    refine Calls.mono (HM'.out _ _ _ a true B1 sl1_1) ?_
    rintro e sW2 ⟨rfl, lx, kx⟩
    have sl2_0 := sl1_0.kept kx hne01 sl1_1.new
    have sl2_1 := lx
    have sm2 := sm1.right kx
    clear kx lx
    go_wp2_with fail
    refine hK.out _ _ (HK5.out _ sm2) (fun hHeld => ?_)
    clear hK K
    try simp only [Act.put, List.setIfInBounds_toArray, List.set_cons_zero, List.set_cons_succ]
    refine wpAnyH_take (i := 10) (oi := { dst := some 11, op := Op.assign (Operand.tmp 49), type := 3, pos := "outright.go:36", after := #[{ on := 4, ground := Ground.data }, { on := 9, ground := Ground.chain }, { on := 0, ground := Ground.phase }, { on := 1, ground := Ground.phase }, { on := 2, ground := Ground.phase }, { on := 3, ground := Ground.phase }, { on := 4, ground := Ground.phase }, { on := 5, ground := Ground.textOnly Departure.lateStores }, { on := 6, ground := Ground.textOnly Departure.lateStores }, { on := 7, ground := Ground.textOnly Departure.lateStores }, { on := 8, ground := Ground.textOnly Departure.lateStores }, { on := 9, ground := Ground.textOnly Departure.lateStoresUnsure }], guard := none }) (v := ?_) rfl (by kernel_rfl) (by kernel_rfl) (by kernel_rfl) (fun _ _ _ h => h) (Or.inl ⟨by rfl, ?_⟩) hHeld ?_
    rotate_left
    · (intro w hSw; (try dsimp only at hSw); go_simp; all_goals (try with_reducible rfl))
    try simp only [Act.put, List.setIfInBounds_toArray, List.set_cons_zero, List.set_cons_succ]
    refine wpAnyH_take (i := 11) (oi := { dst := some 12, op := Op.assign (Operand.tmp 54), type := 3, pos := "outright.go:36", after := #[{ on := 9, ground := Ground.data }, { on := 10, ground := Ground.chain }, { on := 0, ground := Ground.phase }, { on := 1, ground := Ground.phase }, { on := 2, ground := Ground.phase }, { on := 3, ground := Ground.phase }, { on := 4, ground := Ground.phase }, { on := 5, ground := Ground.phase }, { on := 6, ground := Ground.phase }, { on := 7, ground := Ground.phase }, { on := 8, ground := Ground.phase }, { on := 9, ground := Ground.phase }, { on := 10, ground := Ground.phase }], guard := none }) (v := ?_) rfl (by kernel_rfl) (by kernel_rfl) (by kernel_rfl) (fun _ _ _ h => h) (Or.inl ⟨by rfl, ?_⟩) hHeld ?_
    rotate_left
    · (intro w hSw; (try dsimp only at hSw); go_simp; all_goals (try with_reducible rfl))
    try simp only [Act.put, List.setIfInBounds_toArray, List.set_cons_zero, List.set_cons_succ]
    refine wpAnyH_done (by kernel_rfl) ?_ _
    rw [← E1.out, ← E2.out]
    have et1 : (t1 == t1) = true := beq_self_eq_true t1
    have et2 : (t2 == t2) = true := beq_self_eq_true t2
    have ep1 : (p1 == p1) = true := beq_self_eq_true p1
    have ep2 : (p2 == p2) = true := beq_self_eq_true p2
    have l0 := sl2_0.drew
    have l1 := sl2_1.drew
    have m0 := sm2.below (Below.refl _ sW2).drew
    go_wp2_with fail
    refine wp_region_held_drew (S := fun W' => W'.cell? ⟨w.heap.size, 0, none⟩ = some (.int .i64 a) ∧ W'.cell? ⟨w.heap.size, 1, none⟩ = some (.int .i64 b) ∧ W'.cell? ⟨w.heap.size + 1, 0, none⟩ = some (.int .i64 c) ∧ W'.cell? ⟨w.heap.size + 1, 1, none⟩ = some (.int .i64 d) ∧ W'.cell? ⟨g9, 0, none⟩ = some (.int .i64 p1) ∧ W'.cell? ⟨g9, 1, none⟩ = some (.int .i64 p2) ∧ W'.cell? ⟨g10, 0, none⟩ = some (.int .i64 t1) ∧ W'.cell? ⟨g10, 1, none⟩ = some (.int .i64 t2)) (by kernel_rfl) (HK5.out _ m0) (fun hHeld => ?_)
    refine wpAnyH_ready (rs := [0]) (by kernel_rfl) (by simp) ?_
    refine AllReadyH.cons (o := { dst := some 55, op := Op.call { callee := Callee.value (Operand.func 10), args := #[], argTypes := #[] }, type := 4, pos := "outright.go:38", after := #[], guard := none }) rfl (fun K hK => ?_) AllReadyH.nil
    go_simp
    refine Calls.mono (salive_any _) ?_
    rintro e zW1 ⟨rfl, hb⟩
    have zl1_0 := l0.stays hb
    have zl1_1 := l1.stays hb
    have zm1 := m0.below hb
    clear hb
    go_wp2_with fail
    refine hK.out _ _ (HK5.out _ zm1) (fun hHeld => ?_)
    clear hK K
    try simp only [Act.put, List.setIfInBounds_toArray, List.set_cons_zero, List.set_cons_succ]
    refine wpAnyH_take (i := 1) (oi := { dst := some 56, op := Op.move (Operand.tmp 55), type := 4, pos := "outright.go:38", after := #[{ on := 0, ground := Ground.data }, { on := 0, ground := Ground.chain }], guard := none }) (v := ?_) rfl (by kernel_rfl) (by kernel_rfl) (by kernel_rfl) (fun _ _ _ h => h) (Or.inl ⟨by rfl, ?_⟩) hHeld ?_
    rotate_left
    · (intro w hSw; (try dsimp only at hSw); go_simp; all_goals (try with_reducible rfl))
    try simp only [Act.put, List.setIfInBounds_toArray, List.set_cons_zero, List.set_cons_succ]
    refine wpAnyH_take (i := 2) (oi := { dst := some 57, op := Op.fieldAddr 23 (Operand.tmp 9) 0, type := 0, pos := "outright.go:38", after := #[{ on := 1, ground := Ground.guard }], guard := some (1, true) }) (v := ?_) rfl (by kernel_rfl) (by kernel_rfl) (by kernel_rfl) (fun _ _ _ h => h) (Or.inl ⟨by rfl, ?_⟩) hHeld ?_
    rotate_left
    · (intro w hSw; (try dsimp only at hSw); go_simp; all_goals (try with_reducible rfl))
    try simp only [Act.put, List.setIfInBounds_toArray, List.set_cons_zero, List.set_cons_succ]
    refine wpAnyH_take (i := 3) (oi := { dst := some 58, op := Op.load 3 (Operand.tmp 57), type := 3, pos := "outright.go:38", after := #[{ on := 2, ground := Ground.data }, { on := 1, ground := Ground.guard }], guard := some (1, true) }) (v := ?_) rfl (by kernel_rfl) (by kernel_rfl) (by kernel_rfl) (fun _ _ _ h => h) (Or.inl ⟨by rfl, ?_⟩) hHeld ?_
    rotate_left
    · (intro w hSw; (try dsimp only at hSw); go_simp; all_goals (try with_reducible rfl))
    try simp only [Act.put, List.setIfInBounds_toArray, List.set_cons_zero, List.set_cons_succ]
    refine wpAnyH_take (i := 4) (oi := { dst := some 59, op := Op.move (Operand.tmp 8), type := 38, pos := "outright.go:38", after := #[{ on := 1, ground := Ground.guard }], guard := some (1, true) }) (v := ?_) rfl (by kernel_rfl) (by kernel_rfl) (by kernel_rfl) (fun _ _ _ h => h) (Or.inl ⟨by rfl, ?_⟩) hHeld ?_
    rotate_left
    · (intro w hSw; (try dsimp only at hSw); go_simp; all_goals (try with_reducible rfl))
    try simp only [Act.put, List.setIfInBounds_toArray, List.set_cons_zero, List.set_cons_succ]
    refine wpAnyH_take (i := 5) (oi := { dst := some 60, op := Op.fieldAddr 23 (Operand.tmp 3) 0, type := 0, pos := "outright.go:38", after := #[{ on := 1, ground := Ground.guard }], guard := some (1, true) }) (v := ?_) rfl (by kernel_rfl) (by kernel_rfl) (by kernel_rfl) (fun _ _ _ h => h) (Or.inl ⟨by rfl, ?_⟩) hHeld ?_
    rotate_left
    · (intro w hSw; (try dsimp only at hSw); go_simp; all_goals (try with_reducible rfl))
    try simp only [Act.put, List.setIfInBounds_toArray, List.set_cons_zero, List.set_cons_succ]
    refine wpAnyH_take (i := 6) (oi := { dst := some 61, op := Op.load 3 (Operand.tmp 60), type := 3, pos := "outright.go:38", after := #[{ on := 5, ground := Ground.data }, { on := 1, ground := Ground.guard }], guard := some (1, true) }) (v := ?_) rfl (by kernel_rfl) (by kernel_rfl) (by kernel_rfl) (fun _ _ _ h => h) (Or.inl ⟨by rfl, ?_⟩) hHeld ?_
    rotate_left
    · (intro w hSw; (try dsimp only at hSw); go_simp; all_goals (try with_reducible rfl))
    try simp only [Act.put, List.setIfInBounds_toArray, List.set_cons_zero, List.set_cons_succ]
    refine wpAnyH_take (i := 7) (oi := { dst := some 62, op := Op.fieldAddr 23 (Operand.tmp 4) 0, type := 0, pos := "outright.go:38", after := #[{ on := 1, ground := Ground.guard }], guard := some (1, true) }) (v := ?_) rfl (by kernel_rfl) (by kernel_rfl) (by kernel_rfl) (fun _ _ _ h => h) (Or.inl ⟨by rfl, ?_⟩) hHeld ?_
    rotate_left
    · (intro w hSw; (try dsimp only at hSw); go_simp; all_goals (try with_reducible rfl))
    try simp only [Act.put, List.setIfInBounds_toArray, List.set_cons_zero, List.set_cons_succ]
    refine wpAnyH_take (i := 8) (oi := { dst := some 63, op := Op.load 3 (Operand.tmp 62), type := 3, pos := "outright.go:38", after := #[{ on := 7, ground := Ground.data }, { on := 1, ground := Ground.guard }], guard := some (1, true) }) (v := ?_) rfl (by kernel_rfl) (by kernel_rfl) (by kernel_rfl) (fun _ _ _ h => h) (Or.inl ⟨by rfl, ?_⟩) hHeld ?_
    rotate_left
    · (intro w hSw; (try dsimp only at hSw); go_simp; all_goals (try with_reducible rfl))
    try simp only [Act.put, List.setIfInBounds_toArray, List.set_cons_zero, List.set_cons_succ]
    refine wpAnyH_ready (rs := [9]) (by kernel_rfl) (by simp) ?_
    refine AllReadyH.cons (o := { dst := some 64, op := Op.buildSlice 51 2 #[(0, Operand.tmp 61), (1, Operand.tmp 63)], type := 51, pos := "outright.go:38", after := #[{ on := 6, ground := Ground.data }, { on := 8, ground := Ground.data }, { on := 1, ground := Ground.guard }], guard := some (1, true) }) rfl (fun K hK => ?_) AllReadyH.nil
    go_simp
    obtain ⟨zW2, hX⟩ : ∃ Z, zW1.alloc (.cells #[.int .i64 a, .int .i64 c] 3) = Z := ⟨_, rfl⟩
    rw [hX]
    have hb : Below zW1.heap.size zW1 zW2 := by rw [← hX]; exact (Below.refl _ zW1).alloc (Nat.le_refl _) _
    have zl2_0 := zl1_0.stays hb
    have zl2_1 := zl1_1.stays hb
    have zm2 := zm1.below hb
    have zr2_9 := row_ints zW1 a c _ rfl
    rw [hX] at zr2_9
    have zn2_9_0 : zW1.heap.size ≠ v := by have := zl1_0.old; omega
    have zn2_9_1 : zW1.heap.size ≠ u := by have := zl1_1.old; omega
    clear hX hb
    refine hK.out _ _ (HK5.out _ zm2) (fun hHeld => ?_)
    clear hK K
    try simp only [Act.put, List.setIfInBounds_toArray, List.set_cons_zero, List.set_cons_succ]
    refine wpAnyH_ready (rs := [10]) (by kernel_rfl) (by simp) ?_
    refine AllReadyH.cons (o := { dst := some 65, op := Op.call { callee := Callee.value (Operand.func 19), args := #[Operand.tmp 59, Operand.tmp 64], argTypes := #[38, 51] }, type := 3, pos := "outright.go:38", after := #[{ on := 4, ground := Ground.data }, { on := 9, ground := Ground.data }, { on := 1, ground := Ground.chain }, { on := 1, ground := Ground.guard }], guard := some (1, true) }) rfl (fun K hK => ?_) AllReadyH.nil
    go_simp
    refine Calls.mono (HA1'.out _ _ _ _ zl2_1 zr2_9) ?_
    rintro e zW3 ⟨rfl, lx, kx⟩
    have zl3_0 := zl2_0.kept kx hne01 zl2_1.new
    have zl3_1 := lx
    have zm3 := zm2.right kx
    have zr3_9 := zr2_9.kept kx (blk_ne zn2_9_1)
    clear kx lx
    go_wp2_with fail
    refine hK.out _ _ (HK5.out _ zm3) (fun hHeld => ?_)
    clear hK K
    try simp only [Act.put, List.setIfInBounds_toArray, List.set_cons_zero, List.set_cons_succ]
    refine wpAnyH_take (i := 11) (oi := { dst := some 66, op := Op.binOp BinOp.eql 3 (Operand.tmp 58) (Operand.tmp 65) 3, type := 4, pos := "outright.go:38", after := #[{ on := 3, ground := Ground.data }, { on := 10, ground := Ground.data }, { on := 1, ground := Ground.guard }], guard := some (1, true) }) (v := ?_) rfl (by kernel_rfl) (by kernel_rfl) (by kernel_rfl) (fun _ _ _ h => h) (Or.inl ⟨by rfl, ?_⟩) hHeld ?_
    rotate_left
    · (intro w hSw; (try dsimp only at hSw); go_simp; all_goals (try with_reducible rfl))
    try simp only [Act.put, List.setIfInBounds_toArray, List.set_cons_zero, List.set_cons_succ]
    refine wpAnyH_take (i := 12) (oi := { dst := some 67, op := Op.pick (Operand.tmp 56) (Operand.tmp 66) (Operand.const (Value.bool false)), type := 4, pos := "outright.go:38", after := #[{ on := 1, ground := Ground.data }, { on := 11, ground := Ground.data }], guard := none }) (v := ?_) rfl (by kernel_rfl) (by kernel_rfl) (by kernel_rfl) (fun _ _ _ h => h) (Or.inl ⟨by rfl, ?_⟩) hHeld ?_
    rotate_left
    · (intro w hSw; (try dsimp only at hSw); go_simp; all_goals (try with_reducible rfl))
    try simp only [Act.put, List.setIfInBounds_toArray, List.set_cons_zero, List.set_cons_succ]
    refine wpAnyH_take (i := 13) (oi := { dst := some 68, op := Op.move (Operand.tmp 67), type := 4, pos := "outright.go:38", after := #[{ on := 12, ground := Ground.data }, { on := 10, ground := Ground.chain }], guard := none }) (v := ?_) rfl (by kernel_rfl) (by kernel_rfl) (by kernel_rfl) (fun _ _ _ h => h) (Or.inl ⟨by rfl, ?_⟩) hHeld ?_
    rotate_left
    · (intro w hSw; (try dsimp only at hSw); go_simp; all_goals (try with_reducible rfl))
    try simp only [Act.put, List.setIfInBounds_toArray, List.set_cons_zero, List.set_cons_succ]
    refine wpAnyH_take (i := 14) (oi := { dst := some 69, op := Op.fieldAddr 23 (Operand.tmp 9) 1, type := 0, pos := "outright.go:38", after := #[{ on := 13, ground := Ground.guard }], guard := some (13, true) }) (v := ?_) rfl (by kernel_rfl) (by kernel_rfl) (by kernel_rfl) (fun _ _ _ h => h) (Or.inl ⟨by rfl, ?_⟩) hHeld ?_
    rotate_left
    · (intro w hSw; (try dsimp only at hSw); go_simp; all_goals (try with_reducible rfl))
    try simp only [Act.put, List.setIfInBounds_toArray, List.set_cons_zero, List.set_cons_succ]
    refine wpAnyH_take (i := 15) (oi := { dst := some 70, op := Op.load 3 (Operand.tmp 69), type := 3, pos := "outright.go:38", after := #[{ on := 14, ground := Ground.data }, { on := 13, ground := Ground.guard }], guard := some (13, true) }) (v := ?_) rfl (by kernel_rfl) (by kernel_rfl) (by kernel_rfl) (fun _ _ _ h => h) (Or.inl ⟨by rfl, ?_⟩) hHeld ?_
    rotate_left
    · (intro w hSw; (try dsimp only at hSw); go_simp; all_goals (try with_reducible rfl))
    try simp only [Act.put, List.setIfInBounds_toArray, List.set_cons_zero, List.set_cons_succ]
    refine wpAnyH_take (i := 16) (oi := { dst := some 71, op := Op.move (Operand.tmp 8), type := 38, pos := "outright.go:38", after := #[{ on := 13, ground := Ground.guard }], guard := some (13, true) }) (v := ?_) rfl (by kernel_rfl) (by kernel_rfl) (by kernel_rfl) (fun _ _ _ h => h) (Or.inl ⟨by rfl, ?_⟩) hHeld ?_
    rotate_left
    · (intro w hSw; (try dsimp only at hSw); go_simp; all_goals (try with_reducible rfl))
    try simp only [Act.put, List.setIfInBounds_toArray, List.set_cons_zero, List.set_cons_succ]
    refine wpAnyH_take (i := 17) (oi := { dst := some 72, op := Op.fieldAddr 23 (Operand.tmp 3) 1, type := 0, pos := "outright.go:38", after := #[{ on := 13, ground := Ground.guard }], guard := some (13, true) }) (v := ?_) rfl (by kernel_rfl) (by kernel_rfl) (by kernel_rfl) (fun _ _ _ h => h) (Or.inl ⟨by rfl, ?_⟩) hHeld ?_
    rotate_left
    · (intro w hSw; (try dsimp only at hSw); go_simp; all_goals (try with_reducible rfl))
    try simp only [Act.put, List.setIfInBounds_toArray, List.set_cons_zero, List.set_cons_succ]
    refine wpAnyH_take (i := 18) (oi := { dst := some 73, op := Op.load 3 (Operand.tmp 72), type := 3, pos := "outright.go:38", after := #[{ on := 17, ground := Ground.data }, { on := 13, ground := Ground.guard }], guard := some (13, true) }) (v := ?_) rfl (by kernel_rfl) (by kernel_rfl) (by kernel_rfl) (fun _ _ _ h => h) (Or.inl ⟨by rfl, ?_⟩) hHeld ?_
    rotate_left
    · (intro w hSw; (try dsimp only at hSw); go_simp; all_goals (try with_reducible rfl))
    try simp only [Act.put, List.setIfInBounds_toArray, List.set_cons_zero, List.set_cons_succ]
    refine wpAnyH_take (i := 19) (oi := { dst := some 74, op := Op.fieldAddr 23 (Operand.tmp 4) 1, type := 0, pos := "outright.go:38", after := #[{ on := 13, ground := Ground.guard }], guard := some (13, true) }) (v := ?_) rfl (by kernel_rfl) (by kernel_rfl) (by kernel_rfl) (fun _ _ _ h => h) (Or.inl ⟨by rfl, ?_⟩) hHeld ?_
    rotate_left
    · (intro w hSw; (try dsimp only at hSw); go_simp; all_goals (try with_reducible rfl))
    try simp only [Act.put, List.setIfInBounds_toArray, List.set_cons_zero, List.set_cons_succ]
    refine wpAnyH_take (i := 20) (oi := { dst := some 75, op := Op.load 3 (Operand.tmp 74), type := 3, pos := "outright.go:38", after := #[{ on := 19, ground := Ground.data }, { on := 13, ground := Ground.guard }], guard := some (13, true) }) (v := ?_) rfl (by kernel_rfl) (by kernel_rfl) (by kernel_rfl) (fun _ _ _ h => h) (Or.inl ⟨by rfl, ?_⟩) hHeld ?_
    rotate_left
    · (intro w hSw; (try dsimp only at hSw); go_simp; all_goals (try with_reducible rfl))
    try simp only [Act.put, List.setIfInBounds_toArray, List.set_cons_zero, List.set_cons_succ]
    refine wpAnyH_ready (rs := [21]) (by kernel_rfl) (by simp) ?_
    refine AllReadyH.cons (o := { dst := some 76, op := Op.buildSlice 51 2 #[(0, Operand.tmp 73), (1, Operand.tmp 75)], type := 51, pos := "outright.go:38", after := #[{ on := 18, ground := Ground.data }, { on := 20, ground := Ground.data }, { on := 13, ground := Ground.guard }], guard := some (13, true) }) rfl (fun K hK => ?_) AllReadyH.nil
    go_simp
    obtain ⟨zW4, hX⟩ : ∃ Z, zW3.alloc (.cells #[.int .i64 b, .int .i64 d] 3) = Z := ⟨_, rfl⟩
    rw [hX]
    have hb : Below zW3.heap.size zW3 zW4 := by rw [← hX]; exact (Below.refl _ zW3).alloc (Nat.le_refl _) _
    have zl4_0 := zl3_0.stays hb
    have zl4_1 := zl3_1.stays hb
    have zm4 := zm3.below hb
    have zr4_9 := zr3_9.stays hb (Nat.le_refl _)
    have zr4_21 := row_ints zW3 b d _ rfl
    rw [hX] at zr4_21
    have zn4_21_0 : zW3.heap.size ≠ v := by have := zl3_0.old; omega
    have zn4_21_1 : zW3.heap.size ≠ u := by have := zl3_1.old; omega
    clear hX hb
    refine hK.out _ _ (HK5.out _ zm4) (fun hHeld => ?_)
    clear hK K
    try simp only [Act.put, List.setIfInBounds_toArray, List.set_cons_zero, List.set_cons_succ]
    refine wpAnyH_ready (rs := [22]) (by kernel_rfl) (by simp) ?_
    refine AllReadyH.cons (o := { dst := some 77, op := Op.call { callee := Callee.value (Operand.func 19), args := #[Operand.tmp 71, Operand.tmp 76], argTypes := #[38, 51] }, type := 3, pos := "outright.go:38", after := #[{ on := 16, ground := Ground.data }, { on := 21, ground := Ground.data }, { on := 13, ground := Ground.chain }, { on := 13, ground := Ground.guard }], guard := some (13, true) }) rfl (fun K hK => ?_) AllReadyH.nil
    go_simp
    refine Calls.mono (HA2'.out _ _ _ _ zl4_1 zr4_21) ?_
    rintro e zW5 ⟨rfl, lx, kx⟩
    have zl5_0 := zl4_0.kept kx hne01 zl4_1.new
    have zl5_1 := lx
    have zm5 := zm4.right kx
    have zr5_9 := zr4_9.kept kx (blk_ne zn2_9_1)
    have zr5_21 := zr4_21.kept kx (blk_ne zn4_21_1)
    clear kx lx
    go_wp2_with fail
    refine hK.out _ _ (HK5.out _ zm5) (fun hHeld => ?_)
    clear hK K
    try simp only [Act.put, List.setIfInBounds_toArray, List.set_cons_zero, List.set_cons_succ]
    refine wpAnyH_take (i := 23) (oi := { dst := some 78, op := Op.binOp BinOp.eql 3 (Operand.tmp 70) (Operand.tmp 77) 3, type := 4, pos := "outright.go:38", after := #[{ on := 15, ground := Ground.data }, { on := 22, ground := Ground.data }, { on := 13, ground := Ground.guard }], guard := some (13, true) }) (v := ?_) rfl (by kernel_rfl) (by kernel_rfl) (by kernel_rfl) (fun _ _ _ h => h) (Or.inl ⟨by rfl, ?_⟩) hHeld ?_
    rotate_left
    · (intro w hSw; (try dsimp only at hSw); go_simp; all_goals (try with_reducible rfl))
    try simp only [Act.put, List.setIfInBounds_toArray, List.set_cons_zero, List.set_cons_succ]
    refine wpAnyH_take (i := 24) (oi := { dst := some 79, op := Op.pick (Operand.tmp 68) (Operand.tmp 78) (Operand.const (Value.bool false)), type := 4, pos := "outright.go:38", after := #[{ on := 13, ground := Ground.data }, { on := 23, ground := Ground.data }], guard := none }) (v := ?_) rfl (by kernel_rfl) (by kernel_rfl) (by kernel_rfl) (fun _ _ _ h => h) (Or.inl ⟨by rfl, ?_⟩) hHeld ?_
    rotate_left
    · (intro w hSw; (try dsimp only at hSw); go_simp; all_goals (try with_reducible rfl))
    try simp only [Act.put, List.setIfInBounds_toArray, List.set_cons_zero, List.set_cons_succ]
    refine wpAnyH_take (i := 25) (oi := { dst := some 80, op := Op.move (Operand.tmp 79), type := 4, pos := "outright.go:38", after := #[{ on := 24, ground := Ground.data }, { on := 22, ground := Ground.chain }], guard := none }) (v := ?_) rfl (by kernel_rfl) (by kernel_rfl) (by kernel_rfl) (fun _ _ _ h => h) (Or.inl ⟨by rfl, ?_⟩) hHeld ?_
    rotate_left
    · (intro w hSw; (try dsimp only at hSw); go_simp; all_goals (try with_reducible rfl))
    try simp only [Act.put, List.setIfInBounds_toArray, List.set_cons_zero, List.set_cons_succ]
    refine wpAnyH_take (i := 26) (oi := { dst := some 81, op := Op.fieldAddr 23 (Operand.tmp 10) 0, type := 0, pos := "outright.go:38", after := #[{ on := 25, ground := Ground.guard }], guard := some (25, true) }) (v := ?_) rfl (by kernel_rfl) (by kernel_rfl) (by kernel_rfl) (fun _ _ _ h => h) (Or.inl ⟨by rfl, ?_⟩) hHeld ?_
    rotate_left
    · (intro w hSw; (try dsimp only at hSw); go_simp; all_goals (try with_reducible rfl))
    try simp only [Act.put, List.setIfInBounds_toArray, List.set_cons_zero, List.set_cons_succ]
    refine wpAnyH_take (i := 27) (oi := { dst := some 82, op := Op.load 3 (Operand.tmp 81), type := 3, pos := "outright.go:38", after := #[{ on := 26, ground := Ground.data }, { on := 25, ground := Ground.guard }], guard := some (25, true) }) (v := ?_) rfl (by kernel_rfl) (by kernel_rfl) (by kernel_rfl) (fun _ _ _ h => h) (Or.inl ⟨by rfl, ?_⟩) hHeld ?_
    rotate_left
    · (intro w hSw; (try dsimp only at hSw); go_simp; all_goals (try with_reducible rfl))
    try simp only [Act.put, List.setIfInBounds_toArray, List.set_cons_zero, List.set_cons_succ]
    refine wpAnyH_take (i := 28) (oi := { dst := some 83, op := Op.move (Operand.tmp 11), type := 3, pos := "outright.go:38", after := #[{ on := 25, ground := Ground.guard }], guard := some (25, true) }) (v := ?_) rfl (by kernel_rfl) (by kernel_rfl) (by kernel_rfl) (fun _ _ _ h => h) (Or.inl ⟨by rfl, ?_⟩) hHeld ?_
    rotate_left
    · (intro w hSw; (try dsimp only at hSw); go_simp; all_goals (try with_reducible rfl))
    try simp only [Act.put, List.setIfInBounds_toArray, List.set_cons_zero, List.set_cons_succ]
    refine wpAnyH_take (i := 29) (oi := { dst := some 84, op := Op.binOp BinOp.eql 3 (Operand.tmp 82) (Operand.tmp 83) 3, type := 4, pos := "outright.go:38", after := #[{ on := 27, ground := Ground.data }, { on := 28, ground := Ground.data }, { on := 25, ground := Ground.guard }], guard := some (25, true) }) (v := ?_) rfl (by kernel_rfl) (by kernel_rfl) (by kernel_rfl) (fun _ _ _ h => h) (Or.inl ⟨by rfl, ?_⟩) hHeld ?_
    rotate_left
    · (intro w hSw; (try dsimp only at hSw); go_simp; all_goals (try with_reducible rfl))
    try simp only [Act.put, List.setIfInBounds_toArray, List.set_cons_zero, List.set_cons_succ]
    refine wpAnyH_take (i := 30) (oi := { dst := some 85, op := Op.pick (Operand.tmp 80) (Operand.tmp 84) (Operand.const (Value.bool false)), type := 4, pos := "outright.go:38", after := #[{ on := 25, ground := Ground.data }, { on := 29, ground := Ground.data }], guard := none }) (v := ?_) rfl (by kernel_rfl) (by kernel_rfl) (by kernel_rfl) (fun _ _ _ h => h) (Or.inl ⟨by rfl, ?_⟩) hHeld ?_
    rotate_left
    · (intro w hSw; (try dsimp only at hSw); go_simp; all_goals (try with_reducible rfl))
    try simp only [Act.put, List.setIfInBounds_toArray, List.set_cons_zero, List.set_cons_succ]
    refine wpAnyH_take (i := 31) (oi := { dst := some 86, op := Op.move (Operand.tmp 85), type := 4, pos := "outright.go:38", after := #[{ on := 30, ground := Ground.data }, { on := 25, ground := Ground.chain }], guard := none }) (v := ?_) rfl (by kernel_rfl) (by kernel_rfl) (by kernel_rfl) (fun _ _ _ h => h) (Or.inl ⟨by rfl, ?_⟩) hHeld ?_
    rotate_left
    · (intro w hSw; (try dsimp only at hSw); go_simp; all_goals (try with_reducible rfl))
    try simp only [Act.put, List.setIfInBounds_toArray, List.set_cons_zero, List.set_cons_succ]
    refine wpAnyH_take (i := 32) (oi := { dst := some 87, op := Op.fieldAddr 23 (Operand.tmp 10) 1, type := 0, pos := "outright.go:38", after := #[{ on := 31, ground := Ground.guard }], guard := some (31, true) }) (v := ?_) rfl (by kernel_rfl) (by kernel_rfl) (by kernel_rfl) (fun _ _ _ h => h) (Or.inl ⟨by rfl, ?_⟩) hHeld ?_
    rotate_left
    · (intro w hSw; (try dsimp only at hSw); go_simp; all_goals (try with_reducible rfl))
    try simp only [Act.put, List.setIfInBounds_toArray, List.set_cons_zero, List.set_cons_succ]
    refine wpAnyH_take (i := 33) (oi := { dst := some 88, op := Op.load 3 (Operand.tmp 87), type := 3, pos := "outright.go:38", after := #[{ on := 32, ground := Ground.data }, { on := 31, ground := Ground.guard }], guard := some (31, true) }) (v := ?_) rfl (by kernel_rfl) (by kernel_rfl) (by kernel_rfl) (fun _ _ _ h => h) (Or.inl ⟨by rfl, ?_⟩) hHeld ?_
    rotate_left
    · (intro w hSw; (try dsimp only at hSw); go_simp; all_goals (try with_reducible rfl))
    try simp only [Act.put, List.setIfInBounds_toArray, List.set_cons_zero, List.set_cons_succ]
    refine wpAnyH_take (i := 34) (oi := { dst := some 89, op := Op.move (Operand.tmp 12), type := 3, pos := "outright.go:38", after := #[{ on := 31, ground := Ground.guard }], guard := some (31, true) }) (v := ?_) rfl (by kernel_rfl) (by kernel_rfl) (by kernel_rfl) (fun _ _ _ h => h) (Or.inl ⟨by rfl, ?_⟩) hHeld ?_
    rotate_left
    · (intro w hSw; (try dsimp only at hSw); go_simp; all_goals (try with_reducible rfl))
    try simp only [Act.put, List.setIfInBounds_toArray, List.set_cons_zero, List.set_cons_succ]
    refine wpAnyH_take (i := 35) (oi := { dst := some 90, op := Op.binOp BinOp.eql 3 (Operand.tmp 88) (Operand.tmp 89) 3, type := 4, pos := "outright.go:38", after := #[{ on := 33, ground := Ground.data }, { on := 34, ground := Ground.data }, { on := 31, ground := Ground.guard }], guard := some (31, true) }) (v := ?_) rfl (by kernel_rfl) (by kernel_rfl) (by kernel_rfl) (fun _ _ _ h => h) (Or.inl ⟨by rfl, ?_⟩) hHeld ?_
    rotate_left
    · (intro w hSw; (try dsimp only at hSw); go_simp; all_goals (try with_reducible rfl))
    try simp only [Act.put, List.setIfInBounds_toArray, List.set_cons_zero, List.set_cons_succ]
    refine wpAnyH_take (i := 36) (oi := { dst := some 91, op := Op.pick (Operand.tmp 86) (Operand.tmp 90) (Operand.const (Value.bool false)), type := 4, pos := "outright.go:38", after := #[{ on := 31, ground := Ground.data }, { on := 35, ground := Ground.data }], guard := none }) (v := ?_) rfl (by kernel_rfl) (by kernel_rfl) (by kernel_rfl) (fun _ _ _ h => h) (Or.inl ⟨by rfl, ?_⟩) hHeld ?_
    rotate_left
    · (intro w hSw; (try dsimp only at hSw); go_simp; all_goals (try with_reducible rfl))
    try simp only [Act.put, List.setIfInBounds_toArray, List.set_cons_zero, List.set_cons_succ]
    refine wpAnyH_take (i := 37) (oi := { dst := some 6, op := Op.assign (Operand.tmp 91), type := 4, pos := "outright.go:38", after := #[{ on := 36, ground := Ground.data }, { on := 31, ground := Ground.chain }, { on := 0, ground := Ground.phase }, { on := 1, ground := Ground.phase }, { on := 2, ground := Ground.phase }, { on := 3, ground := Ground.phase }, { on := 4, ground := Ground.phase }, { on := 5, ground := Ground.phase }, { on := 6, ground := Ground.phase }, { on := 7, ground := Ground.phase }, { on := 8, ground := Ground.phase }, { on := 9, ground := Ground.phase }, { on := 10, ground := Ground.phase }, { on := 11, ground := Ground.phase }, { on := 12, ground := Ground.phase }, { on := 13, ground := Ground.phase }, { on := 14, ground := Ground.phase }, { on := 15, ground := Ground.phase }, { on := 16, ground := Ground.phase }, { on := 17, ground := Ground.phase }, { on := 18, ground := Ground.phase }, { on := 19, ground := Ground.phase }, { on := 20, ground := Ground.phase }, { on := 21, ground := Ground.phase }, { on := 22, ground := Ground.phase }, { on := 23, ground := Ground.phase }, { on := 24, ground := Ground.phase }, { on := 25, ground := Ground.phase }, { on := 26, ground := Ground.phase }, { on := 27, ground := Ground.phase }, { on := 28, ground := Ground.phase }, { on := 29, ground := Ground.phase }, { on := 30, ground := Ground.phase }, { on := 31, ground := Ground.phase }, { on := 32, ground := Ground.phase }, { on := 33, ground := Ground.phase }, { on := 34, ground := Ground.phase }, { on := 35, ground := Ground.phase }, { on := 36, ground := Ground.phase }], guard := none }) (v := ?_) rfl (by kernel_rfl) (by kernel_rfl) (by kernel_rfl) (fun _ _ _ h => h) (Or.inl ⟨by rfl, ?_⟩) hHeld ?_
    rotate_left
    · (intro w hSw; (try dsimp only at hSw); go_simp; all_goals (try with_reducible rfl))
    try simp only [Act.put, List.setIfInBounds_toArray, List.set_cons_zero, List.set_cons_succ]
    refine wpAnyH_done (by kernel_rfl) ?_ _
    go_wp2
    go_ret
    exact ⟨rfl, zl5_0.below⟩
  · exact ⟨false, false, false, false, false, false, false, 0, 0, 0, false, by decide, rfl, l0, l1, m0, fun _ h => by (cases h), fun h => by (cases h), fun h => by (cases h), fun h => by (cases h), fun _ => rfl, fun _ => rfl⟩

theorem tight_law (a b c d k : Int) (w : World) (ha : B64 a) (hb : B64 b) (hc : B64 c) (hd : B64 d) (hk : B64 k) : Calls Try.prog 6 #[(.agg #[.int .i64 a, .int .i64 b]), (.agg #[.int .i64 c, .int .i64 d]), .int .i64 k] w fun e w' => e = .returned (.bool true) ∧ Below w.heap.size w w' := by
  by_cases h1 : b < a
  · exact tight_nx a b c d k w h1
  · by_cases h2 : d < c
    · exact tight_ny a b c d k w (by omega) h2
    · by_cases h3 : k < 0
      · exact tight_neg a b c d k w ha hb hc hd hk (by omega) (by omega) h3
      · exact tight_pos a b c d k w ha hb hc hd hk (by omega) (by omega) (by omega)
end Go.Proofs.Ythnhlgiibiephab
