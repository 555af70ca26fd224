/- The contract of kinds' Range. Conditions: as Check's; the numbers' own ranges. -/
import Derived.Test.YtjnnjjajlafchaaKnL
namespace Go.Proofs.Ytjnnjjajlafchaa
open Go.RowKit
set_option linter.unusedVariables false
set_option maxRecDepth 100000

def rangeR (l : List Sig) (n : List Nd) : Int × Int × Int := if checkE l n ≠ 0 then (0, 0, checkE l n) else if (n.getD 0 nd0).op ≠ 2 then (0, 0, 1) else sumR l (n.getD 0 nd0).terms
theorem check_ok {l : List Sig} {n : List Nd} (h : checkE l n = 0) : validB n = true ∧ partsE l n = 0 := by
  unfold checkE at h
  split at h
  · omega
  · rename_i hv; exact ⟨by simpa using hv, h⟩
theorem atom_ok {l : List Sig} {ts : List Tm} (h : atomE l ts = 0) : ts.all (fun t => hasB l t.name) = true := by
  unfold atomE at h
  split at h
  · omega
  · rename_i hv; simpa using hv
theorem head_ok {l : List Sig} {n : List Nd} (h : checkE l n = 0) (h2 : (n.getD 0 nd0).op = 2) : (n.getD 0 nd0).terms.all (fun t => hasB l t.name) = true := by
  obtain ⟨hv, hp⟩ := check_ok h
  cases n with
  | nil => exact absurd (valid_head hv) (by simp)
  | cons x r =>
    simp only [List.getD_cons_zero] at h2 ⊢
    simp only [partsE] at hp
    split at hp
    · rename_i hx
      unfold partE at hx
      rw [if_pos h2] at hx
      exact atom_ok hx
    · rename_i hx; exact absurd hp hx
set_option maxHeartbeats 8000000 in
theorem range_any (q p : Nat) (l : List Sig) (a : Option Addr) (cap : Nat) (n : List Nd) (W : World) (hp : ShAt W q p l) (hl : l.length ≤ 1000000) (h : NodeRow W a n) (hcap : n.length ≤ cap) (hf : NodesFit n) (hm : n.length ≤ 9223372036854775807) (hs : SigsFit l) (ht : ∀ x ∈ n, TimesFit x.terms) :
    Calls Try.prog 17 #[.pointer (some ⟨q, 0, none⟩), .slice a n.length cap] W fun e W' => e = .returned (.tuple #[.agg #[.int .i64 (rangeR l n).1, .int .i64 (rangeR l n).2.1], .int .i64 (rangeR l n).2.2]) ∧ Below W.heap.size W W' := by
  have HB0 : Hid (Below W.heap.size W (W.alloc (.cells #[.int .i64 0, .int .i64 0] 25))) := (Below.refl _ _).alloc (Nat.le_refl _) _
  have HC := check_any q p l a cap n _ (hp.below HB0.out) hl (h.below HB0.out) hcap hf hm
  have HS : Hid (∀ X, Below W.heap.size W X → ShAt X q p l) := fun X hX => hp.below hX
  have HR : Hid (NodeRow W a n) := h
  have HX : Hid (∀ X, Below (W.alloc (.cells #[.int .i64 0, .int .i64 0] 25)).heap.size (W.alloc (.cells #[.int .i64 0, .int .i64 0] 25)) X → X.cell? ⟨W.heap.size, 0, none⟩ = some (.int .i64 0) ∧ X.cell? ⟨W.heap.size, 1, none⟩ = some (.int .i64 0) ∧ (∀ j, X.frozen? ⟨W.heap.size, j, none⟩ = false) ∧ W.heap.size < X.heap.size) := fun X hX =>
    ⟨by rw [hX.cell (p := ⟨W.heap.size, 0, none⟩) (by simp)]; simp [go_sem], by rw [hX.cell (p := ⟨W.heap.size, 1, none⟩) (by simp)]; simp [go_sem], fun j => by rw [hX.frozen (p := ⟨W.heap.size, j, none⟩) (by simp)]; simp [go_sem], by have := hX.size; simp at this; omega⟩
  have HE : Hid (rangeR l n = if checkE l n ≠ 0 then (0, 0, checkE l n) else if (n.getD 0 nd0).op ≠ 2 then (0, 0, 1) else sumR l (n.getD 0 nd0).terms) := rfl
  have HOK : Hid (checkE l n = 0 → validB n = true ∧ ((n.getD 0 nd0).op = 2 → (n.getD 0 nd0).terms.all (fun t => hasB l t.name) = true)) := fun h0 => ⟨(check_ok h0).1, head_ok h0⟩
  have HT : Hid (∀ x ∈ n, TimesFit x.terms) := ht
  have HSF : Hid (SigsFit l) := hs
  clear hp h hs ht
  by_cases h0 : checkE l n = 0
  · obtain ⟨hv, hh⟩ := HOK.out h0
    have hn := valid_head hv
    have hfx := (fun h2 => fits_atom (valid_fits hv 0 hn) h2)
    have HFA : Hid ((n.getD 0 nd0).op = 2 → 0 < (n.getD 0 nd0).terms.length ∧ (n.getD 0 nd0).terms.length ≤ 16) := hfx
    have HHA : Hid ((n.getD 0 nd0).op = 2 → (n.getD 0 nd0).terms.all (fun t => hasB l t.name) = true) := hh
    have HTM : Hid (TimesFit (n.getD 0 nd0).terms) := HT.out _ (by rw [List.getD_eq_getElem?_getD, List.getElem?_eq_getElem hn]; exact List.getElem_mem hn)
    rw [h0] at HC
    have HE2 : Hid (rangeR l n = if (n.getD 0 nd0).op ≠ 2 then (0, 0, 1) else sumR l (n.getD 0 nd0).terms) := by show _ = _; rw [HE.out, if_neg (by simp [h0])]
    clear h0 hv hh hfx HE HOK HT hf
    go_enter Try.func17, Try.ntmps17
    go_wp2_with fail
    refine Calls.mono HC ?_
    rintro e W1 ⟨rfl, hb1⟩
    have HB1 : Hid (Below W.heap.size W W1) := HB0.out.trans (hb1.mono HB0.out.size)
    obtain ⟨r0, r1, rf, rl⟩ := HX.out _ hb1
    obtain ⟨b, off, rfl, n0, n1, n2, n3, ⟨ta, tc, n4, htr⟩, n5⟩ := (HR.out.below HB1.out) 0 hn
    have hq := (HS.out _ HB1.out).1
    have HNM : Hid (NmAt W1 p l) := (HS.out _ HB1.out).2
    have HTR : Hid (TermRow W1 ta (n.getD 0 nd0).terms) := htr
    have HB1' : Hid (Below (W.alloc (.cells #[.int .i64 0, .int .i64 0] 25)).heap.size (W.alloc (.cells #[.int .i64 0, .int .i64 0] 25)) W1) := hb1
    clear hb1 htr HC
    generalize n.getD 0 nd0 = x at *
    obtain ⟨op, xn, fr, to, ts, num⟩ := x
    simp only [Nat.zero_mul, Nat.add_zero] at n0 n1 n2 n3 n4 n5 HTR HHA HFA HTM HE2
    by_cases h2 : op = 2
    · have HSM : Hid (∀ X, Below W1.heap.size W1 X → Calls Try.prog 29 #[.pointer (some ⟨p, 0, none⟩), .slice ta ts.length tc] X fun e W' => e = .returned (.tuple #[.agg #[.int .i64 (sumR l ts).1, .int .i64 (sumR l ts).2.1], .int .i64 (sumR l ts).2.2]) ∧ Below X.heap.size X W') :=
        fun X hX => sum_any p l ta tc ts X (HNM.out.below hX) hl (HTR.out.below hX) (by have := HFA.out h2; omega) HSF.out HTM.out (HHA.out h2)
      have HE3 : Hid (rangeR l n = sumR l ts) := by show _ = _; rw [HE2.out, if_neg (by simp [h2])]
      subst h2
      clear HE2 HHA HFA
      generalize sumR l ts = sr at *
      obtain ⟨s1, s2, s3⟩ := sr
      simp only at HSM
      have f0 := rf 0
      have f1 := rf 1
      clear rf
      go_wp2_with fail
      refine wp_region_held_drew (S := fun _ => True) (by kernel_rfl) trivial (fun hHeld => ?_)
      refine wpAnyH_take (i := 0) (oi := { dst := some 20, op := Op.move (Operand.tmp 0), type := 35, pos := "check.go:17", after := #[], guard := none }) (v := ?_) rfl (by kernel_rfl) (by kernel_rfl) (by kernel_rfl) (fun _ _ _ h => h) (Or.inl ⟨by rfl, ?_⟩) hHeld ?_
      rotate_left
      · (intro w hSw; (try dsimp only at hSw); go_simp; all_goals (try with_reducible rfl))
      try simp only [Act.put, List.setIfInBounds_toArray, List.set_cons_zero, List.set_cons_succ]
      refine wpAnyH_take (i := 1) (oi := { dst := some 21, op := Op.nilCheck (Operand.tmp 20), type := 0, pos := "check.go:17", after := #[{ on := 0, ground := Ground.data }], guard := none }) (v := ?_) rfl (by kernel_rfl) (by kernel_rfl) (by kernel_rfl) (fun _ _ _ h => h) (Or.inl ⟨by rfl, ?_⟩) hHeld ?_
      rotate_left
      · (intro w hSw; (try dsimp only at hSw); go_simp; all_goals (try with_reducible rfl))
      try simp only [Act.put, List.setIfInBounds_toArray, List.set_cons_zero, List.set_cons_succ]
      refine wpAnyH_take (i := 2) (oi := { dst := some 22, op := Op.fieldAddr 48 (Operand.tmp 21) 0, type := 0, pos := "check.go:17", after := #[{ on := 1, ground := Ground.data }], guard := none }) (v := ?_) rfl (by kernel_rfl) (by kernel_rfl) (by kernel_rfl) (fun _ _ _ h => h) (Or.inl ⟨by rfl, ?_⟩) hHeld ?_
      rotate_left
      · (intro w hSw; (try dsimp only at hSw); go_simp; all_goals (try with_reducible rfl))
      try simp only [Act.put, List.setIfInBounds_toArray, List.set_cons_zero, List.set_cons_succ]
      refine wpAnyH_take (i := 4) (oi := { dst := some 24, op := Op.move (Operand.tmp 1), type := 53, pos := "check.go:17", after := #[], guard := none }) (v := ?_) rfl (by kernel_rfl) (by kernel_rfl) (by kernel_rfl) (fun _ _ _ h => h) (Or.inl ⟨by rfl, ?_⟩) hHeld ?_
      rotate_left
      · (intro w hSw; (try dsimp only at hSw); go_simp; all_goals (try with_reducible rfl))
      try simp only [Act.put, List.setIfInBounds_toArray, List.set_cons_zero, List.set_cons_succ]
      refine wpAnyH_take (i := 5) (oi := { dst := some 25, op := Op.indexAddr 53 (Operand.tmp 24) (Operand.const (Value.int IntKind.i64 0)), type := 0, pos := "check.go:17", after := #[{ on := 4, ground := Ground.data }], guard := none }) (v := ?_) rfl (by kernel_rfl) (by kernel_rfl) (by kernel_rfl) (fun _ _ _ h => h) (Or.inl ⟨by rfl, ?_⟩) hHeld ?_
      rotate_left
      · (intro w hSw; (try dsimp only at hSw); go_simp; all_goals (try with_reducible rfl))
      try simp only [Act.put, List.setIfInBounds_toArray, List.set_cons_zero, List.set_cons_succ]
      refine wpAnyH_take (i := 6) (oi := { dst := some 26, op := Op.fieldAddr 67 (Operand.tmp 25) 4, type := 0, pos := "check.go:17", after := #[{ on := 5, ground := Ground.data }], guard := none }) (v := ?_) rfl (by kernel_rfl) (by kernel_rfl) (by kernel_rfl) (fun _ _ _ h => h) (Or.inl ⟨by rfl, ?_⟩) hHeld ?_
      rotate_left
      · (intro w hSw; (try dsimp only at hSw); go_simp; all_goals (try with_reducible rfl))
      try simp only [Act.put, List.setIfInBounds_toArray, List.set_cons_zero, List.set_cons_succ]
      refine wpAnyH_ready (rs := [3, 7]) (by kernel_rfl) (by simp) ?_
      refine AllReadyH.cons (o := { dst := some 23, op := Op.load 28 (Operand.tmp 22), type := 28, pos := "check.go:17", after := #[{ on := 2, ground := Ground.data }], guard := none }) rfl (fun K hK => ?_) ?_
      · skip
        go_simp
        refine hK.out _ _ trivial (fun hHeld => ?_)
        clear hK K
        try simp only [Act.put, List.setIfInBounds_toArray, List.set_cons_zero, List.set_cons_succ]
        refine wpAnyH_ready (rs := [7]) (by kernel_rfl) (by simp) ?_
        refine AllReadyH.cons (o := { dst := some 27, op := Op.load 65 (Operand.tmp 26), type := 65, pos := "check.go:17", after := #[{ on := 6, ground := Ground.data }], guard := none }) rfl (fun K hK => ?_) AllReadyH.nil
        go_simp
        refine hK.out _ _ trivial (fun hHeld => ?_)
        clear hK K
        try simp only [Act.put, List.setIfInBounds_toArray, List.set_cons_zero, List.set_cons_succ]
        refine wpAnyH_ready (rs := [8]) (by kernel_rfl) (by simp) ?_
        refine AllReadyH.cons (o := { dst := some 28, op := Op.call { callee := Callee.value (Operand.func 29), args := #[Operand.tmp 23, Operand.tmp 27], argTypes := #[28, 65] }, type := 57, pos := "check.go:17", after := #[{ on := 3, ground := Ground.data }, { on := 7, ground := Ground.data }], guard := none }) rfl (fun K hK => ?_) AllReadyH.nil
        go_simp
        refine Calls.mono (HSM.out _ (Below.refl _ _).drew) ?_
        rintro e W3 ⟨rfl, hb3⟩
        have HB3 : Hid (Below W.heap.size W W3) := HB1.out.drew.trans (hb3.mono HB1.out.size)
        have t0 : W3.cell? ⟨W.heap.size, 0, none⟩ = some (.int .i64 0) := cell_up hb3 r0
        have t1 : W3.cell? ⟨W.heap.size, 1, none⟩ = some (.int .i64 0) := cell_up hb3 r1
        have g0 : W3.frozen? ⟨W.heap.size, 0, none⟩ = false := by rw [hb3.frozen (p := ⟨W.heap.size, 0, none⟩) rl]; exact f0
        have g1 : W3.frozen? ⟨W.heap.size, 1, none⟩ = false := by rw [hb3.frozen (p := ⟨W.heap.size, 1, none⟩) rl]; exact f1
        clear hb3
        go_wp2_with fail
        refine hK.out _ _ trivial (fun hHeld => ?_)
        clear hK K
        try simp only [Act.put, List.setIfInBounds_toArray, List.set_cons_zero, List.set_cons_succ]
        refine wpAnyH_take (i := 9) (oi := { dst := some 29, op := Op.extract (Operand.tmp 28) 0, type := 25, pos := "check.go:17", after := #[{ on := 8, ground := Ground.data }], guard := none }) (v := ?_) rfl (by kernel_rfl) (by kernel_rfl) (by kernel_rfl) (fun _ _ _ h => h) (Or.inl ⟨by rfl, ?_⟩) hHeld ?_
        rotate_left
        · (intro w hSw; (try dsimp only at hSw); go_simp; all_goals (try with_reducible rfl))
        try simp only [Act.put, List.setIfInBounds_toArray, List.set_cons_zero, List.set_cons_succ]
        refine wpAnyH_take (i := 10) (oi := { dst := some 30, op := Op.extract (Operand.tmp 28) 1, type := 29, pos := "check.go:17", after := #[{ on := 8, ground := Ground.data }], guard := none }) (v := ?_) rfl (by kernel_rfl) (by kernel_rfl) (by kernel_rfl) (fun _ _ _ h => h) (Or.inl ⟨by rfl, ?_⟩) hHeld ?_
        rotate_left
        · (intro w hSw; (try dsimp only at hSw); go_simp; all_goals (try with_reducible rfl))
        try simp only [Act.put, List.setIfInBounds_toArray, List.set_cons_zero, List.set_cons_succ]
        refine wpAnyH_ready (rs := [11]) (by kernel_rfl) (by simp) ?_
        refine AllReadyH.cons (o := { dst := none, op := Op.store 25 (Operand.tmp 4) (Operand.tmp 29), type := 0, pos := "check.go:17", after := #[{ on := 9, ground := Ground.data }, { on := 8, ground := Ground.chain }, { on := 0, ground := Ground.phase }, { on := 1, ground := Ground.phase }, { on := 2, ground := Ground.phase }, { on := 3, ground := Ground.phase }, { on := 4, ground := Ground.phase }, { on := 5, ground := Ground.phase }, { on := 6, ground := Ground.phase }, { on := 7, ground := Ground.phase }, { on := 8, ground := Ground.phase }, { on := 9, ground := Ground.phase }, { on := 10, ground := Ground.phase }], guard := none }) rfl (fun K hK => ?_) AllReadyH.nil
        go_simp
        refine hK.out _ _ trivial (fun hHeld => ?_)
        clear hK K
        try simp only [Act.put]
        refine wpAnyH_take (i := 12) (oi := { dst := some 5, op := Op.assign (Operand.tmp 30), type := 29, pos := "check.go:17", after := #[{ on := 10, ground := Ground.data }, { on := 11, ground := Ground.chain }, { on := 0, ground := Ground.phase }, { on := 1, ground := Ground.phase }, { on := 2, ground := Ground.phase }, { on := 3, ground := Ground.phase }, { on := 4, ground := Ground.phase }, { on := 5, ground := Ground.phase }, { on := 6, ground := Ground.phase }, { on := 7, ground := Ground.phase }, { on := 8, ground := Ground.phase }, { on := 9, ground := Ground.phase }, { on := 10, ground := Ground.phase }, { on := 11, ground := Ground.phase }], guard := none }) (v := ?_) rfl (by kernel_rfl) (by kernel_rfl) (by kernel_rfl) (fun _ _ _ h => h) (Or.inl ⟨by rfl, ?_⟩) hHeld ?_
        rotate_left
        · (intro w hSw; (try dsimp only at hSw); go_simp; all_goals (try with_reducible rfl))
        try simp only [Act.put, List.setIfInBounds_toArray, List.set_cons_zero, List.set_cons_succ]
        refine wpAnyH_done (by kernel_rfl) ?_ _
        go_wp2
        refine bodyPost_ret (v := .tuple #[.agg #[.int .i64 s1, .int .i64 s2], .int .i64 s3]) (by simp [results, Try.results17, go_sem, t0, t1]) rfl ⟨by rw [HE3.out], ?_⟩
        exact below_set (below_set HB3.out _ _ _ (Nat.le_refl _)) _ _ _ (Nat.le_refl _)
      refine AllReadyH.cons (o := { dst := some 27, op := Op.load 65 (Operand.tmp 26), type := 65, pos := "check.go:17", after := #[{ on := 6, ground := Ground.data }], guard := none }) rfl (fun K hK => ?_) AllReadyH.nil
      go_simp
      refine hK.out _ _ trivial (fun hHeld => ?_)
      clear hK K
      try simp only [Act.put, List.setIfInBounds_toArray, List.set_cons_zero, List.set_cons_succ]
      refine wpAnyH_ready (rs := [3]) (by kernel_rfl) (by simp) ?_
      refine AllReadyH.cons (o := { dst := some 23, op := Op.load 28 (Operand.tmp 22), type := 28, pos := "check.go:17", after := #[{ on := 2, ground := Ground.data }], guard := none }) rfl (fun K hK => ?_) AllReadyH.nil
      go_simp
      refine hK.out _ _ trivial (fun hHeld => ?_)
      clear hK K
      try simp only [Act.put, List.setIfInBounds_toArray, List.set_cons_zero, List.set_cons_succ]
      refine wpAnyH_ready (rs := [8]) (by kernel_rfl) (by simp) ?_
      refine AllReadyH.cons (o := { dst := some 28, op := Op.call { callee := Callee.value (Operand.func 29), args := #[Operand.tmp 23, Operand.tmp 27], argTypes := #[28, 65] }, type := 57, pos := "check.go:17", after := #[{ on := 3, ground := Ground.data }, { on := 7, ground := Ground.data }], guard := none }) rfl (fun K hK => ?_) AllReadyH.nil
      go_simp
      refine Calls.mono (HSM.out _ (Below.refl _ _).drew) ?_
      rintro e W3 ⟨rfl, hb3⟩
      have HB3 : Hid (Below W.heap.size W W3) := HB1.out.drew.trans (hb3.mono HB1.out.size)
      have t0 : W3.cell? ⟨W.heap.size, 0, none⟩ = some (.int .i64 0) := cell_up hb3 r0
      have t1 : W3.cell? ⟨W.heap.size, 1, none⟩ = some (.int .i64 0) := cell_up hb3 r1
      have g0 : W3.frozen? ⟨W.heap.size, 0, none⟩ = false := by rw [hb3.frozen (p := ⟨W.heap.size, 0, none⟩) rl]; exact f0
      have g1 : W3.frozen? ⟨W.heap.size, 1, none⟩ = false := by rw [hb3.frozen (p := ⟨W.heap.size, 1, none⟩) rl]; exact f1
      clear hb3
      go_wp2_with fail
      refine hK.out _ _ trivial (fun hHeld => ?_)
      clear hK K
      try simp only [Act.put, List.setIfInBounds_toArray, List.set_cons_zero, List.set_cons_succ]
      refine wpAnyH_take (i := 9) (oi := { dst := some 29, op := Op.extract (Operand.tmp 28) 0, type := 25, pos := "check.go:17", after := #[{ on := 8, ground := Ground.data }], guard := none }) (v := ?_) rfl (by kernel_rfl) (by kernel_rfl) (by kernel_rfl) (fun _ _ _ h => h) (Or.inl ⟨by rfl, ?_⟩) hHeld ?_
      rotate_left
      · (intro w hSw; (try dsimp only at hSw); go_simp; all_goals (try with_reducible rfl))
      try simp only [Act.put, List.setIfInBounds_toArray, List.set_cons_zero, List.set_cons_succ]
      refine wpAnyH_take (i := 10) (oi := { dst := some 30, op := Op.extract (Operand.tmp 28) 1, type := 29, pos := "check.go:17", after := #[{ on := 8, ground := Ground.data }], guard := none }) (v := ?_) rfl (by kernel_rfl) (by kernel_rfl) (by kernel_rfl) (fun _ _ _ h => h) (Or.inl ⟨by rfl, ?_⟩) hHeld ?_
      rotate_left
      · (intro w hSw; (try dsimp only at hSw); go_simp; all_goals (try with_reducible rfl))
      try simp only [Act.put, List.setIfInBounds_toArray, List.set_cons_zero, List.set_cons_succ]
      refine wpAnyH_ready (rs := [11]) (by kernel_rfl) (by simp) ?_
      refine AllReadyH.cons (o := { dst := none, op := Op.store 25 (Operand.tmp 4) (Operand.tmp 29), type := 0, pos := "check.go:17", after := #[{ on := 9, ground := Ground.data }, { on := 8, ground := Ground.chain }, { on := 0, ground := Ground.phase }, { on := 1, ground := Ground.phase }, { on := 2, ground := Ground.phase }, { on := 3, ground := Ground.phase }, { on := 4, ground := Ground.phase }, { on := 5, ground := Ground.phase }, { on := 6, ground := Ground.phase }, { on := 7, ground := Ground.phase }, { on := 8, ground := Ground.phase }, { on := 9, ground := Ground.phase }, { on := 10, ground := Ground.phase }], guard := none }) rfl (fun K hK => ?_) AllReadyH.nil
      go_simp
      refine hK.out _ _ trivial (fun hHeld => ?_)
      clear hK K
      try simp only [Act.put]
      refine wpAnyH_take (i := 12) (oi := { dst := some 5, op := Op.assign (Operand.tmp 30), type := 29, pos := "check.go:17", after := #[{ on := 10, ground := Ground.data }, { on := 11, ground := Ground.chain }, { on := 0, ground := Ground.phase }, { on := 1, ground := Ground.phase }, { on := 2, ground := Ground.phase }, { on := 3, ground := Ground.phase }, { on := 4, ground := Ground.phase }, { on := 5, ground := Ground.phase }, { on := 6, ground := Ground.phase }, { on := 7, ground := Ground.phase }, { on := 8, ground := Ground.phase }, { on := 9, ground := Ground.phase }, { on := 10, ground := Ground.phase }, { on := 11, ground := Ground.phase }], guard := none }) (v := ?_) rfl (by kernel_rfl) (by kernel_rfl) (by kernel_rfl) (fun _ _ _ h => h) (Or.inl ⟨by rfl, ?_⟩) hHeld ?_
      rotate_left
      · (intro w hSw; (try dsimp only at hSw); go_simp; all_goals (try with_reducible rfl))
      try simp only [Act.put, List.setIfInBounds_toArray, List.set_cons_zero, List.set_cons_succ]
      refine wpAnyH_done (by kernel_rfl) ?_ _
      go_wp2
      refine bodyPost_ret (v := .tuple #[.agg #[.int .i64 s1, .int .i64 s2], .int .i64 s3]) (by simp [results, Try.results17, go_sem, t0, t1]) rfl ⟨by rw [HE3.out], ?_⟩
      exact below_set (below_set HB3.out _ _ _ (Nat.le_refl _)) _ _ _ (Nat.le_refl _)
    · have HE3 : Hid (rangeR l n = (0, 0, 1)) := by show _ = _; rw [HE2.out, if_pos h2]
      have k1 : (op == 2) = false := by simpa using h2
      have k2 : (op != 2) = true := by simpa using h2
      have f0 := rf 0
      have f1 := rf 1
      clear HE2 HHA HFA h2 rf
      go_wp2
      refine bodyPost_ret (v := .tuple #[.agg #[.int .i64 0, .int .i64 0], .int .i64 1]) (by simp [results, Try.results17, go_sem, r0, r1]) rfl ⟨by rw [HE3.out], ?_⟩
      exact below_set (below_set HB1.out _ _ _ (Nat.le_refl _)) _ _ _ (Nat.le_refl _)
  · have HE2 : Hid (rangeR l n = (0, 0, checkE l n)) := by show _ = _; rw [HE.out, if_pos h0]
    have k1 : (checkE l n == 0) = false := by simpa using h0
    have k2 : (checkE l n != 0) = true := by simpa using h0
    clear HE HOK hf h0 HT
    generalize checkE l n = ce at *
    generalize rangeR l n = rr at *
    go_enter Try.func17, Try.ntmps17
    go_wp2_with fail
    refine Calls.mono HC ?_
    rintro e W1 ⟨rfl, hb1⟩
    have HB1 : Hid (Below W.heap.size W W1) := HB0.out.trans (hb1.mono HB0.out.size)
    obtain ⟨r0, r1, rf, rl⟩ := HX.out _ hb1
    have f0 := rf 0
    have f1 := rf 1
    clear hb1 rf HC
    go_wp2
    refine bodyPost_ret (v := .tuple #[.agg #[.int .i64 0, .int .i64 0], .int .i64 ce]) (by simp [results, Try.results17, go_sem, r0, r1]) rfl ⟨by rw [HE2.out], ?_⟩
    exact below_set (below_set HB1.out _ _ _ (Nat.le_refl _)) _ _ _ (Nat.le_refl _)
end Go.Proofs.Ytjnnjjajlafchaa
