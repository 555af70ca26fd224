/- The document's own comparison. Conditions: both below 2^190. -/
import Derived.Test.YtgpophdlmibmgaaBig9
import Derived.Deep.RegionHeld3
namespace Go.Proofs.Ytgpophdlmibmgaa
open Go.RowKit
set_option linter.unusedVariables false
set_option maxRecDepth 100000

/-- Is the one less, the same, greater? -/
def cmpI (x y : Int) : Int := if x < y then -1 else if y < x then 1 else 0
theorem cmp_of {k : Bool} {d : Nat → Int} {x y : Int} (hd : Dig d) (hx : sv k d = x + -y) (hs : k = true → x + -y < 0) : cmpI x y = if zB d = true then 0 else if k = true then -1 else 1 := by
  have z := zB_val hd
  have v := valD_nonneg hd 6 (by omega)
  unfold cmpI
  cases hz : zB d
  · have := z.2 hz
    cases k
    · simp only [sv, Bool.false_eq_true, if_false] at hx ⊢; rw [if_neg (by omega), if_pos (by omega)]
    · have := hs rfl; simp only [Bool.false_eq_true, if_false, if_true]; rw [if_pos (by omega)]
  · have := z.1 hz
    have : x = y := by unfold sv at hx; rw [this] at hx; split at hx <;> omega
    simp [this]
theorem bigAt_new (V : World) : BigAt (V.alloc (.cells #[.bool false, .int .i64 0, .int .i64 0, .int .i64 0, .int .i64 0, .int .i64 0, .int .i64 0] 71)) V.heap.size false (fun _ => 0) := bigAt_of (by simp [go_sem]) (by simp [go_sem]) (by simp [go_sem]) (by simp [go_sem]) (by simp [go_sem]) (by simp [go_sem]) (by simp [go_sem]) (fun j => by simp [go_sem])
theorem bigAt_put {V : World} {g : Nat} {m0 : Bool} {d0 : Nat → Int} (L : BigAt V g m0 d0) (k : Bool) (d : Nat → Int) :
    BigAt (((((((V.setCell ⟨g, 0, none⟩ (.bool k)).setCell ⟨g, 1, none⟩ (.int .i64 (d 0))).setCell ⟨g, 2, none⟩ (.int .i64 (d 1))).setCell ⟨g, 3, none⟩ (.int .i64 (d 2))).setCell ⟨g, 4, none⟩ (.int .i64 (d 3))).setCell ⟨g, 5, none⟩ (.int .i64 (d 4))).setCell ⟨g, 6, none⟩ (.int .i64 (d 5))) g k d := by
  have t0 := L.s
  have t1 : V.cell? ⟨g, 1, none⟩ = some (.int .i64 (d0 0)) := L.c 0 (by omega)
  have t2 : V.cell? ⟨g, 2, none⟩ = some (.int .i64 (d0 1)) := L.c 1 (by omega)
  have t3 : V.cell? ⟨g, 3, none⟩ = some (.int .i64 (d0 2)) := L.c 2 (by omega)
  have t4 : V.cell? ⟨g, 4, none⟩ = some (.int .i64 (d0 3)) := L.c 3 (by omega)
  have t5 : V.cell? ⟨g, 5, none⟩ = some (.int .i64 (d0 4)) := L.c 4 (by omega)
  have t6 : V.cell? ⟨g, 6, none⟩ = some (.int .i64 (d0 5)) := L.c 5 (by omega)
  have tf := L.f
  exact bigAt_of (by simp [go_sem, t0]) (by simp [go_sem, t1]) (by simp [go_sem, t2]) (by simp [go_sem, t3]) (by simp [go_sem, t4]) (by simp [go_sem, t5]) (by simp [go_sem, t6]) (fun j => by simp [go_sem, tf])

set_option maxHeartbeats 600000 in
theorem rcompare_any (v1 v2 : Value) (x y : Int) (w : World) (h1 : IsBig v1 x) (h2 : IsBig v2 y)
    (hx0 : -3138550867693340381917894711603833208051177722232017256448 < x) (hx1 : x < 3138550867693340381917894711603833208051177722232017256448)
    (hy0 : -3138550867693340381917894711603833208051177722232017256448 < y) (hy1 : y < 3138550867693340381917894711603833208051177722232017256448) :
    Calls Try.prog 45 #[v1, v2] w fun e w' => e = .returned (.int .i64 (cmpI x y)) ∧ Below w.heap.size w w' := by
  have HN : Hid (∀ w, Calls Try.prog 64 #[v2] w fun e w' => ∃ v', e = .returned v' ∧ IsBig v' (-y) ∧ Below w.heap.size w w') := fun w => bneg_any v2 y w h2
  have HD : Hid (∀ v' w, IsBig v' (-y) → Calls Try.prog 20 #[v1, v'] w fun e w' => ∃ v'', e = .returned v'' ∧ IsBig v'' (x + -y) ∧ Below w.heap.size w w') := fun v' w h => radd_big v1 v' x (-y) w h1 h hx0 hx1 (by omega) (by omega)
  obtain ⟨m, a, rfl, ha, hxa, hxs⟩ := h1
  obtain ⟨n, b, rfl, hb, hyb, hys⟩ := h2
  clear ha hxa hxs hb hyb hys hx0 hx1 hy0 hy1
  have A0 : BigAt ((w.alloc (.cells #[.bool m, .int .i64 (a 0), .int .i64 (a 1), .int .i64 (a 2), .int .i64 (a 3), .int .i64 (a 4), .int .i64 (a 5)] 71)).alloc (.cells #[.bool n, .int .i64 (b 0), .int .i64 (b 1), .int .i64 (b 2), .int .i64 (b 3), .int .i64 (b 4), .int .i64 (b 5)] 71)) w.heap.size m a := bigAt_of (by simp [go_sem]) (by simp [go_sem]) (by simp [go_sem]) (by simp [go_sem]) (by simp [go_sem]) (by simp [go_sem]) (by simp [go_sem]) (fun j => by simp [go_sem])
  have B0 : BigAt ((w.alloc (.cells #[.bool m, .int .i64 (a 0), .int .i64 (a 1), .int .i64 (a 2), .int .i64 (a 3), .int .i64 (a 4), .int .i64 (a 5)] 71)).alloc (.cells #[.bool n, .int .i64 (b 0), .int .i64 (b 1), .int .i64 (b 2), .int .i64 (b 3), .int .i64 (b 4), .int .i64 (b 5)] 71)) (w.heap.size + 1) n b := bigAt_of (by simp [go_sem]) (by simp [go_sem]) (by simp [go_sem]) (by simp [go_sem]) (by simp [go_sem]) (by simp [go_sem]) (by simp [go_sem]) (fun j => by simp [go_sem])
  have kb : Below w.heap.size w ((w.alloc (.cells #[.bool m, .int .i64 (a 0), .int .i64 (a 1), .int .i64 (a 2), .int .i64 (a 3), .int .i64 (a 4), .int .i64 (a 5)] 71)).alloc (.cells #[.bool n, .int .i64 (b 0), .int .i64 (b 1), .int .i64 (b 2), .int .i64 (b 3), .int .i64 (b 4), .int .i64 (b 5)] 71)) := (((Below.refl _ w).alloc (Nat.le_refl _) _).alloc (by simp) _)
  have HA : Hid (BigAt ((w.alloc (.cells #[.bool m, .int .i64 (a 0), .int .i64 (a 1), .int .i64 (a 2), .int .i64 (a 3), .int .i64 (a 4), .int .i64 (a 5)] 71)).alloc (.cells #[.bool n, .int .i64 (b 0), .int .i64 (b 1), .int .i64 (b 2), .int .i64 (b 3), .int .i64 (b 4), .int .i64 (b 5)] 71)) w.heap.size m a ∧ BigAt ((w.alloc (.cells #[.bool m, .int .i64 (a 0), .int .i64 (a 1), .int .i64 (a 2), .int .i64 (a 3), .int .i64 (a 4), .int .i64 (a 5)] 71)).alloc (.cells #[.bool n, .int .i64 (b 0), .int .i64 (b 1), .int .i64 (b 2), .int .i64 (b 3), .int .i64 (b 4), .int .i64 (b 5)] 71)) (w.heap.size + 1) n b ∧ Below w.heap.size w ((w.alloc (.cells #[.bool m, .int .i64 (a 0), .int .i64 (a 1), .int .i64 (a 2), .int .i64 (a 3), .int .i64 (a 4), .int .i64 (a 5)] 71)).alloc (.cells #[.bool n, .int .i64 (b 0), .int .i64 (b 1), .int .i64 (b 2), .int .i64 (b 3), .int .i64 (b 4), .int .i64 (b 5)] 71))) := ⟨A0, B0, kb⟩
  clear A0 B0 kb
  go_enter Try.func45, Try.ntmps45
  go_wp2_with fail
  obtain ⟨W1, hW1⟩ : ∃ Z, ((w.alloc (.cells #[.bool m, .int .i64 (a 0), .int .i64 (a 1), .int .i64 (a 2), .int .i64 (a 3), .int .i64 (a 4), .int .i64 (a 5)] 71)).alloc (.cells #[.bool n, .int .i64 (b 0), .int .i64 (b 1), .int .i64 (b 2), .int .i64 (b 3), .int .i64 (b 4), .int .i64 (b 5)] 71)) = Z := ⟨_, rfl⟩
  have HK : Hid (∀ W', Below W1.drew.heap.size W1.drew W' → W'.cell? ⟨w.heap.size, 0, none⟩ = some (.bool m) ∧ W'.cell? ⟨w.heap.size, 1, none⟩ = some (.int .i64 (a 0)) ∧ W'.cell? ⟨w.heap.size, 2, none⟩ = some (.int .i64 (a 1)) ∧ W'.cell? ⟨w.heap.size, 3, none⟩ = some (.int .i64 (a 2)) ∧ W'.cell? ⟨w.heap.size, 4, none⟩ = some (.int .i64 (a 3)) ∧ W'.cell? ⟨w.heap.size, 5, none⟩ = some (.int .i64 (a 4)) ∧ W'.cell? ⟨w.heap.size, 6, none⟩ = some (.int .i64 (a 5)) ∧ W'.cell? ⟨w.heap.size + 1, 0, none⟩ = some (.bool n) ∧ W'.cell? ⟨w.heap.size + 1, 1, none⟩ = some (.int .i64 (b 0)) ∧ W'.cell? ⟨w.heap.size + 1, 2, none⟩ = some (.int .i64 (b 1)) ∧ W'.cell? ⟨w.heap.size + 1, 3, none⟩ = some (.int .i64 (b 2)) ∧ W'.cell? ⟨w.heap.size + 1, 4, none⟩ = some (.int .i64 (b 3)) ∧ W'.cell? ⟨w.heap.size + 1, 5, none⟩ = some (.int .i64 (b 4)) ∧ W'.cell? ⟨w.heap.size + 1, 6, none⟩ = some (.int .i64 (b 5))) := fun W' kk => by
    have q := hW1 ▸ HA.out
    have k2 : Below W1.heap.size W1 W' := ((Below.refl W1.heap.size W1).drew).trans (kk.mono (by simp))
    have A1 := q.1.below k2
    have B1 := q.2.1.below k2
    exact ⟨A1.s, A1.c 0 (by omega), A1.c 1 (by omega), A1.c 2 (by omega), A1.c 3 (by omega), A1.c 4 (by omega), A1.c 5 (by omega), B1.s, B1.c 0 (by omega), B1.c 1 (by omega), B1.c 2 (by omega), B1.c 3 (by omega), B1.c 4 (by omega), B1.c 5 (by omega)⟩
  have HW : Hid (Below w.heap.size w W1) := (hW1 ▸ HA.out).2.2
  rw [hW1]
  clear hW1 HA
  obtain ⟨W0, hW0⟩ : ∃ Z, W1.drew = Z := ⟨_, rfl⟩
  have HW0 : Hid (Below w.heap.size w W0) := by rw [← hW0]; exact HW.out.drew
  clear HW
  rw [hW0] at HK
  have kb : Below W0.heap.size W0 W0 := Below.refl _ _
  refine wp_region_held_drew (S := fun W' => W'.cell? ⟨w.heap.size, 0, none⟩ = some (.bool m) ∧ W'.cell? ⟨w.heap.size, 1, none⟩ = some (.int .i64 (a 0)) ∧ W'.cell? ⟨w.heap.size, 2, none⟩ = some (.int .i64 (a 1)) ∧ W'.cell? ⟨w.heap.size, 3, none⟩ = some (.int .i64 (a 2)) ∧ W'.cell? ⟨w.heap.size, 4, none⟩ = some (.int .i64 (a 3)) ∧ W'.cell? ⟨w.heap.size, 5, none⟩ = some (.int .i64 (a 4)) ∧ W'.cell? ⟨w.heap.size, 6, none⟩ = some (.int .i64 (a 5)) ∧ W'.cell? ⟨w.heap.size + 1, 0, none⟩ = some (.bool n) ∧ W'.cell? ⟨w.heap.size + 1, 1, none⟩ = some (.int .i64 (b 0)) ∧ W'.cell? ⟨w.heap.size + 1, 2, none⟩ = some (.int .i64 (b 1)) ∧ W'.cell? ⟨w.heap.size + 1, 3, none⟩ = some (.int .i64 (b 2)) ∧ W'.cell? ⟨w.heap.size + 1, 4, none⟩ = some (.int .i64 (b 3)) ∧ W'.cell? ⟨w.heap.size + 1, 5, none⟩ = some (.int .i64 (b 4)) ∧ W'.cell? ⟨w.heap.size + 1, 6, none⟩ = some (.int .i64 (b 5))) (by kernel_rfl) (hW0 ▸ HK.out _ kb) (fun hHeld => ?_)
  rw [hW0] at hHeld ⊢
  clear hW0 W1
  refine wpAnyH_take (i := 0) (oi := { dst := some 6, op := Op.load 71 (Operand.tmp 2), type := 71, pos := "fix.go:128", after := #[], guard := none }) (v := ?_) rfl (by kernel_rfl) (by kernel_rfl) (by kernel_rfl) (fun _ _ _ h => h) (Or.inl ⟨by rfl, ?_⟩) hHeld ?_
  rotate_left
  · (intro w hSw; (try dsimp only at hSw); go_simp; all_goals (try with_reducible rfl))
  try simp only [Act.put, List.setIfInBounds_toArray, List.set_cons_zero, List.set_cons_succ]
  refine wpAnyH_take (i := 1) (oi := { dst := some 7, op := Op.load 71 (Operand.tmp 3), type := 71, pos := "fix.go:128", after := #[], guard := none }) (v := ?_) rfl (by kernel_rfl) (by kernel_rfl) (by kernel_rfl) (fun _ _ _ h => h) (Or.inl ⟨by rfl, ?_⟩) hHeld ?_
  rotate_left
  · (intro w hSw; (try dsimp only at hSw); go_simp; all_goals (try with_reducible rfl))
  try simp only [Act.put, List.setIfInBounds_toArray, List.set_cons_zero, List.set_cons_succ]
  refine wpAnyH_ready (rs := [2, 4]) (by kernel_rfl) (by simp) ?_
  refine AllReadyH.cons (o := { dst := some 8, op := Op.call { callee := Callee.value (Operand.func 64), args := #[Operand.tmp 7], argTypes := #[71] }, type := 71, pos := "fix.go:128", after := #[{ on := 1, ground := Ground.data }], guard := none }) rfl (fun K hK => ?_) ?_
  · skip
    go_simp
    refine Calls.mono (HN.out _) ?_
    rintro e V2 ⟨v2, rfl, hv2, hb⟩
    have kb := kb.trans (hb.mono kb.size)
    clear hb
    go_wp2_with fail
    refine hK.out _ _ (HK.out _ kb) (fun hHeld => ?_)
    clear hK K
    try simp only [Act.put, List.setIfInBounds_toArray, List.set_cons_zero, List.set_cons_succ]
    refine wpAnyH_ready (rs := [3, 4]) (by kernel_rfl) (by simp) ?_
    refine AllReadyH.cons (o := { dst := some 9, op := Op.call { callee := Callee.value (Operand.func 20), args := #[Operand.tmp 6, Operand.tmp 8], argTypes := #[71, 71] }, type := 71, pos := "fix.go:128", after := #[{ on := 0, ground := Ground.data }, { on := 2, ground := Ground.data }, { on := 2, ground := Ground.chain }], guard := none }) rfl (fun K hK => ?_) ?_
    · skip
      go_simp
      refine Calls.mono (HD.out _ _ hv2) ?_
      rintro e V3 ⟨v3, rfl, ⟨k, d, rfl, hd, hx, hs⟩, hb⟩
      have kb := kb.trans (hb.mono kb.size)
      clear hb
      have HC : Hid (Dig d ∧ sv k d = x + -y ∧ (k = true → x + -y < 0)) := ⟨hd, hx, hs⟩
      clear hd hx hs
      go_wp2_with fail
      refine hK.out _ _ (HK.out _ kb) (fun hHeld => ?_)
      clear hK K
      try simp only [Act.put, List.setIfInBounds_toArray, List.set_cons_zero, List.set_cons_succ]
      refine wpAnyH_ready (rs := [4]) (by kernel_rfl) (by simp) ?_
      refine AllReadyH.cons (o := { dst := some 5, op := Op.alloc 71, type := 0, pos := "fix.go:128", after := #[], guard := none }) rfl (fun K hK => ?_) AllReadyH.nil
      go_simp
      have L := bigAt_new V3
      have hl := kb.size
      have kb := kb.alloc kb.size (.cells #[.bool false, .int .i64 0, .int .i64 0, .int .i64 0, .int .i64 0, .int .i64 0, .int .i64 0] 71)
      refine hK.out _ _ (HK.out _ kb) (fun hHeld => ?_)
      obtain ⟨V4, hV4⟩ : ∃ X, V3.alloc (.cells #[.bool false, .int .i64 0, .int .i64 0, .int .i64 0, .int .i64 0, .int .i64 0, .int .i64 0] 71) = X := ⟨_, rfl⟩
      rw [hV4] at L kb hHeld ⊢
      clear hV4
      clear hK K
      try simp only [Act.put, List.setIfInBounds_toArray, List.set_cons_zero, List.set_cons_succ]
      refine wpAnyH_ready (rs := [5]) (by kernel_rfl) (by simp) ?_
      refine AllReadyH.cons (o := { dst := none, op := Op.store 71 (Operand.tmp 5) (Operand.tmp 9), type := 0, pos := "fix.go:128", after := #[{ on := 4, ground := Ground.data }, { on := 3, ground := Ground.data }, { on := 3, ground := Ground.chain }, { on := 0, ground := Ground.phase }, { on := 1, ground := Ground.phase }, { on := 2, ground := Ground.phase }, { on := 3, ground := Ground.phase }, { on := 4, ground := Ground.phase }], guard := none }) rfl (fun K hK => ?_) AllReadyH.nil
      have t0 := L.s
      have t1 := L.c 0 (by omega)
      have t2 := L.c 1 (by omega)
      have t3 := L.c 2 (by omega)
      have t4 := L.c 3 (by omega)
      have t5 := L.c 4 (by omega)
      have t6 := L.c 5 (by omega)
      have tf := L.f
      (try dsimp only at t1 t2 t3 t4 t5 t6)
      go_simp
      have L := bigAt_put L k d
      have kb := bset7 kb _ (.bool k) (.int .i64 (d 0)) (.int .i64 (d 1)) (.int .i64 (d 2)) (.int .i64 (d 3)) (.int .i64 (d 4)) (.int .i64 (d 5)) hl
      clear t0 t1 t2 t3 t4 t5 t6 tf
      refine hK.out _ _ (HK.out _ kb) (fun hHeld => ?_)
      clear hK K
      try simp only [Act.put, List.setIfInBounds_toArray, List.set_cons_zero, List.set_cons_succ]
      refine wpAnyH_done (by kernel_rfl) ?_ _
      have s0 := L.s
      have e0 := L.c 0 (by omega)
      have e1 := L.c 1 (by omega)
      have e2 := L.c 2 (by omega)
      have e3 := L.c 3 (by omega)
      have e4 := L.c 4 (by omega)
      have e5 := L.c 5 (by omega)
      have sf := L.f
      have HL : Hid (BigAt _ _ k d) := L
      have HB : Hid (Below W0.heap.size W0 _) := kb
      clear L kb hHeld hl
      go_wp2_with fail
      refine Calls.mono (bzero_any k d _) ?_
      rintro e V5 ⟨rfl, hb⟩
      have hc := cmp_of HC.out.1 HC.out.2.1 HC.out.2.2
      have L := HL.out.below hb
      have HB5 : Hid (Below w.heap.size w V5) := HW0.out.trans ((HB.out.trans (hb.mono HB.out.size)).mono HW0.out.size)
      have s1 := L.s
      have sf := L.f
      clear L HL HB HC HW0 HK HN HD hb e0 e1 e2 e3 e4 e5 s0
      cases hz : zB d
      · cases k
        · have HR : Hid (cmpI x y = 1) := by rw [hc, hz]; rfl
          clear hc hz
          go_wp2
          exact bodyPost_ret (v := .int .i64 1) (by simp [results, Try.results45, go_sem]) rfl ⟨by rw [HR.out], HB5.out⟩
        · have HR : Hid (cmpI x y = -1) := by rw [hc, hz]; rfl
          clear hc hz
          go_wp2
          exact bodyPost_ret (v := .int .i64 (-1)) (by simp [results, Try.results45, go_sem]) rfl ⟨by rw [HR.out], HB5.out⟩
      · have HR : Hid (cmpI x y = 0) := by rw [hc, hz]; rfl
        clear hc hz
        go_wp2
        exact bodyPost_ret (v := .int .i64 0) (by simp [results, Try.results45, go_sem]) rfl ⟨by rw [HR.out], HB5.out⟩
    refine AllReadyH.cons (o := { dst := some 5, op := Op.alloc 71, type := 0, pos := "fix.go:128", after := #[], guard := none }) rfl (fun K hK => ?_) AllReadyH.nil
    go_simp
    have L := bigAt_new V2
    have hl := kb.size
    have kb := kb.alloc kb.size (.cells #[.bool false, .int .i64 0, .int .i64 0, .int .i64 0, .int .i64 0, .int .i64 0, .int .i64 0] 71)
    refine hK.out _ _ (HK.out _ kb) (fun hHeld => ?_)
    clear hK K
    try simp only [Act.put, List.setIfInBounds_toArray, List.set_cons_zero, List.set_cons_succ]
    refine wpAnyH_ready (rs := [3]) (by kernel_rfl) (by simp) ?_
    refine AllReadyH.cons (o := { dst := some 9, op := Op.call { callee := Callee.value (Operand.func 20), args := #[Operand.tmp 6, Operand.tmp 8], argTypes := #[71, 71] }, type := 71, pos := "fix.go:128", after := #[{ on := 0, ground := Ground.data }, { on := 2, ground := Ground.data }, { on := 2, ground := Ground.chain }], guard := none }) rfl (fun K hK => ?_) AllReadyH.nil
    go_simp
    refine Calls.mono (HD.out _ _ hv2) ?_
    rintro e V3 ⟨v3, rfl, ⟨k, d, rfl, hd, hx, hs⟩, hb⟩
    have L := L.below hb
    have kb := kb.trans (hb.mono kb.size)
    clear hb
    have HC : Hid (Dig d ∧ sv k d = x + -y ∧ (k = true → x + -y < 0)) := ⟨hd, hx, hs⟩
    clear hd hx hs
    go_wp2_with fail
    refine hK.out _ _ (HK.out _ kb) (fun hHeld => ?_)
    clear hK K
    try simp only [Act.put, List.setIfInBounds_toArray, List.set_cons_zero, List.set_cons_succ]
    refine wpAnyH_ready (rs := [5]) (by kernel_rfl) (by simp) ?_
    refine AllReadyH.cons (o := { dst := none, op := Op.store 71 (Operand.tmp 5) (Operand.tmp 9), type := 0, pos := "fix.go:128", after := #[{ on := 4, ground := Ground.data }, { on := 3, ground := Ground.data }, { on := 3, ground := Ground.chain }, { on := 0, ground := Ground.phase }, { on := 1, ground := Ground.phase }, { on := 2, ground := Ground.phase }, { on := 3, ground := Ground.phase }, { on := 4, ground := Ground.phase }], guard := none }) rfl (fun K hK => ?_) AllReadyH.nil
    have t0 := L.s
    have t1 := L.c 0 (by omega)
    have t2 := L.c 1 (by omega)
    have t3 := L.c 2 (by omega)
    have t4 := L.c 3 (by omega)
    have t5 := L.c 4 (by omega)
    have t6 := L.c 5 (by omega)
    have tf := L.f
    (try dsimp only at t1 t2 t3 t4 t5 t6)
    go_simp
    have L := bigAt_put L k d
    have kb := bset7 kb _ (.bool k) (.int .i64 (d 0)) (.int .i64 (d 1)) (.int .i64 (d 2)) (.int .i64 (d 3)) (.int .i64 (d 4)) (.int .i64 (d 5)) hl
    clear t0 t1 t2 t3 t4 t5 t6 tf
    refine hK.out _ _ (HK.out _ kb) (fun hHeld => ?_)
    clear hK K
    try simp only [Act.put, List.setIfInBounds_toArray, List.set_cons_zero, List.set_cons_succ]
    refine wpAnyH_done (by kernel_rfl) ?_ _
    have s0 := L.s
    have e0 := L.c 0 (by omega)
    have e1 := L.c 1 (by omega)
    have e2 := L.c 2 (by omega)
    have e3 := L.c 3 (by omega)
    have e4 := L.c 4 (by omega)
    have e5 := L.c 5 (by omega)
    have sf := L.f
    have HL : Hid (BigAt _ _ k d) := L
    have HB : Hid (Below W0.heap.size W0 _) := kb
    clear L kb hHeld hl
    go_wp2_with fail
    refine Calls.mono (bzero_any k d _) ?_
    rintro e V5 ⟨rfl, hb⟩
    have hc := cmp_of HC.out.1 HC.out.2.1 HC.out.2.2
    have L := HL.out.below hb
    have HB5 : Hid (Below w.heap.size w V5) := HW0.out.trans ((HB.out.trans (hb.mono HB.out.size)).mono HW0.out.size)
    have s1 := L.s
    have sf := L.f
    clear L HL HB HC HW0 HK HN HD hb e0 e1 e2 e3 e4 e5 s0
    cases hz : zB d
    · cases k
      · have HR : Hid (cmpI x y = 1) := by rw [hc, hz]; rfl
        clear hc hz
        go_wp2
        exact bodyPost_ret (v := .int .i64 1) (by simp [results, Try.results45, go_sem]) rfl ⟨by rw [HR.out], HB5.out⟩
      · have HR : Hid (cmpI x y = -1) := by rw [hc, hz]; rfl
        clear hc hz
        go_wp2
        exact bodyPost_ret (v := .int .i64 (-1)) (by simp [results, Try.results45, go_sem]) rfl ⟨by rw [HR.out], HB5.out⟩
    · have HR : Hid (cmpI x y = 0) := by rw [hc, hz]; rfl
      clear hc hz
      go_wp2
      exact bodyPost_ret (v := .int .i64 0) (by simp [results, Try.results45, go_sem]) rfl ⟨by rw [HR.out], HB5.out⟩
  refine AllReadyH.cons (o := { dst := some 5, op := Op.alloc 71, type := 0, pos := "fix.go:128", after := #[], guard := none }) rfl (fun K hK => ?_) AllReadyH.nil
  go_simp
  have L := bigAt_new W0
  have hl := kb.size
  have kb := kb.alloc kb.size (.cells #[.bool false, .int .i64 0, .int .i64 0, .int .i64 0, .int .i64 0, .int .i64 0, .int .i64 0] 71)
  refine hK.out _ _ (HK.out _ kb) (fun hHeld => ?_)
  clear hK K
  try simp only [Act.put, List.setIfInBounds_toArray, List.set_cons_zero, List.set_cons_succ]
  refine wpAnyH_ready (rs := [2]) (by kernel_rfl) (by simp) ?_
  refine AllReadyH.cons (o := { dst := some 8, op := Op.call { callee := Callee.value (Operand.func 64), args := #[Operand.tmp 7], argTypes := #[71] }, type := 71, pos := "fix.go:128", after := #[{ on := 1, ground := Ground.data }], guard := none }) rfl (fun K hK => ?_) AllReadyH.nil
  go_simp
  refine Calls.mono (HN.out _) ?_
  rintro e V2 ⟨v2, rfl, hv2, hb⟩
  have L := L.below hb
  have kb := kb.trans (hb.mono kb.size)
  clear hb
  go_wp2_with fail
  refine hK.out _ _ (HK.out _ kb) (fun hHeld => ?_)
  clear hK K
  try simp only [Act.put, List.setIfInBounds_toArray, List.set_cons_zero, List.set_cons_succ]
  refine wpAnyH_ready (rs := [3]) (by kernel_rfl) (by simp) ?_
  refine AllReadyH.cons (o := { dst := some 9, op := Op.call { callee := Callee.value (Operand.func 20), args := #[Operand.tmp 6, Operand.tmp 8], argTypes := #[71, 71] }, type := 71, pos := "fix.go:128", after := #[{ on := 0, ground := Ground.data }, { on := 2, ground := Ground.data }, { on := 2, ground := Ground.chain }], guard := none }) rfl (fun K hK => ?_) AllReadyH.nil
  go_simp
  refine Calls.mono (HD.out _ _ hv2) ?_
  rintro e V3 ⟨v3, rfl, ⟨k, d, rfl, hd, hx, hs⟩, hb⟩
  have L := L.below hb
  have kb := kb.trans (hb.mono kb.size)
  clear hb
  have HC : Hid (Dig d ∧ sv k d = x + -y ∧ (k = true → x + -y < 0)) := ⟨hd, hx, hs⟩
  clear hd hx hs
  go_wp2_with fail
  refine hK.out _ _ (HK.out _ kb) (fun hHeld => ?_)
  clear hK K
  try simp only [Act.put, List.setIfInBounds_toArray, List.set_cons_zero, List.set_cons_succ]
  refine wpAnyH_ready (rs := [5]) (by kernel_rfl) (by simp) ?_
  refine AllReadyH.cons (o := { dst := none, op := Op.store 71 (Operand.tmp 5) (Operand.tmp 9), type := 0, pos := "fix.go:128", after := #[{ on := 4, ground := Ground.data }, { on := 3, ground := Ground.data }, { on := 3, ground := Ground.chain }, { on := 0, ground := Ground.phase }, { on := 1, ground := Ground.phase }, { on := 2, ground := Ground.phase }, { on := 3, ground := Ground.phase }, { on := 4, ground := Ground.phase }], guard := none }) rfl (fun K hK => ?_) AllReadyH.nil
  have t0 := L.s
  have t1 := L.c 0 (by omega)
  have t2 := L.c 1 (by omega)
  have t3 := L.c 2 (by omega)
  have t4 := L.c 3 (by omega)
  have t5 := L.c 4 (by omega)
  have t6 := L.c 5 (by omega)
  have tf := L.f
  (try dsimp only at t1 t2 t3 t4 t5 t6)
  go_simp
  have L := bigAt_put L k d
  have kb := bset7 kb _ (.bool k) (.int .i64 (d 0)) (.int .i64 (d 1)) (.int .i64 (d 2)) (.int .i64 (d 3)) (.int .i64 (d 4)) (.int .i64 (d 5)) hl
  clear t0 t1 t2 t3 t4 t5 t6 tf
  refine hK.out _ _ (HK.out _ kb) (fun hHeld => ?_)
  clear hK K
  try simp only [Act.put, List.setIfInBounds_toArray, List.set_cons_zero, List.set_cons_succ]
  refine wpAnyH_done (by kernel_rfl) ?_ _
  have s0 := L.s
  have e0 := L.c 0 (by omega)
  have e1 := L.c 1 (by omega)
  have e2 := L.c 2 (by omega)
  have e3 := L.c 3 (by omega)
  have e4 := L.c 4 (by omega)
  have e5 := L.c 5 (by omega)
  have sf := L.f
  have HL : Hid (BigAt _ _ k d) := L
  have HB : Hid (Below W0.heap.size W0 _) := kb
  clear L kb hHeld hl
  go_wp2_with fail
  refine Calls.mono (bzero_any k d _) ?_
  rintro e V5 ⟨rfl, hb⟩
  have hc := cmp_of HC.out.1 HC.out.2.1 HC.out.2.2
  have L := HL.out.below hb
  have HB5 : Hid (Below w.heap.size w V5) := HW0.out.trans ((HB.out.trans (hb.mono HB.out.size)).mono HW0.out.size)
  have s1 := L.s
  have sf := L.f
  clear L HL HB HC HW0 HK HN HD hb e0 e1 e2 e3 e4 e5 s0
  cases hz : zB d
  · cases k
    · have HR : Hid (cmpI x y = 1) := by rw [hc, hz]; rfl
      clear hc hz
      go_wp2
      exact bodyPost_ret (v := .int .i64 1) (by simp [results, Try.results45, go_sem]) rfl ⟨by rw [HR.out], HB5.out⟩
    · have HR : Hid (cmpI x y = -1) := by rw [hc, hz]; rfl
      clear hc hz
      go_wp2
      exact bodyPost_ret (v := .int .i64 (-1)) (by simp [results, Try.results45, go_sem]) rfl ⟨by rw [HR.out], HB5.out⟩
  · have HR : Hid (cmpI x y = 0) := by rw [hc, hz]; rfl
    clear hc hz
    go_wp2
    exact bodyPost_ret (v := .int .i64 0) (by simp [results, Try.results45, go_sem]) rfl ⟨by rw [HR.out], HB5.out⟩
end Go.Proofs.Ytgpophdlmibmgaa
