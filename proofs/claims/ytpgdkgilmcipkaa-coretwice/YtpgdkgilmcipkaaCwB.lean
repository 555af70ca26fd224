/- CoreTwice's walk. Conditions: what came in. -/
import Derived.Test.YtpgdkgilmcipkaaCwA
namespace Go.Proofs.Ytpgdkgilmcipkaa
open Go.RowKit
set_option linter.unusedVariables false
set_option maxRecDepth 100000

theorem pc_or1 {X : World} {a : Option Addr} {c : Nat} {ys : List NdV} {l : List Nd} (h : Pc X a c ys l) : Calls Try.prog 20 #[.slice (some ⟨X.heap.size, 0, none⟩) 1 1] (X.alloc (.cells #[.slice a ys.length c] 28)) (Makes X (orL [l])) := by
  have := or_any _ 1 _ _ (lss_one h.at') (fun y hy => by simp only [List.mem_singleton] at hy; subst hy; rw [h.nds]; exact h.good) (by have := h.len; simp [tot]; omega)
  have e : [(⟨ys, a, c⟩ : LsV)].map LsV.nds = [l] := by simp only [List.map_cons, List.map_nil, h.nds]
  rw [e] at this
  exact this.mono fun e W' q => q.up ((Below.refl _ _).alloc (Nat.le_refl _) _)
theorem pc_or0 (X : World) : Calls Try.prog 20 #[.slice none 0 0] X (Makes X [ff]) := or_any none 0 [] X (nil_lss X) (fun y hy => by simp at hy) (by simp [tot])
theorem pc_and0 (X : World) : Calls Try.prog 17 #[.slice none 0 0] X (Makes X [tt]) := and_any none 0 [] X (nil_lss X) (fun y hy => by simp at hy) (by simp [tot])
theorem pc_sameb {X : World} {a b : Option Addr} {c d : Nat} {ys zs : List NdV} {l m : List Nd} (h : Pc X a c ys l) (k : Pc X b d zs m) : Calls Try.prog 18 #[.slice a ys.length c, .slice b zs.length d] X fun e W' => e = .returned (.bool (sameB l m)) ∧ Below X.heap.size X W' := by
  have := same_nds h.at' k.at'
  rw [h.eq, k.eq] at this; exact this
theorem pc_same1 {X : World} {a b : Option Addr} {c d : Nat} {ys : List NdV} {z : NdV} {l m : List Nd} (h : Pc X a c ys l) (k : Pc X b d [z] m) (e : l = m) : Calls Try.prog 18 #[.slice a ys.length c, .slice b 1 d] X fun e W' => e = .returned (.bool true) ∧ Below X.heap.size X W' := by
  have := pc_same h k e
  simpa using this
theorem isB_head {ys : List NdV} (h : 0 < ys.length) (k : Int) : isB (ys.map (·.x)) k = ((ys.getD 0 default).x.op == k) := by
  cases ys with
  | nil => simp at h
  | cons y ys => rfl
theorem isB_next {ys : List NdV} (h : 1 < ys.length) (k : Int) : isB ((ys.map (·.x)).drop 1) k = ((ys.getD 1 default).x.op == k) := by
  match ys, h with
  | y :: z :: ys, _ => rfl
theorem good_two {P Q : List Nd} (h : GoodN P) (k : GoodN Q) : ∀ n ∈ [P, Q], GoodN n := fun n hn => by
  simp only [List.mem_cons, List.not_mem_nil, or_false] at hn
  rcases hn with rfl | rfl
  · exact h
  · exact k
theorem good_1 {P : List Nd} (h : GoodN P) : ∀ n ∈ [P], GoodN n := fun n hn => by simp only [List.mem_singleton] at hn; subst hn; exact h
set_option maxHeartbeats 32000000 in
theorem cw_frame (pa : Option Addr) (pc : Nat) (ys : List NdV) (qa : Option Addr) (qc : Nat) (zs : List NdV) (W : World)
    (hpr : RowOf ndC 6 W pa ys) (hpk : ∀ y ∈ ys, NdKnown W y) (hpc : ys.length ≤ pc) (hpm : ys.length ≤ 9223372036854775807 ∧ (pa = none → pc = 0))
    (hqr : RowOf ndC 6 W qa zs) (hqk : ∀ y ∈ zs, NdKnown W y) (hqc : zs.length ≤ qc) (hqm : zs.length ≤ 9223372036854775807 ∧ (qa = none → qc = 0)) :
    Calls Try.prog 7 #[.slice pa ys.length pc, .slice qa zs.length qc] W fun e W' => e = .returned (.bool true) ∧ Below W.heap.size W W' := by
  have HAL : Hid (∀ X, Calls Try.prog 16 #[] X fun e W' => e = .returned (.bool true) ∧ Below X.heap.size X W') := fun X => alive8_any X
  have HB : Hid (Below W.heap.size W W) := Below.refl _ _
  have lp := light_any pa pc (ys.map (·.x)) W (nodeRow_of hpr hpk) (by rw [List.length_map]; exact hpm.1)
  have lq := light_any qa qc (zs.map (·.x)) W (nodeRow_of hqr hqk) (by rw [List.length_map]; exact hqm.1)
  rw [List.length_map] at lp lq
  have HAT : Hid (lightB (ys.map (·.x)) = true → NdsAt W pa pc ys ∧ GoodN (ys.map (·.x)) ∧ ys.length ≤ 310) := fun h => by
    obtain ⟨g, hl⟩ := light_good h
    rw [List.length_map] at hl
    exact ⟨known_at hpr hpk hpc hpm.2 (by omega) fun y hy => (g y.x (List.mem_map_of_mem hy)).1, g, hl⟩
  have HAT2 : Hid (lightB (zs.map (·.x)) = true → NdsAt W qa qc zs ∧ GoodN (zs.map (·.x)) ∧ zs.length ≤ 310) := fun h => by
    obtain ⟨g, hl⟩ := light_good h
    rw [List.length_map] at hl
    exact ⟨known_at hqr hqk hqc hqm.2 (by omega) fun y hy => (g y.x (List.mem_map_of_mem hy)).1, g, hl⟩
  have nfp : ∀ x ∈ ys.map (·.x), x.n ≤ 9223372036854775807 := fun x hx => ((known_fit hpk) x hx).2.2
  have nfq : ∀ x ∈ zs.map (·.x), x.n ≤ 9223372036854775807 := fun x hx => ((known_fit hqk) x hx).2.2
  clear hpr hpk hpc hpm hqr hqk hqc hqm
  cases h1 : lightB (ys.map (·.x)) with
  | false =>
    rw [h1] at lp
    clear h1 lq
    go_enter Try.func7, Try.ntmps7
    go_wp2_with fail
    refine Calls.mono lp ?_
    rintro e W1 ⟨rfl, hw⟩
    subst W1
    go_wp2_with fail
    refine Calls.mono (HAL.out _) ?_
    rintro e W9 ⟨rfl, hb9⟩
    go_wp2
    go_ret
    exact ⟨rfl, HB.out.trans (hb9.mono HB.out.size)⟩
  | true =>
    obtain ⟨hP, gP, nP⟩ := HAT.out h1
    rw [h1] at lp
    cases h2 : lightB (zs.map (·.x)) with
    | false =>
      rw [h2] at lq
      clear h1 h2
      go_enter Try.func7, Try.ntmps7
      go_wp2_with fail
      refine Calls.mono lp ?_
      rintro e W1 ⟨rfl, hw⟩
      subst W1
      go_wp2_with fail
      refine Calls.mono lq ?_
      rintro e W1 ⟨rfl, hw⟩
      subst W1
      go_wp2_with fail
      refine Calls.mono (HAL.out _) ?_
      rintro e W9 ⟨rfl, hb9⟩
      go_wp2
      go_ret
      exact ⟨rfl, HB.out.trans (hb9.mono HB.out.size)⟩
    | true =>
      obtain ⟨hQ, gQ, nQ⟩ := HAT2.out h2
      rw [h2] at lq
      have HP : Hid (∀ X, Below W.heap.size W X → Pc X pa pc ys (ys.map (·.x))) := fun X hX => ⟨hP.below hX, rfl, gP, by omega⟩
      have HQ : Hid (∀ X, Below W.heap.size W X → Pc X qa qc zs (zs.map (·.x))) := fun X hX => ⟨hQ.below hX, rfl, gQ, by omega⟩
      have HIP : Hid (∀ X, Below W.heap.size W X → Calls Try.prog 15 #[.slice pa ys.length pc] X fun e W' => e = .returned (.bool (isCoreB (ys.map (·.x)))) ∧ Below X.heap.size X W') := fun X hX => by
        have := isCore_any pa pc (ys.map (·.x)) X (hP.below hX).nodes (by rw [List.length_map]; omega) gP
        rw [List.length_map] at this; exact this
      have HIQ : Hid (∀ X, Below W.heap.size W X → Calls Try.prog 15 #[.slice qa zs.length qc] X fun e W' => e = .returned (.bool (isCoreB (zs.map (·.x)))) ∧ Below X.heap.size X W') := fun X hX => by
        have := isCore_any qa qc (zs.map (·.x)) X (hQ.below hX).nodes (by rw [List.length_map]; omega) gQ
        rw [List.length_map] at this; exact this
      clear h1 h2 hP hQ gP gQ HAT HAT2
      cases h3 : isCoreB (ys.map (·.x)) with
      | false =>
        rw [h3] at HIP
        clear h3
        go_enter Try.func7, Try.ntmps7
        go_wp2_with fail
        refine Calls.mono lp ?_
        rintro e W1 ⟨rfl, hw⟩
        subst W1
        go_wp2_with fail
        refine Calls.mono lq ?_
        rintro e W1 ⟨rfl, hw⟩
        subst W1
        go_wp2_with fail
        refine Calls.mono (HIP.out _ HB.out) ?_
        rintro e W1 ⟨rfl, hb1⟩
        have HB : Hid (Below W.heap.size W W1) := HB.out.trans (hb1.mono HB.out.size)
        clear hb1
        go_wp2_with fail
        refine Calls.mono (HAL.out _) ?_
        rintro e W9 ⟨rfl, hb9⟩
        go_wp2
        go_ret
        exact ⟨rfl, HB.out.trans (hb9.mono HB.out.size)⟩
      | true =>
        have C1 := core_pos h3
        rw [List.length_map] at C1
        rw [h3] at HIP
        cases h4 : isCoreB (zs.map (·.x)) with
        | false =>
          rw [h4] at HIQ
          clear h3 h4
          go_enter Try.func7, Try.ntmps7
          go_wp2_with fail
          refine Calls.mono lp ?_
          rintro e W1 ⟨rfl, hw⟩
          subst W1
          go_wp2_with fail
          refine Calls.mono lq ?_
          rintro e W1 ⟨rfl, hw⟩
          subst W1
          go_wp2_with fail
          refine Calls.mono (HIP.out _ HB.out) ?_
          rintro e W1 ⟨rfl, hb1⟩
          have HB : Hid (Below W.heap.size W W1) := HB.out.trans (hb1.mono HB.out.size)
          clear hb1
          go_wp2_with fail
          refine Calls.mono (HIQ.out _ HB.out) ?_
          rintro e W1 ⟨rfl, hb1⟩
          have HB : Hid (Below W.heap.size W W1) := HB.out.trans (hb1.mono HB.out.size)
          clear hb1
          go_wp2_with fail
          refine Calls.mono (HAL.out _) ?_
          rintro e W9 ⟨rfl, hb9⟩
          go_wp2
          go_ret
          exact ⟨rfl, HB.out.trans (hb9.mono HB.out.size)⟩
        | true =>
          have D1 := core_pos h4
          rw [List.length_map] at D1
          rw [h4] at HIQ
          have k1 : ((ys.length : Int) == 0) = false := by rw [beq_eq_false_iff_ne]; omega
          have HCP0 : Hid (isCoreB (ys.map (·.x)) = true) := h3
          have HCP : Hid (isCoreB (ys.map (·.x)) = true) := h3
          have HCQ : Hid (isCoreB (zs.map (·.x)) = true) := h4
          have HNP : Hid (∀ x ∈ ys.map (·.x), x.n ≤ 9223372036854775807) := nfp
          have HNQ : Hid (∀ x ∈ zs.map (·.x), x.n ≤ 9223372036854775807) := nfq
          have HPL : Hid ((ys.map (·.x)).length ≤ 310 ∧ (zs.map (·.x)).length ≤ 310) := by rw [Hid, List.length_map, List.length_map]; exact ⟨nP, nQ⟩
          clear h3 h4 nfp nfq
          obtain ⟨b, off, rfl, _⟩ := (HP.out W (Below.refl _ _)).at'.row 0 C1
          obtain ⟨o0, ho0⟩ : ∃ o, o = (ys.getD 0 default).x.op := ⟨_, rfl⟩
          have HO0 : Hid (o0 = (ys.getD 0 default).x.op) := ho0
          have HC0 : Hid (∀ X, Below W.heap.size W X → X.cell? ⟨b, off, none⟩ = some (.int .i64 o0)) := fun X hX => by
            obtain ⟨b', off', e', hj⟩ := (HP.out X hX).at'.row 0 C1
            cases e'
            have := hj 0 (by omega)
            rw [ho0]
            simpa [ndC] using this
          clear ho0
          by_cases o3 : o0 = 3
          · have hl : 1 < ys.length := by
              have h3 : isB (ys.map (·.x)) 3 = true := by rw [isB_head C1, ← HO0.out, o3]; rfl
              have := (core_not HCP0.out h3).2
              rwa [List.length_map] at this
            have hl2 : (1 : Int) < ys.length := by omega
            have HC1 : Hid (∀ X, Below W.heap.size W X → X.cell? ⟨b, off + 6, none⟩ = some (.int .i64 (ys.getD 1 default).x.op)) := fun X hX => by
              obtain ⟨b', off', e', hj⟩ := (HP.out X hX).at'.row 1 hl
              cases e'
              have := hj 0 (by omega)
              simpa [ndC] using this
            have HN1 : Hid (∀ k, isB ((ys.map (·.x)).drop 1) k = ((ys.getD 1 default).x.op == k)) := fun k => isB_next hl k
            subst o3
            generalize (ys.getD 1 default).x.op = o1 at *
            by_cases a3 : o1 = 3
            · subst a3
              go_enter Try.func7, Try.ntmps7
              go_wp2_with fail
              refine Calls.mono lp ?_
              rintro e W1 ⟨rfl, hw⟩
              subst W1
              go_wp2_with fail
              refine Calls.mono lq ?_
              rintro e W1 ⟨rfl, hw⟩
              subst W1
              go_wp2_with fail
              refine Calls.mono (HIP.out _ HB.out) ?_
              rintro e W1 ⟨rfl, hb1⟩
              have HB : Hid (Below W.heap.size W W1) := HB.out.trans (hb1.mono HB.out.size)
              clear hb1
              go_wp2_with fail
              refine Calls.mono (HIQ.out _ HB.out) ?_
              rintro e W1 ⟨rfl, hb1⟩
              have HB : Hid (Below W.heap.size W W1) := HB.out.trans (hb1.mono HB.out.size)
              clear hb1
              have q0 := HC0.out _ HB.out
              have q1 := HC1.out _ HB.out
              go_wp2_with fail
              refine Calls.mono (HAL.out _) ?_
              rintro e W9 ⟨rfl, hb9⟩
              go_wp2
              go_ret
              exact ⟨rfl, HB.out.trans (hb9.mono HB.out.size)⟩
            · by_cases a0 : o1 = 0
              · subst a0
                go_enter Try.func7, Try.ntmps7
                go_wp2_with fail
                refine Calls.mono lp ?_
                rintro e W1 ⟨rfl, hw⟩
                subst W1
                go_wp2_with fail
                refine Calls.mono lq ?_
                rintro e W1 ⟨rfl, hw⟩
                subst W1
                go_wp2_with fail
                refine Calls.mono (HIP.out _ HB.out) ?_
                rintro e W1 ⟨rfl, hb1⟩
                have HB : Hid (Below W.heap.size W W1) := HB.out.trans (hb1.mono HB.out.size)
                clear hb1
                go_wp2_with fail
                refine Calls.mono (HIQ.out _ HB.out) ?_
                rintro e W1 ⟨rfl, hb1⟩
                have HB : Hid (Below W.heap.size W W1) := HB.out.trans (hb1.mono HB.out.size)
                clear hb1
                have q0 := HC0.out _ HB.out
                have q1 := HC1.out _ HB.out
                go_wp2_with fail
                refine Calls.mono (HAL.out _) ?_
                rintro e W9 ⟨rfl, hb9⟩
                go_wp2
                go_ret
                exact ⟨rfl, HB.out.trans (hb9.mono HB.out.size)⟩
              · by_cases a1 : o1 = 1
                · subst a1
                  go_enter Try.func7, Try.ntmps7
                  go_wp2_with fail
                  refine Calls.mono lp ?_
                  rintro e W1 ⟨rfl, hw⟩
                  subst W1
                  go_wp2_with fail
                  refine Calls.mono lq ?_
                  rintro e W1 ⟨rfl, hw⟩
                  subst W1
                  go_wp2_with fail
                  refine Calls.mono (HIP.out _ HB.out) ?_
                  rintro e W1 ⟨rfl, hb1⟩
                  have HB : Hid (Below W.heap.size W W1) := HB.out.trans (hb1.mono HB.out.size)
                  clear hb1
                  go_wp2_with fail
                  refine Calls.mono (HIQ.out _ HB.out) ?_
                  rintro e W1 ⟨rfl, hb1⟩
                  have HB : Hid (Below W.heap.size W W1) := HB.out.trans (hb1.mono HB.out.size)
                  clear hb1
                  have q0 := HC0.out _ HB.out
                  have q1 := HC1.out _ HB.out
                  go_wp2_with fail
                  refine Calls.mono (HAL.out _) ?_
                  rintro e W9 ⟨rfl, hb9⟩
                  go_wp2
                  go_ret
                  exact ⟨rfl, HB.out.trans (hb9.mono HB.out.size)⟩
                · have j3 : (o1 == 3) = false := by simpa using a3
                  have j0 : (o1 == 0) = false := by simpa using a0
                  have j1 : (o1 == 1) = false := by simpa using a1
                  have HPN : Hid (PlainNot (ys.map (·.x))) := fun _ => ⟨by rw [HN1.out, j3], by rw [HN1.out, j0], by rw [HN1.out, j1]⟩
                  clear a3 a0 a1
                  by_cases a5 : o1 = 5
                  · subst a5
                    generalize ys.map (·.x) = P at *
                    generalize zs.map (·.x) = Q at *
                    go_enter Try.func7, Try.ntmps7
                    go_wp2_with fail
                    refine Calls.mono lp ?_
                    rintro e W1 ⟨rfl, hw⟩
                    subst W1
                    go_wp2_with fail
                    refine Calls.mono lq ?_
                    rintro e W1 ⟨rfl, hw⟩
                    subst W1
                    go_wp2_with fail
                    refine Calls.mono (HIP.out _ HB.out) ?_
                    rintro e W1 ⟨rfl, hb1⟩
                    have HB : Hid (Below W.heap.size W W1) := HB.out.trans (hb1.mono HB.out.size)
                    clear hb1
                    go_wp2_with fail
                    refine Calls.mono (HIQ.out _ HB.out) ?_
                    rintro e W1 ⟨rfl, hb1⟩
                    have HB : Hid (Below W.heap.size W W1) := HB.out.trans (hb1.mono HB.out.size)
                    clear hb1
                    have q0 := HC0.out _ HB.out
                    have q1 := HC1.out _ HB.out
                    have AP : Hid (Pc W1 (some ⟨b, off, none⟩) pc ys P) := HP.out _ HB.out
                    have AQ : Hid (Pc W1 qa qc zs Q) := HQ.out _ HB.out
                    have HGP : Hid (GoodN P) := AP.out.good
                    have HGQ : Hid (GoodN Q) := AQ.out.good
                    clear HP HQ lp lq HIP HIQ
                    go_wp2_with fail
                    refine Calls.mono (pc_or1 AP.out) ?_
                    intro e V1 hm
                    obtain ⟨oaa, oas, oac, rfl, hpc, hbb⟩ := hm.pc (orL_good (good_1 HGP.out)) (by have h1 := orL_len [P]; have := HPL.out; simp [totN] at h1; omega)
                    have AP : Hid (Pc V1 (some ⟨b, off, none⟩) pc ys P) := AP.out.below hbb
                    have AQ : Hid (Pc V1 qa qc zs Q) := AQ.out.below hbb
                    have OA : Hid (Pc V1 oaa oac oas (orL [P])) := hpc
                    have HB : Hid (Below W.heap.size W V1) := HB.out.trans (hbb.mono HB.out.size)
                    clear hm hpc hbb
                    clear q0 q1
                    have hsm := pc_sameb OA.out AP.out
                    cases hsa : sameB (orL [P]) P with
                    | false =>
                      rw [hsa] at hsm
                      clear hsa
                      go_wp2_with fail
                      refine Calls.mono hsm ?_
                      rintro e V9 ⟨rfl, hbb⟩
                      have HB : Hid (Below W.heap.size W V9) := HB.out.trans (hbb.mono HB.out.size)
                      clear hbb hsm
                      go_wp2_with fail
                      refine Calls.mono (HAL.out _) ?_
                      rintro e W9 ⟨rfl, hb9⟩
                      go_wp2
                      go_ret
                      exact ⟨rfl, HB.out.trans (hb9.mono HB.out.size)⟩
                    | true =>
                      rw [hsa] at hsm
                      have FA : Hid (orL [P] = P) := (sameB_iff _ _).1 hsa
                      clear hsa
                      go_wp2_with fail
                      refine Calls.mono (hsm) ?_
                      rintro e V2 ⟨rfl, hbb⟩
                      have AP : Hid (Pc V2 (some ⟨b, off, none⟩) pc ys P) := AP.out.below hbb
                      have AQ : Hid (Pc V2 qa qc zs Q) := AQ.out.below hbb
                      have OA : Hid (Pc V2 oaa oac oas (orL [P])) := OA.out.below hbb
                      have HB : Hid (Below W.heap.size W V2) := HB.out.trans (hbb.mono HB.out.size)
                      clear hbb
                      clear hsm
                      clear OA
                      go_wp2_with fail
                      refine Calls.mono (pc_or1 AQ.out) ?_
                      intro e V3 hm
                      obtain ⟨oba, obs, obc, rfl, hpc, hbb⟩ := hm.pc (orL_good (good_1 HGQ.out)) (by have h1 := orL_len [Q]; have := HPL.out; simp [totN] at h1; omega)
                      have AP : Hid (Pc V3 (some ⟨b, off, none⟩) pc ys P) := AP.out.below hbb
                      have AQ : Hid (Pc V3 qa qc zs Q) := AQ.out.below hbb
                      have OB : Hid (Pc V3 oba obc obs (orL [Q])) := hpc
                      have HB : Hid (Below W.heap.size W V3) := HB.out.trans (hbb.mono HB.out.size)
                      clear hm hpc hbb
                      have hsm := pc_sameb OB.out AQ.out
                      cases hsb : sameB (orL [Q]) Q with
                      | false =>
                        rw [hsb] at hsm
                        clear hsb
                        go_wp2_with fail
                        refine Calls.mono hsm ?_
                        rintro e V9 ⟨rfl, hbb⟩
                        have HB : Hid (Below W.heap.size W V9) := HB.out.trans (hbb.mono HB.out.size)
                        clear hbb hsm
                        go_wp2_with fail
                        refine Calls.mono (HAL.out _) ?_
                        rintro e W9 ⟨rfl, hb9⟩
                        go_wp2
                        go_ret
                        exact ⟨rfl, HB.out.trans (hb9.mono HB.out.size)⟩
                      | true =>
                        rw [hsb] at hsm
                        have FB : Hid (orL [Q] = Q) := (sameB_iff _ _).1 hsb
                        clear hsb
                        go_wp2_with fail
                        refine Calls.mono (hsm) ?_
                        rintro e V4 ⟨rfl, hbb⟩
                        have AP : Hid (Pc V4 (some ⟨b, off, none⟩) pc ys P) := AP.out.below hbb
                        have AQ : Hid (Pc V4 qa qc zs Q) := AQ.out.below hbb
                        have OB : Hid (Pc V4 oba obc obs (orL [Q])) := OB.out.below hbb
                        have HB : Hid (Below W.heap.size W V4) := HB.out.trans (hbb.mono HB.out.size)
                        clear hbb
                        clear hsm
                        clear OB
                        have HAG : Hid (orL [orL [P, Q]] = orL [P, Q]) := orL_again HCP.out HCQ.out HNP.out HNQ.out FA.out FB.out
                        have HLO : Hid ((orL [P, Q]).length ≤ 1000) := by have h1 := orL_len [P, Q]; have := HPL.out; simp [totN] at h1; show _ ≤ _; omega
                        go_wp2_with fail
                        refine Calls.mono (pc_or2 AP.out AQ.out) ?_
                        intro e V5 hm
                        obtain ⟨oa, os, oc, rfl, hpc, hbb⟩ := hm.pc (orL_good (good_two HGP.out HGQ.out)) (by have := HLO.out; omega)
                        have AP : Hid (Pc V5 (some ⟨b, off, none⟩) pc ys P) := AP.out.below hbb
                        have AQ : Hid (Pc V5 qa qc zs Q) := AQ.out.below hbb
                        have O : Hid (Pc V5 oa oc os (orL [P, Q])) := hpc
                        have HB : Hid (Below W.heap.size W V5) := HB.out.trans (hbb.mono HB.out.size)
                        clear hm hpc hbb
                        have hbt : Below V5.heap.size V5 ((V5.alloc (.cells #[.int .i64 0, .int .i64 0, .int .i64 0, .int .i64 0, .slice none 0 0, .int .i64 0] 37)).alloc (.cells #[.int .i64 1, .int .i64 0, .int .i64 0, .int .i64 0, .slice none 0 0, .int .i64 0] 37)) := ((Below.refl _ _).alloc (Nat.le_refl _) _).alloc (by simp) _
                        have hsz : (V5.alloc (.cells #[.int .i64 0, .int .i64 0, .int .i64 0, .int .i64 0, .slice none 0 0, .int .i64 0] 37)).heap.size = V5.heap.size + 1 := by simp
                        have AT : Hid (Pc ((V5.alloc (.cells #[.int .i64 0, .int .i64 0, .int .i64 0, .int .i64 0, .slice none 0 0, .int .i64 0] 37)).alloc (.cells #[.int .i64 1, .int .i64 0, .int .i64 0, .int .i64 0, .slice none 0 0, .int .i64 0] 37)) (some ⟨V5.heap.size, 0, none⟩) 1 [⟨tt, none, 0⟩] [tt]) := (pc_op V5 0).below ((Below.refl _ _).alloc (Nat.le_refl _) _)
                        have af := pc_op (V5.alloc (.cells #[.int .i64 0, .int .i64 0, .int .i64 0, .int .i64 0, .slice none 0 0, .int .i64 0] 37)) 1
                        rw [hsz] at af
                        have AF : Hid (Pc ((V5.alloc (.cells #[.int .i64 0, .int .i64 0, .int .i64 0, .int .i64 0, .slice none 0 0, .int .i64 0] 37)).alloc (.cells #[.int .i64 1, .int .i64 0, .int .i64 0, .int .i64 0, .slice none 0 0, .int .i64 0] 37)) (some ⟨V5.heap.size + 1, 0, none⟩) 1 [⟨ff, none, 0⟩] [ff]) := af
                        have AP : Hid (Pc ((V5.alloc (.cells #[.int .i64 0, .int .i64 0, .int .i64 0, .int .i64 0, .slice none 0 0, .int .i64 0] 37)).alloc (.cells #[.int .i64 1, .int .i64 0, .int .i64 0, .int .i64 0, .slice none 0 0, .int .i64 0] 37)) (some ⟨b, off, none⟩) pc ys P) := AP.out.below hbt
                        have AQ : Hid (Pc ((V5.alloc (.cells #[.int .i64 0, .int .i64 0, .int .i64 0, .int .i64 0, .slice none 0 0, .int .i64 0] 37)).alloc (.cells #[.int .i64 1, .int .i64 0, .int .i64 0, .int .i64 0, .slice none 0 0, .int .i64 0] 37)) qa qc zs Q) := AQ.out.below hbt
                        have O : Hid (Pc ((V5.alloc (.cells #[.int .i64 0, .int .i64 0, .int .i64 0, .int .i64 0, .slice none 0 0, .int .i64 0] 37)).alloc (.cells #[.int .i64 1, .int .i64 0, .int .i64 0, .int .i64 0, .slice none 0 0, .int .i64 0] 37)) oa oc os (orL [P, Q])) := O.out.below hbt
                        have HB : Hid (Below W.heap.size W ((V5.alloc (.cells #[.int .i64 0, .int .i64 0, .int .i64 0, .int .i64 0, .slice none 0 0, .int .i64 0] 37)).alloc (.cells #[.int .i64 1, .int .i64 0, .int .i64 0, .int .i64 0, .slice none 0 0, .int .i64 0] 37))) := HB.out.trans (hbt.mono HB.out.size)
                        clear hbt hsz af
                        go_wp2_with fail
                        refine Calls.mono (HAL.out _) ?_
                        rintro e V6 ⟨rfl, hbb⟩
                        have AP : Hid (Pc V6 (some ⟨b, off, none⟩) pc ys P) := AP.out.below hbb
                        have AQ : Hid (Pc V6 qa qc zs Q) := AQ.out.below hbb
                        have O : Hid (Pc V6 oa oc os (orL [P, Q])) := O.out.below hbb
                        have AT : Hid (Pc V6 (some ⟨V5.heap.size, 0, none⟩) 1 [⟨tt, none, 0⟩] [tt]) := AT.out.below hbb
                        have AF : Hid (Pc V6 (some ⟨V5.heap.size + 1, 0, none⟩) 1 [⟨ff, none, 0⟩] [ff]) := AF.out.below hbb
                        have HB : Hid (Below W.heap.size W V6) := HB.out.trans (hbb.mono HB.out.size)
                        clear hbb
                        go_wp2_with fail
                        refine Calls.mono (pc_not AP.out) ?_
                        intro e V7 hm
                        obtain ⟨naa, nas, nac, rfl, hpc, hbb⟩ := hm.pc (notL_good HGP.out) (by have h1 := notL_len P; have := HPL.out; omega)
                        have AP : Hid (Pc V7 (some ⟨b, off, none⟩) pc ys P) := AP.out.below hbb
                        have AQ : Hid (Pc V7 qa qc zs Q) := AQ.out.below hbb
                        have O : Hid (Pc V7 oa oc os (orL [P, Q])) := O.out.below hbb
                        have AT : Hid (Pc V7 (some ⟨V5.heap.size, 0, none⟩) 1 [⟨tt, none, 0⟩] [tt]) := AT.out.below hbb
                        have AF : Hid (Pc V7 (some ⟨V5.heap.size + 1, 0, none⟩) 1 [⟨ff, none, 0⟩] [ff]) := AF.out.below hbb
                        have NA : Hid (Pc V7 naa nac nas (notL P)) := hpc
                        have HB : Hid (Below W.heap.size W V7) := HB.out.trans (hbb.mono HB.out.size)
                        clear hm hpc hbb
                        go_wp2_with fail
                        refine Calls.mono (pc_not NA.out) ?_
                        intro e V8 hm
                        obtain ⟨nna, nns, nnc, rfl, hpc, hbb⟩ := hm.pc (notL_good (notL_good HGP.out)) (by have h1 := notL_len P; have h2 := notL_len (notL P); have := HPL.out; omega)
                        have AP : Hid (Pc V8 (some ⟨b, off, none⟩) pc ys P) := AP.out.below hbb
                        have AQ : Hid (Pc V8 qa qc zs Q) := AQ.out.below hbb
                        have O : Hid (Pc V8 oa oc os (orL [P, Q])) := O.out.below hbb
                        have AT : Hid (Pc V8 (some ⟨V5.heap.size, 0, none⟩) 1 [⟨tt, none, 0⟩] [tt]) := AT.out.below hbb
                        have AF : Hid (Pc V8 (some ⟨V5.heap.size + 1, 0, none⟩) 1 [⟨ff, none, 0⟩] [ff]) := AF.out.below hbb
                        have NA : Hid (Pc V8 naa nac nas (notL P)) := NA.out.below hbb
                        have NN : Hid (Pc V8 nna nnc nns (notL (notL P))) := hpc
                        have HB : Hid (Below W.heap.size W V8) := HB.out.trans (hbb.mono HB.out.size)
                        clear hm hpc hbb
                        go_wp2_with fail
                        refine Calls.mono (pc_same NN.out AP.out (notL_twice HCP.out HPN.out)) ?_
                        rintro e V9 ⟨rfl, hbb⟩
                        have AP : Hid (Pc V9 (some ⟨b, off, none⟩) pc ys P) := AP.out.below hbb
                        have AQ : Hid (Pc V9 qa qc zs Q) := AQ.out.below hbb
                        have O : Hid (Pc V9 oa oc os (orL [P, Q])) := O.out.below hbb
                        have AT : Hid (Pc V9 (some ⟨V5.heap.size, 0, none⟩) 1 [⟨tt, none, 0⟩] [tt]) := AT.out.below hbb
                        have AF : Hid (Pc V9 (some ⟨V5.heap.size + 1, 0, none⟩) 1 [⟨ff, none, 0⟩] [ff]) := AF.out.below hbb
                        have NA : Hid (Pc V9 naa nac nas (notL P)) := NA.out.below hbb
                        have NN : Hid (Pc V9 nna nnc nns (notL (notL P))) := NN.out.below hbb
                        have HB : Hid (Below W.heap.size W V9) := HB.out.trans (hbb.mono HB.out.size)
                        clear hbb
                        clear NA NN
                        go_wp2_with fail
                        refine Calls.mono (pc_or1 O.out) ?_
                        intro e V10 hm
                        obtain ⟨ooa, oos, ooc, rfl, hpc, hbb⟩ := hm.pc (orL_good (good_1 O.out.good)) (by rw [HAG.out]; have := HLO.out; omega)
                        have AP : Hid (Pc V10 (some ⟨b, off, none⟩) pc ys P) := AP.out.below hbb
                        have AQ : Hid (Pc V10 qa qc zs Q) := AQ.out.below hbb
                        have O : Hid (Pc V10 oa oc os (orL [P, Q])) := O.out.below hbb
                        have AT : Hid (Pc V10 (some ⟨V5.heap.size, 0, none⟩) 1 [⟨tt, none, 0⟩] [tt]) := AT.out.below hbb
                        have AF : Hid (Pc V10 (some ⟨V5.heap.size + 1, 0, none⟩) 1 [⟨ff, none, 0⟩] [ff]) := AF.out.below hbb
                        have OO : Hid (Pc V10 ooa ooc oos (orL [orL [P, Q]])) := hpc
                        have HB : Hid (Below W.heap.size W V10) := HB.out.trans (hbb.mono HB.out.size)
                        clear hm hpc hbb
                        go_wp2_with fail
                        refine Calls.mono (pc_same OO.out O.out HAG.out) ?_
                        rintro e V11 ⟨rfl, hbb⟩
                        have AP : Hid (Pc V11 (some ⟨b, off, none⟩) pc ys P) := AP.out.below hbb
                        have AQ : Hid (Pc V11 qa qc zs Q) := AQ.out.below hbb
                        have O : Hid (Pc V11 oa oc os (orL [P, Q])) := O.out.below hbb
                        have AT : Hid (Pc V11 (some ⟨V5.heap.size, 0, none⟩) 1 [⟨tt, none, 0⟩] [tt]) := AT.out.below hbb
                        have AF : Hid (Pc V11 (some ⟨V5.heap.size + 1, 0, none⟩) 1 [⟨ff, none, 0⟩] [ff]) := AF.out.below hbb
                        have OO : Hid (Pc V11 ooa ooc oos (orL [orL [P, Q]])) := OO.out.below hbb
                        have HB : Hid (Below W.heap.size W V11) := HB.out.trans (hbb.mono HB.out.size)
                        clear hbb
                        clear OO
                        go_wp2_with fail
                        refine Calls.mono (pc_or2 O.out O.out) ?_
                        intro e V12 hm
                        obtain ⟨opa, ops, opc, rfl, hpc, hbb⟩ := hm.pc (orL_good (good_two O.out.good O.out.good)) (by rw [orL_twice, HAG.out]; have := HLO.out; omega)
                        have AP : Hid (Pc V12 (some ⟨b, off, none⟩) pc ys P) := AP.out.below hbb
                        have AQ : Hid (Pc V12 qa qc zs Q) := AQ.out.below hbb
                        have O : Hid (Pc V12 oa oc os (orL [P, Q])) := O.out.below hbb
                        have AT : Hid (Pc V12 (some ⟨V5.heap.size, 0, none⟩) 1 [⟨tt, none, 0⟩] [tt]) := AT.out.below hbb
                        have AF : Hid (Pc V12 (some ⟨V5.heap.size + 1, 0, none⟩) 1 [⟨ff, none, 0⟩] [ff]) := AF.out.below hbb
                        have OP : Hid (Pc V12 opa opc ops (orL [orL [P, Q], orL [P, Q]])) := hpc
                        have HB : Hid (Below W.heap.size W V12) := HB.out.trans (hbb.mono HB.out.size)
                        clear hm hpc hbb
                        go_wp2_with fail
                        refine Calls.mono (pc_same OP.out O.out ((orL_twice _).trans HAG.out)) ?_
                        rintro e V13 ⟨rfl, hbb⟩
                        have AP : Hid (Pc V13 (some ⟨b, off, none⟩) pc ys P) := AP.out.below hbb
                        have AQ : Hid (Pc V13 qa qc zs Q) := AQ.out.below hbb
                        have O : Hid (Pc V13 oa oc os (orL [P, Q])) := O.out.below hbb
                        have AT : Hid (Pc V13 (some ⟨V5.heap.size, 0, none⟩) 1 [⟨tt, none, 0⟩] [tt]) := AT.out.below hbb
                        have AF : Hid (Pc V13 (some ⟨V5.heap.size + 1, 0, none⟩) 1 [⟨ff, none, 0⟩] [ff]) := AF.out.below hbb
                        have OP : Hid (Pc V13 opa opc ops (orL [orL [P, Q], orL [P, Q]])) := OP.out.below hbb
                        have HB : Hid (Below W.heap.size W V13) := HB.out.trans (hbb.mono HB.out.size)
                        clear hbb
                        clear OP O
                        go_wp2_with fail
                        refine Calls.mono (pc_or2 AP.out AT.out) ?_
                        intro e V14 hm
                        obtain ⟨ota, ots, otc, rfl, hpc, hbb⟩ := hm.pc (orL_good (good_two HGP.out good_one)) (by rw [orL_tt]; simp)
                        have AP : Hid (Pc V14 (some ⟨b, off, none⟩) pc ys P) := AP.out.below hbb
                        have AQ : Hid (Pc V14 qa qc zs Q) := AQ.out.below hbb
                        have AT : Hid (Pc V14 (some ⟨V5.heap.size, 0, none⟩) 1 [⟨tt, none, 0⟩] [tt]) := AT.out.below hbb
                        have AF : Hid (Pc V14 (some ⟨V5.heap.size + 1, 0, none⟩) 1 [⟨ff, none, 0⟩] [ff]) := AF.out.below hbb
                        have OT : Hid (Pc V14 ota otc ots (orL [P, [tt]])) := hpc
                        have HB : Hid (Below W.heap.size W V14) := HB.out.trans (hbb.mono HB.out.size)
                        clear hm hpc hbb
                        have q0 := HC0.out _ HB.out
                        have q1 := HC1.out _ HB.out
                        go_wp2_with fail
                        refine Calls.mono (pc_same1 OT.out AT.out (orL_tt P)) ?_
                        rintro e V15 ⟨rfl, hbb⟩
                        have AP : Hid (Pc V15 (some ⟨b, off, none⟩) pc ys P) := AP.out.below hbb
                        have AQ : Hid (Pc V15 qa qc zs Q) := AQ.out.below hbb
                        have AT : Hid (Pc V15 (some ⟨V5.heap.size, 0, none⟩) 1 [⟨tt, none, 0⟩] [tt]) := AT.out.below hbb
                        have AF : Hid (Pc V15 (some ⟨V5.heap.size + 1, 0, none⟩) 1 [⟨ff, none, 0⟩] [ff]) := AF.out.below hbb
                        have OT : Hid (Pc V15 ota otc ots (orL [P, [tt]])) := OT.out.below hbb
                        have HB : Hid (Below W.heap.size W V15) := HB.out.trans (hbb.mono HB.out.size)
                        clear hbb q0 q1
                        have q0 := HC0.out _ HB.out
                        have q1 := HC1.out _ HB.out
                        clear OT
                        go_wp2_with fail
                        refine Calls.mono (pc_and2 AP.out AF.out) ?_
                        intro e V16 hm
                        obtain ⟨afa, afs, afc, rfl, hpc, hbb⟩ := hm.pc (andL_good (good_two HGP.out good_one)) (by rw [andL_ff]; simp)
                        have AP : Hid (Pc V16 (some ⟨b, off, none⟩) pc ys P) := AP.out.below hbb
                        have AQ : Hid (Pc V16 qa qc zs Q) := AQ.out.below hbb
                        have AT : Hid (Pc V16 (some ⟨V5.heap.size, 0, none⟩) 1 [⟨tt, none, 0⟩] [tt]) := AT.out.below hbb
                        have AF : Hid (Pc V16 (some ⟨V5.heap.size + 1, 0, none⟩) 1 [⟨ff, none, 0⟩] [ff]) := AF.out.below hbb
                        have AFF : Hid (Pc V16 afa afc afs (andL [P, [ff]])) := hpc
                        have HB : Hid (Below W.heap.size W V16) := HB.out.trans (hbb.mono HB.out.size)
                        clear hm hpc hbb
                        go_wp2_with fail
                        refine Calls.mono (pc_same1 AFF.out AF.out (andL_ff P)) ?_
                        rintro e V17 ⟨rfl, hbb⟩
                        have AP : Hid (Pc V17 (some ⟨b, off, none⟩) pc ys P) := AP.out.below hbb
                        have AQ : Hid (Pc V17 qa qc zs Q) := AQ.out.below hbb
                        have AT : Hid (Pc V17 (some ⟨V5.heap.size, 0, none⟩) 1 [⟨tt, none, 0⟩] [tt]) := AT.out.below hbb
                        have AF : Hid (Pc V17 (some ⟨V5.heap.size + 1, 0, none⟩) 1 [⟨ff, none, 0⟩] [ff]) := AF.out.below hbb
                        have AFF : Hid (Pc V17 afa afc afs (andL [P, [ff]])) := AFF.out.below hbb
                        have HB : Hid (Below W.heap.size W V17) := HB.out.trans (hbb.mono HB.out.size)
                        clear hbb
                        clear AFF
                        go_wp2_with fail
                        refine Calls.mono (pc_or0 _) ?_
                        intro e V18 hm
                        obtain ⟨oza, ozs, ozc, rfl, hpc, hbb⟩ := hm.pc (good_one) (by simp)
                        have AP : Hid (Pc V18 (some ⟨b, off, none⟩) pc ys P) := AP.out.below hbb
                        have AQ : Hid (Pc V18 qa qc zs Q) := AQ.out.below hbb
                        have AT : Hid (Pc V18 (some ⟨V5.heap.size, 0, none⟩) 1 [⟨tt, none, 0⟩] [tt]) := AT.out.below hbb
                        have AF : Hid (Pc V18 (some ⟨V5.heap.size + 1, 0, none⟩) 1 [⟨ff, none, 0⟩] [ff]) := AF.out.below hbb
                        have OZ : Hid (Pc V18 oza ozc ozs ([ff])) := hpc
                        have HB : Hid (Below W.heap.size W V18) := HB.out.trans (hbb.mono HB.out.size)
                        clear hm hpc hbb
                        go_wp2_with fail
                        refine Calls.mono (pc_same1 OZ.out AF.out rfl) ?_
                        rintro e V19 ⟨rfl, hbb⟩
                        have AP : Hid (Pc V19 (some ⟨b, off, none⟩) pc ys P) := AP.out.below hbb
                        have AQ : Hid (Pc V19 qa qc zs Q) := AQ.out.below hbb
                        have AT : Hid (Pc V19 (some ⟨V5.heap.size, 0, none⟩) 1 [⟨tt, none, 0⟩] [tt]) := AT.out.below hbb
                        have AF : Hid (Pc V19 (some ⟨V5.heap.size + 1, 0, none⟩) 1 [⟨ff, none, 0⟩] [ff]) := AF.out.below hbb
                        have OZ : Hid (Pc V19 oza ozc ozs ([ff])) := OZ.out.below hbb
                        have HB : Hid (Below W.heap.size W V19) := HB.out.trans (hbb.mono HB.out.size)
                        clear hbb
                        go_wp2_with fail
                        refine Calls.mono (pc_and0 _) ?_
                        intro e V20 hm
                        obtain ⟨aza, azs, azc, rfl, hpc, hbb⟩ := hm.pc (good_one) (by simp)
                        have AP : Hid (Pc V20 (some ⟨b, off, none⟩) pc ys P) := AP.out.below hbb
                        have AQ : Hid (Pc V20 qa qc zs Q) := AQ.out.below hbb
                        have AT : Hid (Pc V20 (some ⟨V5.heap.size, 0, none⟩) 1 [⟨tt, none, 0⟩] [tt]) := AT.out.below hbb
                        have AF : Hid (Pc V20 (some ⟨V5.heap.size + 1, 0, none⟩) 1 [⟨ff, none, 0⟩] [ff]) := AF.out.below hbb
                        have OZ : Hid (Pc V20 oza ozc ozs ([ff])) := OZ.out.below hbb
                        have AZ : Hid (Pc V20 aza azc azs ([tt])) := hpc
                        have HB : Hid (Below W.heap.size W V20) := HB.out.trans (hbb.mono HB.out.size)
                        clear hm hpc hbb
                        go_wp2_with fail
                        refine Calls.mono (pc_same1 AZ.out AT.out rfl) ?_
                        rintro e V21 ⟨rfl, hbb⟩
                        have AP : Hid (Pc V21 (some ⟨b, off, none⟩) pc ys P) := AP.out.below hbb
                        have AQ : Hid (Pc V21 qa qc zs Q) := AQ.out.below hbb
                        have AT : Hid (Pc V21 (some ⟨V5.heap.size, 0, none⟩) 1 [⟨tt, none, 0⟩] [tt]) := AT.out.below hbb
                        have AF : Hid (Pc V21 (some ⟨V5.heap.size + 1, 0, none⟩) 1 [⟨ff, none, 0⟩] [ff]) := AF.out.below hbb
                        have OZ : Hid (Pc V21 oza ozc ozs ([ff])) := OZ.out.below hbb
                        have AZ : Hid (Pc V21 aza azc azs ([tt])) := AZ.out.below hbb
                        have HB : Hid (Below W.heap.size W V21) := HB.out.trans (hbb.mono HB.out.size)
                        clear hbb
                        go_wp2
                        go_ret
                        exact ⟨rfl, HB.out⟩
                  · have j5 : (o1 == 5) = false := by simpa using a5
                    have HON : Hid (orL [ys.map (·.x), notL (ys.map (·.x))] = [tt]) := orL_not HCP0.out HPN.out (by rw [isB_head C1, ← HO0.out]; rfl) (fun _ => by rw [HN1.out, j5])
                    clear a5
                    generalize ys.map (·.x) = P at *
                    generalize zs.map (·.x) = Q at *
                    go_enter Try.func7, Try.ntmps7
                    go_wp2_with fail
                    refine Calls.mono lp ?_
                    rintro e W1 ⟨rfl, hw⟩
                    subst W1
                    go_wp2_with fail
                    refine Calls.mono lq ?_
                    rintro e W1 ⟨rfl, hw⟩
                    subst W1
                    go_wp2_with fail
                    refine Calls.mono (HIP.out _ HB.out) ?_
                    rintro e W1 ⟨rfl, hb1⟩
                    have HB : Hid (Below W.heap.size W W1) := HB.out.trans (hb1.mono HB.out.size)
                    clear hb1
                    go_wp2_with fail
                    refine Calls.mono (HIQ.out _ HB.out) ?_
                    rintro e W1 ⟨rfl, hb1⟩
                    have HB : Hid (Below W.heap.size W W1) := HB.out.trans (hb1.mono HB.out.size)
                    clear hb1
                    have q0 := HC0.out _ HB.out
                    have q1 := HC1.out _ HB.out
                    have AP : Hid (Pc W1 (some ⟨b, off, none⟩) pc ys P) := HP.out _ HB.out
                    have AQ : Hid (Pc W1 qa qc zs Q) := HQ.out _ HB.out
                    have HGP : Hid (GoodN P) := AP.out.good
                    have HGQ : Hid (GoodN Q) := AQ.out.good
                    clear HP HQ lp lq HIP HIQ
                    go_wp2_with fail
                    refine Calls.mono (pc_or1 AP.out) ?_
                    intro e V1 hm
                    obtain ⟨oaa, oas, oac, rfl, hpc, hbb⟩ := hm.pc (orL_good (good_1 HGP.out)) (by have h1 := orL_len [P]; have := HPL.out; simp [totN] at h1; omega)
                    have AP : Hid (Pc V1 (some ⟨b, off, none⟩) pc ys P) := AP.out.below hbb
                    have AQ : Hid (Pc V1 qa qc zs Q) := AQ.out.below hbb
                    have OA : Hid (Pc V1 oaa oac oas (orL [P])) := hpc
                    have HB : Hid (Below W.heap.size W V1) := HB.out.trans (hbb.mono HB.out.size)
                    clear hm hpc hbb
                    clear q0 q1
                    have hsm := pc_sameb OA.out AP.out
                    cases hsa : sameB (orL [P]) P with
                    | false =>
                      rw [hsa] at hsm
                      clear hsa
                      go_wp2_with fail
                      refine Calls.mono hsm ?_
                      rintro e V9 ⟨rfl, hbb⟩
                      have HB : Hid (Below W.heap.size W V9) := HB.out.trans (hbb.mono HB.out.size)
                      clear hbb hsm
                      go_wp2_with fail
                      refine Calls.mono (HAL.out _) ?_
                      rintro e W9 ⟨rfl, hb9⟩
                      go_wp2
                      go_ret
                      exact ⟨rfl, HB.out.trans (hb9.mono HB.out.size)⟩
                    | true =>
                      rw [hsa] at hsm
                      have FA : Hid (orL [P] = P) := (sameB_iff _ _).1 hsa
                      clear hsa
                      go_wp2_with fail
                      refine Calls.mono (hsm) ?_
                      rintro e V2 ⟨rfl, hbb⟩
                      have AP : Hid (Pc V2 (some ⟨b, off, none⟩) pc ys P) := AP.out.below hbb
                      have AQ : Hid (Pc V2 qa qc zs Q) := AQ.out.below hbb
                      have OA : Hid (Pc V2 oaa oac oas (orL [P])) := OA.out.below hbb
                      have HB : Hid (Below W.heap.size W V2) := HB.out.trans (hbb.mono HB.out.size)
                      clear hbb
                      clear hsm
                      clear OA
                      go_wp2_with fail
                      refine Calls.mono (pc_or1 AQ.out) ?_
                      intro e V3 hm
                      obtain ⟨oba, obs, obc, rfl, hpc, hbb⟩ := hm.pc (orL_good (good_1 HGQ.out)) (by have h1 := orL_len [Q]; have := HPL.out; simp [totN] at h1; omega)
                      have AP : Hid (Pc V3 (some ⟨b, off, none⟩) pc ys P) := AP.out.below hbb
                      have AQ : Hid (Pc V3 qa qc zs Q) := AQ.out.below hbb
                      have OB : Hid (Pc V3 oba obc obs (orL [Q])) := hpc
                      have HB : Hid (Below W.heap.size W V3) := HB.out.trans (hbb.mono HB.out.size)
                      clear hm hpc hbb
                      have hsm := pc_sameb OB.out AQ.out
                      cases hsb : sameB (orL [Q]) Q with
                      | false =>
                        rw [hsb] at hsm
                        clear hsb
                        go_wp2_with fail
                        refine Calls.mono hsm ?_
                        rintro e V9 ⟨rfl, hbb⟩
                        have HB : Hid (Below W.heap.size W V9) := HB.out.trans (hbb.mono HB.out.size)
                        clear hbb hsm
                        go_wp2_with fail
                        refine Calls.mono (HAL.out _) ?_
                        rintro e W9 ⟨rfl, hb9⟩
                        go_wp2
                        go_ret
                        exact ⟨rfl, HB.out.trans (hb9.mono HB.out.size)⟩
                      | true =>
                        rw [hsb] at hsm
                        have FB : Hid (orL [Q] = Q) := (sameB_iff _ _).1 hsb
                        clear hsb
                        go_wp2_with fail
                        refine Calls.mono (hsm) ?_
                        rintro e V4 ⟨rfl, hbb⟩
                        have AP : Hid (Pc V4 (some ⟨b, off, none⟩) pc ys P) := AP.out.below hbb
                        have AQ : Hid (Pc V4 qa qc zs Q) := AQ.out.below hbb
                        have OB : Hid (Pc V4 oba obc obs (orL [Q])) := OB.out.below hbb
                        have HB : Hid (Below W.heap.size W V4) := HB.out.trans (hbb.mono HB.out.size)
                        clear hbb
                        clear hsm
                        clear OB
                        have HAG : Hid (orL [orL [P, Q]] = orL [P, Q]) := orL_again HCP.out HCQ.out HNP.out HNQ.out FA.out FB.out
                        have HLO : Hid ((orL [P, Q]).length ≤ 1000) := by have h1 := orL_len [P, Q]; have := HPL.out; simp [totN] at h1; show _ ≤ _; omega
                        go_wp2_with fail
                        refine Calls.mono (pc_or2 AP.out AQ.out) ?_
                        intro e V5 hm
                        obtain ⟨oa, os, oc, rfl, hpc, hbb⟩ := hm.pc (orL_good (good_two HGP.out HGQ.out)) (by have := HLO.out; omega)
                        have AP : Hid (Pc V5 (some ⟨b, off, none⟩) pc ys P) := AP.out.below hbb
                        have AQ : Hid (Pc V5 qa qc zs Q) := AQ.out.below hbb
                        have O : Hid (Pc V5 oa oc os (orL [P, Q])) := hpc
                        have HB : Hid (Below W.heap.size W V5) := HB.out.trans (hbb.mono HB.out.size)
                        clear hm hpc hbb
                        have hbt : Below V5.heap.size V5 ((V5.alloc (.cells #[.int .i64 0, .int .i64 0, .int .i64 0, .int .i64 0, .slice none 0 0, .int .i64 0] 37)).alloc (.cells #[.int .i64 1, .int .i64 0, .int .i64 0, .int .i64 0, .slice none 0 0, .int .i64 0] 37)) := ((Below.refl _ _).alloc (Nat.le_refl _) _).alloc (by simp) _
                        have hsz : (V5.alloc (.cells #[.int .i64 0, .int .i64 0, .int .i64 0, .int .i64 0, .slice none 0 0, .int .i64 0] 37)).heap.size = V5.heap.size + 1 := by simp
                        have AT : Hid (Pc ((V5.alloc (.cells #[.int .i64 0, .int .i64 0, .int .i64 0, .int .i64 0, .slice none 0 0, .int .i64 0] 37)).alloc (.cells #[.int .i64 1, .int .i64 0, .int .i64 0, .int .i64 0, .slice none 0 0, .int .i64 0] 37)) (some ⟨V5.heap.size, 0, none⟩) 1 [⟨tt, none, 0⟩] [tt]) := (pc_op V5 0).below ((Below.refl _ _).alloc (Nat.le_refl _) _)
                        have af := pc_op (V5.alloc (.cells #[.int .i64 0, .int .i64 0, .int .i64 0, .int .i64 0, .slice none 0 0, .int .i64 0] 37)) 1
                        rw [hsz] at af
                        have AF : Hid (Pc ((V5.alloc (.cells #[.int .i64 0, .int .i64 0, .int .i64 0, .int .i64 0, .slice none 0 0, .int .i64 0] 37)).alloc (.cells #[.int .i64 1, .int .i64 0, .int .i64 0, .int .i64 0, .slice none 0 0, .int .i64 0] 37)) (some ⟨V5.heap.size + 1, 0, none⟩) 1 [⟨ff, none, 0⟩] [ff]) := af
                        have AP : Hid (Pc ((V5.alloc (.cells #[.int .i64 0, .int .i64 0, .int .i64 0, .int .i64 0, .slice none 0 0, .int .i64 0] 37)).alloc (.cells #[.int .i64 1, .int .i64 0, .int .i64 0, .int .i64 0, .slice none 0 0, .int .i64 0] 37)) (some ⟨b, off, none⟩) pc ys P) := AP.out.below hbt
                        have AQ : Hid (Pc ((V5.alloc (.cells #[.int .i64 0, .int .i64 0, .int .i64 0, .int .i64 0, .slice none 0 0, .int .i64 0] 37)).alloc (.cells #[.int .i64 1, .int .i64 0, .int .i64 0, .int .i64 0, .slice none 0 0, .int .i64 0] 37)) qa qc zs Q) := AQ.out.below hbt
                        have O : Hid (Pc ((V5.alloc (.cells #[.int .i64 0, .int .i64 0, .int .i64 0, .int .i64 0, .slice none 0 0, .int .i64 0] 37)).alloc (.cells #[.int .i64 1, .int .i64 0, .int .i64 0, .int .i64 0, .slice none 0 0, .int .i64 0] 37)) oa oc os (orL [P, Q])) := O.out.below hbt
                        have HB : Hid (Below W.heap.size W ((V5.alloc (.cells #[.int .i64 0, .int .i64 0, .int .i64 0, .int .i64 0, .slice none 0 0, .int .i64 0] 37)).alloc (.cells #[.int .i64 1, .int .i64 0, .int .i64 0, .int .i64 0, .slice none 0 0, .int .i64 0] 37))) := HB.out.trans (hbt.mono HB.out.size)
                        clear hbt hsz af
                        go_wp2_with fail
                        refine Calls.mono (HAL.out _) ?_
                        rintro e V6 ⟨rfl, hbb⟩
                        have AP : Hid (Pc V6 (some ⟨b, off, none⟩) pc ys P) := AP.out.below hbb
                        have AQ : Hid (Pc V6 qa qc zs Q) := AQ.out.below hbb
                        have O : Hid (Pc V6 oa oc os (orL [P, Q])) := O.out.below hbb
                        have AT : Hid (Pc V6 (some ⟨V5.heap.size, 0, none⟩) 1 [⟨tt, none, 0⟩] [tt]) := AT.out.below hbb
                        have AF : Hid (Pc V6 (some ⟨V5.heap.size + 1, 0, none⟩) 1 [⟨ff, none, 0⟩] [ff]) := AF.out.below hbb
                        have HB : Hid (Below W.heap.size W V6) := HB.out.trans (hbb.mono HB.out.size)
                        clear hbb
                        go_wp2_with fail
                        refine Calls.mono (pc_not AP.out) ?_
                        intro e V7 hm
                        obtain ⟨naa, nas, nac, rfl, hpc, hbb⟩ := hm.pc (notL_good HGP.out) (by have h1 := notL_len P; have := HPL.out; omega)
                        have AP : Hid (Pc V7 (some ⟨b, off, none⟩) pc ys P) := AP.out.below hbb
                        have AQ : Hid (Pc V7 qa qc zs Q) := AQ.out.below hbb
                        have O : Hid (Pc V7 oa oc os (orL [P, Q])) := O.out.below hbb
                        have AT : Hid (Pc V7 (some ⟨V5.heap.size, 0, none⟩) 1 [⟨tt, none, 0⟩] [tt]) := AT.out.below hbb
                        have AF : Hid (Pc V7 (some ⟨V5.heap.size + 1, 0, none⟩) 1 [⟨ff, none, 0⟩] [ff]) := AF.out.below hbb
                        have NA : Hid (Pc V7 naa nac nas (notL P)) := hpc
                        have HB : Hid (Below W.heap.size W V7) := HB.out.trans (hbb.mono HB.out.size)
                        clear hm hpc hbb
                        go_wp2_with fail
                        refine Calls.mono (pc_not NA.out) ?_
                        intro e V8 hm
                        obtain ⟨nna, nns, nnc, rfl, hpc, hbb⟩ := hm.pc (notL_good (notL_good HGP.out)) (by have h1 := notL_len P; have h2 := notL_len (notL P); have := HPL.out; omega)
                        have AP : Hid (Pc V8 (some ⟨b, off, none⟩) pc ys P) := AP.out.below hbb
                        have AQ : Hid (Pc V8 qa qc zs Q) := AQ.out.below hbb
                        have O : Hid (Pc V8 oa oc os (orL [P, Q])) := O.out.below hbb
                        have AT : Hid (Pc V8 (some ⟨V5.heap.size, 0, none⟩) 1 [⟨tt, none, 0⟩] [tt]) := AT.out.below hbb
                        have AF : Hid (Pc V8 (some ⟨V5.heap.size + 1, 0, none⟩) 1 [⟨ff, none, 0⟩] [ff]) := AF.out.below hbb
                        have NA : Hid (Pc V8 naa nac nas (notL P)) := NA.out.below hbb
                        have NN : Hid (Pc V8 nna nnc nns (notL (notL P))) := hpc
                        have HB : Hid (Below W.heap.size W V8) := HB.out.trans (hbb.mono HB.out.size)
                        clear hm hpc hbb
                        go_wp2_with fail
                        refine Calls.mono (pc_same NN.out AP.out (notL_twice HCP.out HPN.out)) ?_
                        rintro e V9 ⟨rfl, hbb⟩
                        have AP : Hid (Pc V9 (some ⟨b, off, none⟩) pc ys P) := AP.out.below hbb
                        have AQ : Hid (Pc V9 qa qc zs Q) := AQ.out.below hbb
                        have O : Hid (Pc V9 oa oc os (orL [P, Q])) := O.out.below hbb
                        have AT : Hid (Pc V9 (some ⟨V5.heap.size, 0, none⟩) 1 [⟨tt, none, 0⟩] [tt]) := AT.out.below hbb
                        have AF : Hid (Pc V9 (some ⟨V5.heap.size + 1, 0, none⟩) 1 [⟨ff, none, 0⟩] [ff]) := AF.out.below hbb
                        have NA : Hid (Pc V9 naa nac nas (notL P)) := NA.out.below hbb
                        have NN : Hid (Pc V9 nna nnc nns (notL (notL P))) := NN.out.below hbb
                        have HB : Hid (Below W.heap.size W V9) := HB.out.trans (hbb.mono HB.out.size)
                        clear hbb
                        clear NA NN
                        go_wp2_with fail
                        refine Calls.mono (pc_or1 O.out) ?_
                        intro e V10 hm
                        obtain ⟨ooa, oos, ooc, rfl, hpc, hbb⟩ := hm.pc (orL_good (good_1 O.out.good)) (by rw [HAG.out]; have := HLO.out; omega)
                        have AP : Hid (Pc V10 (some ⟨b, off, none⟩) pc ys P) := AP.out.below hbb
                        have AQ : Hid (Pc V10 qa qc zs Q) := AQ.out.below hbb
                        have O : Hid (Pc V10 oa oc os (orL [P, Q])) := O.out.below hbb
                        have AT : Hid (Pc V10 (some ⟨V5.heap.size, 0, none⟩) 1 [⟨tt, none, 0⟩] [tt]) := AT.out.below hbb
                        have AF : Hid (Pc V10 (some ⟨V5.heap.size + 1, 0, none⟩) 1 [⟨ff, none, 0⟩] [ff]) := AF.out.below hbb
                        have OO : Hid (Pc V10 ooa ooc oos (orL [orL [P, Q]])) := hpc
                        have HB : Hid (Below W.heap.size W V10) := HB.out.trans (hbb.mono HB.out.size)
                        clear hm hpc hbb
                        go_wp2_with fail
                        refine Calls.mono (pc_same OO.out O.out HAG.out) ?_
                        rintro e V11 ⟨rfl, hbb⟩
                        have AP : Hid (Pc V11 (some ⟨b, off, none⟩) pc ys P) := AP.out.below hbb
                        have AQ : Hid (Pc V11 qa qc zs Q) := AQ.out.below hbb
                        have O : Hid (Pc V11 oa oc os (orL [P, Q])) := O.out.below hbb
                        have AT : Hid (Pc V11 (some ⟨V5.heap.size, 0, none⟩) 1 [⟨tt, none, 0⟩] [tt]) := AT.out.below hbb
                        have AF : Hid (Pc V11 (some ⟨V5.heap.size + 1, 0, none⟩) 1 [⟨ff, none, 0⟩] [ff]) := AF.out.below hbb
                        have OO : Hid (Pc V11 ooa ooc oos (orL [orL [P, Q]])) := OO.out.below hbb
                        have HB : Hid (Below W.heap.size W V11) := HB.out.trans (hbb.mono HB.out.size)
                        clear hbb
                        clear OO
                        go_wp2_with fail
                        refine Calls.mono (pc_or2 O.out O.out) ?_
                        intro e V12 hm
                        obtain ⟨opa, ops, opc, rfl, hpc, hbb⟩ := hm.pc (orL_good (good_two O.out.good O.out.good)) (by rw [orL_twice, HAG.out]; have := HLO.out; omega)
                        have AP : Hid (Pc V12 (some ⟨b, off, none⟩) pc ys P) := AP.out.below hbb
                        have AQ : Hid (Pc V12 qa qc zs Q) := AQ.out.below hbb
                        have O : Hid (Pc V12 oa oc os (orL [P, Q])) := O.out.below hbb
                        have AT : Hid (Pc V12 (some ⟨V5.heap.size, 0, none⟩) 1 [⟨tt, none, 0⟩] [tt]) := AT.out.below hbb
                        have AF : Hid (Pc V12 (some ⟨V5.heap.size + 1, 0, none⟩) 1 [⟨ff, none, 0⟩] [ff]) := AF.out.below hbb
                        have OP : Hid (Pc V12 opa opc ops (orL [orL [P, Q], orL [P, Q]])) := hpc
                        have HB : Hid (Below W.heap.size W V12) := HB.out.trans (hbb.mono HB.out.size)
                        clear hm hpc hbb
                        go_wp2_with fail
                        refine Calls.mono (pc_same OP.out O.out ((orL_twice _).trans HAG.out)) ?_
                        rintro e V13 ⟨rfl, hbb⟩
                        have AP : Hid (Pc V13 (some ⟨b, off, none⟩) pc ys P) := AP.out.below hbb
                        have AQ : Hid (Pc V13 qa qc zs Q) := AQ.out.below hbb
                        have O : Hid (Pc V13 oa oc os (orL [P, Q])) := O.out.below hbb
                        have AT : Hid (Pc V13 (some ⟨V5.heap.size, 0, none⟩) 1 [⟨tt, none, 0⟩] [tt]) := AT.out.below hbb
                        have AF : Hid (Pc V13 (some ⟨V5.heap.size + 1, 0, none⟩) 1 [⟨ff, none, 0⟩] [ff]) := AF.out.below hbb
                        have OP : Hid (Pc V13 opa opc ops (orL [orL [P, Q], orL [P, Q]])) := OP.out.below hbb
                        have HB : Hid (Below W.heap.size W V13) := HB.out.trans (hbb.mono HB.out.size)
                        clear hbb
                        clear OP O
                        go_wp2_with fail
                        refine Calls.mono (pc_or2 AP.out AT.out) ?_
                        intro e V14 hm
                        obtain ⟨ota, ots, otc, rfl, hpc, hbb⟩ := hm.pc (orL_good (good_two HGP.out good_one)) (by rw [orL_tt]; simp)
                        have AP : Hid (Pc V14 (some ⟨b, off, none⟩) pc ys P) := AP.out.below hbb
                        have AQ : Hid (Pc V14 qa qc zs Q) := AQ.out.below hbb
                        have AT : Hid (Pc V14 (some ⟨V5.heap.size, 0, none⟩) 1 [⟨tt, none, 0⟩] [tt]) := AT.out.below hbb
                        have AF : Hid (Pc V14 (some ⟨V5.heap.size + 1, 0, none⟩) 1 [⟨ff, none, 0⟩] [ff]) := AF.out.below hbb
                        have OT : Hid (Pc V14 ota otc ots (orL [P, [tt]])) := hpc
                        have HB : Hid (Below W.heap.size W V14) := HB.out.trans (hbb.mono HB.out.size)
                        clear hm hpc hbb
                        have q0 := HC0.out _ HB.out
                        have q1 := HC1.out _ HB.out
                        go_wp2_with fail
                        refine Calls.mono (pc_same1 OT.out AT.out (orL_tt P)) ?_
                        rintro e V15 ⟨rfl, hbb⟩
                        have AP : Hid (Pc V15 (some ⟨b, off, none⟩) pc ys P) := AP.out.below hbb
                        have AQ : Hid (Pc V15 qa qc zs Q) := AQ.out.below hbb
                        have AT : Hid (Pc V15 (some ⟨V5.heap.size, 0, none⟩) 1 [⟨tt, none, 0⟩] [tt]) := AT.out.below hbb
                        have AF : Hid (Pc V15 (some ⟨V5.heap.size + 1, 0, none⟩) 1 [⟨ff, none, 0⟩] [ff]) := AF.out.below hbb
                        have OT : Hid (Pc V15 ota otc ots (orL [P, [tt]])) := OT.out.below hbb
                        have HB : Hid (Below W.heap.size W V15) := HB.out.trans (hbb.mono HB.out.size)
                        clear hbb q0 q1
                        have q0 := HC0.out _ HB.out
                        have q1 := HC1.out _ HB.out
                        clear OT
                        go_wp2_with fail
                        refine Calls.mono (pc_not AP.out) ?_
                        intro e V16 hm
                        obtain ⟨nba, nbs, nbc, rfl, hpc, hbb⟩ := hm.pc (notL_good HGP.out) (by have h1 := notL_len P; have := HPL.out; omega)
                        have AP : Hid (Pc V16 (some ⟨b, off, none⟩) pc ys P) := AP.out.below hbb
                        have AQ : Hid (Pc V16 qa qc zs Q) := AQ.out.below hbb
                        have AT : Hid (Pc V16 (some ⟨V5.heap.size, 0, none⟩) 1 [⟨tt, none, 0⟩] [tt]) := AT.out.below hbb
                        have AF : Hid (Pc V16 (some ⟨V5.heap.size + 1, 0, none⟩) 1 [⟨ff, none, 0⟩] [ff]) := AF.out.below hbb
                        have NB : Hid (Pc V16 nba nbc nbs (notL P)) := hpc
                        have HB : Hid (Below W.heap.size W V16) := HB.out.trans (hbb.mono HB.out.size)
                        clear hm hpc hbb
                        clear q0 q1
                        go_wp2_with fail
                        refine Calls.mono (pc_or2 AP.out NB.out) ?_
                        intro e V17 hm
                        obtain ⟨pna, pns, pnc, rfl, hpc, hbb⟩ := hm.pc (orL_good (good_two HGP.out (notL_good HGP.out))) (by rw [HON.out]; simp)
                        have AP : Hid (Pc V17 (some ⟨b, off, none⟩) pc ys P) := AP.out.below hbb
                        have AQ : Hid (Pc V17 qa qc zs Q) := AQ.out.below hbb
                        have AT : Hid (Pc V17 (some ⟨V5.heap.size, 0, none⟩) 1 [⟨tt, none, 0⟩] [tt]) := AT.out.below hbb
                        have AF : Hid (Pc V17 (some ⟨V5.heap.size + 1, 0, none⟩) 1 [⟨ff, none, 0⟩] [ff]) := AF.out.below hbb
                        have NB : Hid (Pc V17 nba nbc nbs (notL P)) := NB.out.below hbb
                        have PN : Hid (Pc V17 pna pnc pns (orL [P, notL P])) := hpc
                        have HB : Hid (Below W.heap.size W V17) := HB.out.trans (hbb.mono HB.out.size)
                        clear hm hpc hbb
                        go_wp2_with fail
                        refine Calls.mono (pc_same1 PN.out AT.out HON.out) ?_
                        rintro e V18 ⟨rfl, hbb⟩
                        have AP : Hid (Pc V18 (some ⟨b, off, none⟩) pc ys P) := AP.out.below hbb
                        have AQ : Hid (Pc V18 qa qc zs Q) := AQ.out.below hbb
                        have AT : Hid (Pc V18 (some ⟨V5.heap.size, 0, none⟩) 1 [⟨tt, none, 0⟩] [tt]) := AT.out.below hbb
                        have AF : Hid (Pc V18 (some ⟨V5.heap.size + 1, 0, none⟩) 1 [⟨ff, none, 0⟩] [ff]) := AF.out.below hbb
                        have NB : Hid (Pc V18 nba nbc nbs (notL P)) := NB.out.below hbb
                        have PN : Hid (Pc V18 pna pnc pns (orL [P, notL P])) := PN.out.below hbb
                        have HB : Hid (Below W.heap.size W V18) := HB.out.trans (hbb.mono HB.out.size)
                        clear hbb
                        clear NB PN
                        go_wp2_with fail
                        refine Calls.mono (pc_and2 AP.out AF.out) ?_
                        intro e V19 hm
                        obtain ⟨afa, afs, afc, rfl, hpc, hbb⟩ := hm.pc (andL_good (good_two HGP.out good_one)) (by rw [andL_ff]; simp)
                        have AP : Hid (Pc V19 (some ⟨b, off, none⟩) pc ys P) := AP.out.below hbb
                        have AQ : Hid (Pc V19 qa qc zs Q) := AQ.out.below hbb
                        have AT : Hid (Pc V19 (some ⟨V5.heap.size, 0, none⟩) 1 [⟨tt, none, 0⟩] [tt]) := AT.out.below hbb
                        have AF : Hid (Pc V19 (some ⟨V5.heap.size + 1, 0, none⟩) 1 [⟨ff, none, 0⟩] [ff]) := AF.out.below hbb
                        have AFF : Hid (Pc V19 afa afc afs (andL [P, [ff]])) := hpc
                        have HB : Hid (Below W.heap.size W V19) := HB.out.trans (hbb.mono HB.out.size)
                        clear hm hpc hbb
                        go_wp2_with fail
                        refine Calls.mono (pc_same1 AFF.out AF.out (andL_ff P)) ?_
                        rintro e V20 ⟨rfl, hbb⟩
                        have AP : Hid (Pc V20 (some ⟨b, off, none⟩) pc ys P) := AP.out.below hbb
                        have AQ : Hid (Pc V20 qa qc zs Q) := AQ.out.below hbb
                        have AT : Hid (Pc V20 (some ⟨V5.heap.size, 0, none⟩) 1 [⟨tt, none, 0⟩] [tt]) := AT.out.below hbb
                        have AF : Hid (Pc V20 (some ⟨V5.heap.size + 1, 0, none⟩) 1 [⟨ff, none, 0⟩] [ff]) := AF.out.below hbb
                        have AFF : Hid (Pc V20 afa afc afs (andL [P, [ff]])) := AFF.out.below hbb
                        have HB : Hid (Below W.heap.size W V20) := HB.out.trans (hbb.mono HB.out.size)
                        clear hbb
                        clear AFF
                        go_wp2_with fail
                        refine Calls.mono (pc_or0 _) ?_
                        intro e V21 hm
                        obtain ⟨oza, ozs, ozc, rfl, hpc, hbb⟩ := hm.pc (good_one) (by simp)
                        have AP : Hid (Pc V21 (some ⟨b, off, none⟩) pc ys P) := AP.out.below hbb
                        have AQ : Hid (Pc V21 qa qc zs Q) := AQ.out.below hbb
                        have AT : Hid (Pc V21 (some ⟨V5.heap.size, 0, none⟩) 1 [⟨tt, none, 0⟩] [tt]) := AT.out.below hbb
                        have AF : Hid (Pc V21 (some ⟨V5.heap.size + 1, 0, none⟩) 1 [⟨ff, none, 0⟩] [ff]) := AF.out.below hbb
                        have OZ : Hid (Pc V21 oza ozc ozs ([ff])) := hpc
                        have HB : Hid (Below W.heap.size W V21) := HB.out.trans (hbb.mono HB.out.size)
                        clear hm hpc hbb
                        go_wp2_with fail
                        refine Calls.mono (pc_same1 OZ.out AF.out rfl) ?_
                        rintro e V22 ⟨rfl, hbb⟩
                        have AP : Hid (Pc V22 (some ⟨b, off, none⟩) pc ys P) := AP.out.below hbb
                        have AQ : Hid (Pc V22 qa qc zs Q) := AQ.out.below hbb
                        have AT : Hid (Pc V22 (some ⟨V5.heap.size, 0, none⟩) 1 [⟨tt, none, 0⟩] [tt]) := AT.out.below hbb
                        have AF : Hid (Pc V22 (some ⟨V5.heap.size + 1, 0, none⟩) 1 [⟨ff, none, 0⟩] [ff]) := AF.out.below hbb
                        have OZ : Hid (Pc V22 oza ozc ozs ([ff])) := OZ.out.below hbb
                        have HB : Hid (Below W.heap.size W V22) := HB.out.trans (hbb.mono HB.out.size)
                        clear hbb
                        go_wp2_with fail
                        refine Calls.mono (pc_and0 _) ?_
                        intro e V23 hm
                        obtain ⟨aza, azs, azc, rfl, hpc, hbb⟩ := hm.pc (good_one) (by simp)
                        have AP : Hid (Pc V23 (some ⟨b, off, none⟩) pc ys P) := AP.out.below hbb
                        have AQ : Hid (Pc V23 qa qc zs Q) := AQ.out.below hbb
                        have AT : Hid (Pc V23 (some ⟨V5.heap.size, 0, none⟩) 1 [⟨tt, none, 0⟩] [tt]) := AT.out.below hbb
                        have AF : Hid (Pc V23 (some ⟨V5.heap.size + 1, 0, none⟩) 1 [⟨ff, none, 0⟩] [ff]) := AF.out.below hbb
                        have OZ : Hid (Pc V23 oza ozc ozs ([ff])) := OZ.out.below hbb
                        have AZ : Hid (Pc V23 aza azc azs ([tt])) := hpc
                        have HB : Hid (Below W.heap.size W V23) := HB.out.trans (hbb.mono HB.out.size)
                        clear hm hpc hbb
                        go_wp2_with fail
                        refine Calls.mono (pc_same1 AZ.out AT.out rfl) ?_
                        rintro e V24 ⟨rfl, hbb⟩
                        have AP : Hid (Pc V24 (some ⟨b, off, none⟩) pc ys P) := AP.out.below hbb
                        have AQ : Hid (Pc V24 qa qc zs Q) := AQ.out.below hbb
                        have AT : Hid (Pc V24 (some ⟨V5.heap.size, 0, none⟩) 1 [⟨tt, none, 0⟩] [tt]) := AT.out.below hbb
                        have AF : Hid (Pc V24 (some ⟨V5.heap.size + 1, 0, none⟩) 1 [⟨ff, none, 0⟩] [ff]) := AF.out.below hbb
                        have OZ : Hid (Pc V24 oza ozc ozs ([ff])) := OZ.out.below hbb
                        have AZ : Hid (Pc V24 aza azc azs ([tt])) := AZ.out.below hbb
                        have HB : Hid (Below W.heap.size W V24) := HB.out.trans (hbb.mono HB.out.size)
                        clear hbb
                        go_wp2
                        go_ret
                        exact ⟨rfl, HB.out⟩
          · have i3 : (o0 == 3) = false := by simpa using o3
            have HPN : Hid (PlainNot (ys.map (·.x))) := fun q => by rw [isB_head C1, ← HO0.out, i3] at q; cases q
            clear o3
            by_cases o5 : o0 = 5
            · have i5 : (o0 == 5) = true := by simpa using o5
              clear o5
              generalize ys.map (·.x) = P at *
              generalize zs.map (·.x) = Q at *
              go_enter Try.func7, Try.ntmps7
              go_wp2_with fail
              refine Calls.mono lp ?_
              rintro e W1 ⟨rfl, hw⟩
              subst W1
              go_wp2_with fail
              refine Calls.mono lq ?_
              rintro e W1 ⟨rfl, hw⟩
              subst W1
              go_wp2_with fail
              refine Calls.mono (HIP.out _ HB.out) ?_
              rintro e W1 ⟨rfl, hb1⟩
              have HB : Hid (Below W.heap.size W W1) := HB.out.trans (hb1.mono HB.out.size)
              clear hb1
              go_wp2_with fail
              refine Calls.mono (HIQ.out _ HB.out) ?_
              rintro e W1 ⟨rfl, hb1⟩
              have HB : Hid (Below W.heap.size W W1) := HB.out.trans (hb1.mono HB.out.size)
              clear hb1
              have q0 := HC0.out _ HB.out
              have AP : Hid (Pc W1 (some ⟨b, off, none⟩) pc ys P) := HP.out _ HB.out
              have AQ : Hid (Pc W1 qa qc zs Q) := HQ.out _ HB.out
              have HGP : Hid (GoodN P) := AP.out.good
              have HGQ : Hid (GoodN Q) := AQ.out.good
              clear HP HQ lp lq HIP HIQ
              go_wp2_with fail
              refine Calls.mono (pc_or1 AP.out) ?_
              intro e V1 hm
              obtain ⟨oaa, oas, oac, rfl, hpc, hbb⟩ := hm.pc (orL_good (good_1 HGP.out)) (by have h1 := orL_len [P]; have := HPL.out; simp [totN] at h1; omega)
              have AP : Hid (Pc V1 (some ⟨b, off, none⟩) pc ys P) := AP.out.below hbb
              have AQ : Hid (Pc V1 qa qc zs Q) := AQ.out.below hbb
              have OA : Hid (Pc V1 oaa oac oas (orL [P])) := hpc
              have HB : Hid (Below W.heap.size W V1) := HB.out.trans (hbb.mono HB.out.size)
              clear hm hpc hbb
              clear q0
              have hsm := pc_sameb OA.out AP.out
              cases hsa : sameB (orL [P]) P with
              | false =>
                rw [hsa] at hsm
                clear hsa
                go_wp2_with fail
                refine Calls.mono hsm ?_
                rintro e V9 ⟨rfl, hbb⟩
                have HB : Hid (Below W.heap.size W V9) := HB.out.trans (hbb.mono HB.out.size)
                clear hbb hsm
                go_wp2_with fail
                refine Calls.mono (HAL.out _) ?_
                rintro e W9 ⟨rfl, hb9⟩
                go_wp2
                go_ret
                exact ⟨rfl, HB.out.trans (hb9.mono HB.out.size)⟩
              | true =>
                rw [hsa] at hsm
                have FA : Hid (orL [P] = P) := (sameB_iff _ _).1 hsa
                clear hsa
                go_wp2_with fail
                refine Calls.mono (hsm) ?_
                rintro e V2 ⟨rfl, hbb⟩
                have AP : Hid (Pc V2 (some ⟨b, off, none⟩) pc ys P) := AP.out.below hbb
                have AQ : Hid (Pc V2 qa qc zs Q) := AQ.out.below hbb
                have OA : Hid (Pc V2 oaa oac oas (orL [P])) := OA.out.below hbb
                have HB : Hid (Below W.heap.size W V2) := HB.out.trans (hbb.mono HB.out.size)
                clear hbb
                clear hsm
                clear OA
                go_wp2_with fail
                refine Calls.mono (pc_or1 AQ.out) ?_
                intro e V3 hm
                obtain ⟨oba, obs, obc, rfl, hpc, hbb⟩ := hm.pc (orL_good (good_1 HGQ.out)) (by have h1 := orL_len [Q]; have := HPL.out; simp [totN] at h1; omega)
                have AP : Hid (Pc V3 (some ⟨b, off, none⟩) pc ys P) := AP.out.below hbb
                have AQ : Hid (Pc V3 qa qc zs Q) := AQ.out.below hbb
                have OB : Hid (Pc V3 oba obc obs (orL [Q])) := hpc
                have HB : Hid (Below W.heap.size W V3) := HB.out.trans (hbb.mono HB.out.size)
                clear hm hpc hbb
                have hsm := pc_sameb OB.out AQ.out
                cases hsb : sameB (orL [Q]) Q with
                | false =>
                  rw [hsb] at hsm
                  clear hsb
                  go_wp2_with fail
                  refine Calls.mono hsm ?_
                  rintro e V9 ⟨rfl, hbb⟩
                  have HB : Hid (Below W.heap.size W V9) := HB.out.trans (hbb.mono HB.out.size)
                  clear hbb hsm
                  go_wp2_with fail
                  refine Calls.mono (HAL.out _) ?_
                  rintro e W9 ⟨rfl, hb9⟩
                  go_wp2
                  go_ret
                  exact ⟨rfl, HB.out.trans (hb9.mono HB.out.size)⟩
                | true =>
                  rw [hsb] at hsm
                  have FB : Hid (orL [Q] = Q) := (sameB_iff _ _).1 hsb
                  clear hsb
                  go_wp2_with fail
                  refine Calls.mono (hsm) ?_
                  rintro e V4 ⟨rfl, hbb⟩
                  have AP : Hid (Pc V4 (some ⟨b, off, none⟩) pc ys P) := AP.out.below hbb
                  have AQ : Hid (Pc V4 qa qc zs Q) := AQ.out.below hbb
                  have OB : Hid (Pc V4 oba obc obs (orL [Q])) := OB.out.below hbb
                  have HB : Hid (Below W.heap.size W V4) := HB.out.trans (hbb.mono HB.out.size)
                  clear hbb
                  clear hsm
                  clear OB
                  have HAG : Hid (orL [orL [P, Q]] = orL [P, Q]) := orL_again HCP.out HCQ.out HNP.out HNQ.out FA.out FB.out
                  have HLO : Hid ((orL [P, Q]).length ≤ 1000) := by have h1 := orL_len [P, Q]; have := HPL.out; simp [totN] at h1; show _ ≤ _; omega
                  go_wp2_with fail
                  refine Calls.mono (pc_or2 AP.out AQ.out) ?_
                  intro e V5 hm
                  obtain ⟨oa, os, oc, rfl, hpc, hbb⟩ := hm.pc (orL_good (good_two HGP.out HGQ.out)) (by have := HLO.out; omega)
                  have AP : Hid (Pc V5 (some ⟨b, off, none⟩) pc ys P) := AP.out.below hbb
                  have AQ : Hid (Pc V5 qa qc zs Q) := AQ.out.below hbb
                  have O : Hid (Pc V5 oa oc os (orL [P, Q])) := hpc
                  have HB : Hid (Below W.heap.size W V5) := HB.out.trans (hbb.mono HB.out.size)
                  clear hm hpc hbb
                  have hbt : Below V5.heap.size V5 ((V5.alloc (.cells #[.int .i64 0, .int .i64 0, .int .i64 0, .int .i64 0, .slice none 0 0, .int .i64 0] 37)).alloc (.cells #[.int .i64 1, .int .i64 0, .int .i64 0, .int .i64 0, .slice none 0 0, .int .i64 0] 37)) := ((Below.refl _ _).alloc (Nat.le_refl _) _).alloc (by simp) _
                  have hsz : (V5.alloc (.cells #[.int .i64 0, .int .i64 0, .int .i64 0, .int .i64 0, .slice none 0 0, .int .i64 0] 37)).heap.size = V5.heap.size + 1 := by simp
                  have AT : Hid (Pc ((V5.alloc (.cells #[.int .i64 0, .int .i64 0, .int .i64 0, .int .i64 0, .slice none 0 0, .int .i64 0] 37)).alloc (.cells #[.int .i64 1, .int .i64 0, .int .i64 0, .int .i64 0, .slice none 0 0, .int .i64 0] 37)) (some ⟨V5.heap.size, 0, none⟩) 1 [⟨tt, none, 0⟩] [tt]) := (pc_op V5 0).below ((Below.refl _ _).alloc (Nat.le_refl _) _)
                  have af := pc_op (V5.alloc (.cells #[.int .i64 0, .int .i64 0, .int .i64 0, .int .i64 0, .slice none 0 0, .int .i64 0] 37)) 1
                  rw [hsz] at af
                  have AF : Hid (Pc ((V5.alloc (.cells #[.int .i64 0, .int .i64 0, .int .i64 0, .int .i64 0, .slice none 0 0, .int .i64 0] 37)).alloc (.cells #[.int .i64 1, .int .i64 0, .int .i64 0, .int .i64 0, .slice none 0 0, .int .i64 0] 37)) (some ⟨V5.heap.size + 1, 0, none⟩) 1 [⟨ff, none, 0⟩] [ff]) := af
                  have AP : Hid (Pc ((V5.alloc (.cells #[.int .i64 0, .int .i64 0, .int .i64 0, .int .i64 0, .slice none 0 0, .int .i64 0] 37)).alloc (.cells #[.int .i64 1, .int .i64 0, .int .i64 0, .int .i64 0, .slice none 0 0, .int .i64 0] 37)) (some ⟨b, off, none⟩) pc ys P) := AP.out.below hbt
                  have AQ : Hid (Pc ((V5.alloc (.cells #[.int .i64 0, .int .i64 0, .int .i64 0, .int .i64 0, .slice none 0 0, .int .i64 0] 37)).alloc (.cells #[.int .i64 1, .int .i64 0, .int .i64 0, .int .i64 0, .slice none 0 0, .int .i64 0] 37)) qa qc zs Q) := AQ.out.below hbt
                  have O : Hid (Pc ((V5.alloc (.cells #[.int .i64 0, .int .i64 0, .int .i64 0, .int .i64 0, .slice none 0 0, .int .i64 0] 37)).alloc (.cells #[.int .i64 1, .int .i64 0, .int .i64 0, .int .i64 0, .slice none 0 0, .int .i64 0] 37)) oa oc os (orL [P, Q])) := O.out.below hbt
                  have HB : Hid (Below W.heap.size W ((V5.alloc (.cells #[.int .i64 0, .int .i64 0, .int .i64 0, .int .i64 0, .slice none 0 0, .int .i64 0] 37)).alloc (.cells #[.int .i64 1, .int .i64 0, .int .i64 0, .int .i64 0, .slice none 0 0, .int .i64 0] 37))) := HB.out.trans (hbt.mono HB.out.size)
                  clear hbt hsz af
                  go_wp2_with fail
                  refine Calls.mono (HAL.out _) ?_
                  rintro e V6 ⟨rfl, hbb⟩
                  have AP : Hid (Pc V6 (some ⟨b, off, none⟩) pc ys P) := AP.out.below hbb
                  have AQ : Hid (Pc V6 qa qc zs Q) := AQ.out.below hbb
                  have O : Hid (Pc V6 oa oc os (orL [P, Q])) := O.out.below hbb
                  have AT : Hid (Pc V6 (some ⟨V5.heap.size, 0, none⟩) 1 [⟨tt, none, 0⟩] [tt]) := AT.out.below hbb
                  have AF : Hid (Pc V6 (some ⟨V5.heap.size + 1, 0, none⟩) 1 [⟨ff, none, 0⟩] [ff]) := AF.out.below hbb
                  have HB : Hid (Below W.heap.size W V6) := HB.out.trans (hbb.mono HB.out.size)
                  clear hbb
                  go_wp2_with fail
                  refine Calls.mono (pc_not AP.out) ?_
                  intro e V7 hm
                  obtain ⟨naa, nas, nac, rfl, hpc, hbb⟩ := hm.pc (notL_good HGP.out) (by have h1 := notL_len P; have := HPL.out; omega)
                  have AP : Hid (Pc V7 (some ⟨b, off, none⟩) pc ys P) := AP.out.below hbb
                  have AQ : Hid (Pc V7 qa qc zs Q) := AQ.out.below hbb
                  have O : Hid (Pc V7 oa oc os (orL [P, Q])) := O.out.below hbb
                  have AT : Hid (Pc V7 (some ⟨V5.heap.size, 0, none⟩) 1 [⟨tt, none, 0⟩] [tt]) := AT.out.below hbb
                  have AF : Hid (Pc V7 (some ⟨V5.heap.size + 1, 0, none⟩) 1 [⟨ff, none, 0⟩] [ff]) := AF.out.below hbb
                  have NA : Hid (Pc V7 naa nac nas (notL P)) := hpc
                  have HB : Hid (Below W.heap.size W V7) := HB.out.trans (hbb.mono HB.out.size)
                  clear hm hpc hbb
                  go_wp2_with fail
                  refine Calls.mono (pc_not NA.out) ?_
                  intro e V8 hm
                  obtain ⟨nna, nns, nnc, rfl, hpc, hbb⟩ := hm.pc (notL_good (notL_good HGP.out)) (by have h1 := notL_len P; have h2 := notL_len (notL P); have := HPL.out; omega)
                  have AP : Hid (Pc V8 (some ⟨b, off, none⟩) pc ys P) := AP.out.below hbb
                  have AQ : Hid (Pc V8 qa qc zs Q) := AQ.out.below hbb
                  have O : Hid (Pc V8 oa oc os (orL [P, Q])) := O.out.below hbb
                  have AT : Hid (Pc V8 (some ⟨V5.heap.size, 0, none⟩) 1 [⟨tt, none, 0⟩] [tt]) := AT.out.below hbb
                  have AF : Hid (Pc V8 (some ⟨V5.heap.size + 1, 0, none⟩) 1 [⟨ff, none, 0⟩] [ff]) := AF.out.below hbb
                  have NA : Hid (Pc V8 naa nac nas (notL P)) := NA.out.below hbb
                  have NN : Hid (Pc V8 nna nnc nns (notL (notL P))) := hpc
                  have HB : Hid (Below W.heap.size W V8) := HB.out.trans (hbb.mono HB.out.size)
                  clear hm hpc hbb
                  go_wp2_with fail
                  refine Calls.mono (pc_same NN.out AP.out (notL_twice HCP.out HPN.out)) ?_
                  rintro e V9 ⟨rfl, hbb⟩
                  have AP : Hid (Pc V9 (some ⟨b, off, none⟩) pc ys P) := AP.out.below hbb
                  have AQ : Hid (Pc V9 qa qc zs Q) := AQ.out.below hbb
                  have O : Hid (Pc V9 oa oc os (orL [P, Q])) := O.out.below hbb
                  have AT : Hid (Pc V9 (some ⟨V5.heap.size, 0, none⟩) 1 [⟨tt, none, 0⟩] [tt]) := AT.out.below hbb
                  have AF : Hid (Pc V9 (some ⟨V5.heap.size + 1, 0, none⟩) 1 [⟨ff, none, 0⟩] [ff]) := AF.out.below hbb
                  have NA : Hid (Pc V9 naa nac nas (notL P)) := NA.out.below hbb
                  have NN : Hid (Pc V9 nna nnc nns (notL (notL P))) := NN.out.below hbb
                  have HB : Hid (Below W.heap.size W V9) := HB.out.trans (hbb.mono HB.out.size)
                  clear hbb
                  clear NA NN
                  go_wp2_with fail
                  refine Calls.mono (pc_or1 O.out) ?_
                  intro e V10 hm
                  obtain ⟨ooa, oos, ooc, rfl, hpc, hbb⟩ := hm.pc (orL_good (good_1 O.out.good)) (by rw [HAG.out]; have := HLO.out; omega)
                  have AP : Hid (Pc V10 (some ⟨b, off, none⟩) pc ys P) := AP.out.below hbb
                  have AQ : Hid (Pc V10 qa qc zs Q) := AQ.out.below hbb
                  have O : Hid (Pc V10 oa oc os (orL [P, Q])) := O.out.below hbb
                  have AT : Hid (Pc V10 (some ⟨V5.heap.size, 0, none⟩) 1 [⟨tt, none, 0⟩] [tt]) := AT.out.below hbb
                  have AF : Hid (Pc V10 (some ⟨V5.heap.size + 1, 0, none⟩) 1 [⟨ff, none, 0⟩] [ff]) := AF.out.below hbb
                  have OO : Hid (Pc V10 ooa ooc oos (orL [orL [P, Q]])) := hpc
                  have HB : Hid (Below W.heap.size W V10) := HB.out.trans (hbb.mono HB.out.size)
                  clear hm hpc hbb
                  go_wp2_with fail
                  refine Calls.mono (pc_same OO.out O.out HAG.out) ?_
                  rintro e V11 ⟨rfl, hbb⟩
                  have AP : Hid (Pc V11 (some ⟨b, off, none⟩) pc ys P) := AP.out.below hbb
                  have AQ : Hid (Pc V11 qa qc zs Q) := AQ.out.below hbb
                  have O : Hid (Pc V11 oa oc os (orL [P, Q])) := O.out.below hbb
                  have AT : Hid (Pc V11 (some ⟨V5.heap.size, 0, none⟩) 1 [⟨tt, none, 0⟩] [tt]) := AT.out.below hbb
                  have AF : Hid (Pc V11 (some ⟨V5.heap.size + 1, 0, none⟩) 1 [⟨ff, none, 0⟩] [ff]) := AF.out.below hbb
                  have OO : Hid (Pc V11 ooa ooc oos (orL [orL [P, Q]])) := OO.out.below hbb
                  have HB : Hid (Below W.heap.size W V11) := HB.out.trans (hbb.mono HB.out.size)
                  clear hbb
                  clear OO
                  go_wp2_with fail
                  refine Calls.mono (pc_or2 O.out O.out) ?_
                  intro e V12 hm
                  obtain ⟨opa, ops, opc, rfl, hpc, hbb⟩ := hm.pc (orL_good (good_two O.out.good O.out.good)) (by rw [orL_twice, HAG.out]; have := HLO.out; omega)
                  have AP : Hid (Pc V12 (some ⟨b, off, none⟩) pc ys P) := AP.out.below hbb
                  have AQ : Hid (Pc V12 qa qc zs Q) := AQ.out.below hbb
                  have O : Hid (Pc V12 oa oc os (orL [P, Q])) := O.out.below hbb
                  have AT : Hid (Pc V12 (some ⟨V5.heap.size, 0, none⟩) 1 [⟨tt, none, 0⟩] [tt]) := AT.out.below hbb
                  have AF : Hid (Pc V12 (some ⟨V5.heap.size + 1, 0, none⟩) 1 [⟨ff, none, 0⟩] [ff]) := AF.out.below hbb
                  have OP : Hid (Pc V12 opa opc ops (orL [orL [P, Q], orL [P, Q]])) := hpc
                  have HB : Hid (Below W.heap.size W V12) := HB.out.trans (hbb.mono HB.out.size)
                  clear hm hpc hbb
                  go_wp2_with fail
                  refine Calls.mono (pc_same OP.out O.out ((orL_twice _).trans HAG.out)) ?_
                  rintro e V13 ⟨rfl, hbb⟩
                  have AP : Hid (Pc V13 (some ⟨b, off, none⟩) pc ys P) := AP.out.below hbb
                  have AQ : Hid (Pc V13 qa qc zs Q) := AQ.out.below hbb
                  have O : Hid (Pc V13 oa oc os (orL [P, Q])) := O.out.below hbb
                  have AT : Hid (Pc V13 (some ⟨V5.heap.size, 0, none⟩) 1 [⟨tt, none, 0⟩] [tt]) := AT.out.below hbb
                  have AF : Hid (Pc V13 (some ⟨V5.heap.size + 1, 0, none⟩) 1 [⟨ff, none, 0⟩] [ff]) := AF.out.below hbb
                  have OP : Hid (Pc V13 opa opc ops (orL [orL [P, Q], orL [P, Q]])) := OP.out.below hbb
                  have HB : Hid (Below W.heap.size W V13) := HB.out.trans (hbb.mono HB.out.size)
                  clear hbb
                  clear OP O
                  go_wp2_with fail
                  refine Calls.mono (pc_or2 AP.out AT.out) ?_
                  intro e V14 hm
                  obtain ⟨ota, ots, otc, rfl, hpc, hbb⟩ := hm.pc (orL_good (good_two HGP.out good_one)) (by rw [orL_tt]; simp)
                  have AP : Hid (Pc V14 (some ⟨b, off, none⟩) pc ys P) := AP.out.below hbb
                  have AQ : Hid (Pc V14 qa qc zs Q) := AQ.out.below hbb
                  have AT : Hid (Pc V14 (some ⟨V5.heap.size, 0, none⟩) 1 [⟨tt, none, 0⟩] [tt]) := AT.out.below hbb
                  have AF : Hid (Pc V14 (some ⟨V5.heap.size + 1, 0, none⟩) 1 [⟨ff, none, 0⟩] [ff]) := AF.out.below hbb
                  have OT : Hid (Pc V14 ota otc ots (orL [P, [tt]])) := hpc
                  have HB : Hid (Below W.heap.size W V14) := HB.out.trans (hbb.mono HB.out.size)
                  clear hm hpc hbb
                  have q0 := HC0.out _ HB.out
                  go_wp2_with fail
                  refine Calls.mono (pc_same1 OT.out AT.out (orL_tt P)) ?_
                  rintro e V15 ⟨rfl, hbb⟩
                  have AP : Hid (Pc V15 (some ⟨b, off, none⟩) pc ys P) := AP.out.below hbb
                  have AQ : Hid (Pc V15 qa qc zs Q) := AQ.out.below hbb
                  have AT : Hid (Pc V15 (some ⟨V5.heap.size, 0, none⟩) 1 [⟨tt, none, 0⟩] [tt]) := AT.out.below hbb
                  have AF : Hid (Pc V15 (some ⟨V5.heap.size + 1, 0, none⟩) 1 [⟨ff, none, 0⟩] [ff]) := AF.out.below hbb
                  have OT : Hid (Pc V15 ota otc ots (orL [P, [tt]])) := OT.out.below hbb
                  have HB : Hid (Below W.heap.size W V15) := HB.out.trans (hbb.mono HB.out.size)
                  clear hbb q0
                  have q0 := HC0.out _ HB.out
                  clear OT
                  go_simp
                  repeat (first | (show wpList _ (List.toArray (_ :: _ :: _ :: _ :: _ :: _ :: _ :: _ :: _ :: _ :: _ :: _ :: _ :: _ :: _ :: _ :: _ :: _ :: _ :: _ :: _ :: _ :: _ :: _ :: _ :: _ :: _ :: _ :: _ :: _ :: _ :: _ :: _ :: _ :: _ :: _ :: _ :: _ :: _ :: _ :: _ :: _ :: _ :: _ :: _ :: _ :: _ :: _ :: _ :: _ :: _ :: _ :: _ :: _ :: _ :: _ :: _ :: _ :: _ :: _ :: _ :: _ :: _ :: _ :: _ :: _ :: _ :: _ :: _ :: _ :: _ :: _ :: _ :: _ :: _ :: _ :: _ :: _ :: _ :: _ :: _ :: _ :: _ :: _ :: _ :: [])) _ (_ :: _) _ _; go_skip) | go_values | go_skip | go_guarded | go_step | go_upon | go_back)
                  refine Calls.mono (pc_and2 AP.out AF.out) ?_
                  intro e V16 hm
                  obtain ⟨afa, afs, afc, rfl, hpc, hbb⟩ := hm.pc (andL_good (good_two HGP.out good_one)) (by rw [andL_ff]; simp)
                  have AP : Hid (Pc V16 (some ⟨b, off, none⟩) pc ys P) := AP.out.below hbb
                  have AQ : Hid (Pc V16 qa qc zs Q) := AQ.out.below hbb
                  have AT : Hid (Pc V16 (some ⟨V5.heap.size, 0, none⟩) 1 [⟨tt, none, 0⟩] [tt]) := AT.out.below hbb
                  have AF : Hid (Pc V16 (some ⟨V5.heap.size + 1, 0, none⟩) 1 [⟨ff, none, 0⟩] [ff]) := AF.out.below hbb
                  have AFF : Hid (Pc V16 afa afc afs (andL [P, [ff]])) := hpc
                  have HB : Hid (Below W.heap.size W V16) := HB.out.trans (hbb.mono HB.out.size)
                  clear hm hpc hbb
                  go_wp2_with fail
                  refine Calls.mono (pc_same1 AFF.out AF.out (andL_ff P)) ?_
                  rintro e V17 ⟨rfl, hbb⟩
                  have AP : Hid (Pc V17 (some ⟨b, off, none⟩) pc ys P) := AP.out.below hbb
                  have AQ : Hid (Pc V17 qa qc zs Q) := AQ.out.below hbb
                  have AT : Hid (Pc V17 (some ⟨V5.heap.size, 0, none⟩) 1 [⟨tt, none, 0⟩] [tt]) := AT.out.below hbb
                  have AF : Hid (Pc V17 (some ⟨V5.heap.size + 1, 0, none⟩) 1 [⟨ff, none, 0⟩] [ff]) := AF.out.below hbb
                  have AFF : Hid (Pc V17 afa afc afs (andL [P, [ff]])) := AFF.out.below hbb
                  have HB : Hid (Below W.heap.size W V17) := HB.out.trans (hbb.mono HB.out.size)
                  clear hbb
                  clear AFF
                  go_wp2_with fail
                  refine Calls.mono (pc_or0 _) ?_
                  intro e V18 hm
                  obtain ⟨oza, ozs, ozc, rfl, hpc, hbb⟩ := hm.pc (good_one) (by simp)
                  have AP : Hid (Pc V18 (some ⟨b, off, none⟩) pc ys P) := AP.out.below hbb
                  have AQ : Hid (Pc V18 qa qc zs Q) := AQ.out.below hbb
                  have AT : Hid (Pc V18 (some ⟨V5.heap.size, 0, none⟩) 1 [⟨tt, none, 0⟩] [tt]) := AT.out.below hbb
                  have AF : Hid (Pc V18 (some ⟨V5.heap.size + 1, 0, none⟩) 1 [⟨ff, none, 0⟩] [ff]) := AF.out.below hbb
                  have OZ : Hid (Pc V18 oza ozc ozs ([ff])) := hpc
                  have HB : Hid (Below W.heap.size W V18) := HB.out.trans (hbb.mono HB.out.size)
                  clear hm hpc hbb
                  go_wp2_with fail
                  refine Calls.mono (pc_same1 OZ.out AF.out rfl) ?_
                  rintro e V19 ⟨rfl, hbb⟩
                  have AP : Hid (Pc V19 (some ⟨b, off, none⟩) pc ys P) := AP.out.below hbb
                  have AQ : Hid (Pc V19 qa qc zs Q) := AQ.out.below hbb
                  have AT : Hid (Pc V19 (some ⟨V5.heap.size, 0, none⟩) 1 [⟨tt, none, 0⟩] [tt]) := AT.out.below hbb
                  have AF : Hid (Pc V19 (some ⟨V5.heap.size + 1, 0, none⟩) 1 [⟨ff, none, 0⟩] [ff]) := AF.out.below hbb
                  have OZ : Hid (Pc V19 oza ozc ozs ([ff])) := OZ.out.below hbb
                  have HB : Hid (Below W.heap.size W V19) := HB.out.trans (hbb.mono HB.out.size)
                  clear hbb
                  go_wp2_with fail
                  refine Calls.mono (pc_and0 _) ?_
                  intro e V20 hm
                  obtain ⟨aza, azs, azc, rfl, hpc, hbb⟩ := hm.pc (good_one) (by simp)
                  have AP : Hid (Pc V20 (some ⟨b, off, none⟩) pc ys P) := AP.out.below hbb
                  have AQ : Hid (Pc V20 qa qc zs Q) := AQ.out.below hbb
                  have AT : Hid (Pc V20 (some ⟨V5.heap.size, 0, none⟩) 1 [⟨tt, none, 0⟩] [tt]) := AT.out.below hbb
                  have AF : Hid (Pc V20 (some ⟨V5.heap.size + 1, 0, none⟩) 1 [⟨ff, none, 0⟩] [ff]) := AF.out.below hbb
                  have OZ : Hid (Pc V20 oza ozc ozs ([ff])) := OZ.out.below hbb
                  have AZ : Hid (Pc V20 aza azc azs ([tt])) := hpc
                  have HB : Hid (Below W.heap.size W V20) := HB.out.trans (hbb.mono HB.out.size)
                  clear hm hpc hbb
                  go_wp2_with fail
                  refine Calls.mono (pc_same1 AZ.out AT.out rfl) ?_
                  rintro e V21 ⟨rfl, hbb⟩
                  have AP : Hid (Pc V21 (some ⟨b, off, none⟩) pc ys P) := AP.out.below hbb
                  have AQ : Hid (Pc V21 qa qc zs Q) := AQ.out.below hbb
                  have AT : Hid (Pc V21 (some ⟨V5.heap.size, 0, none⟩) 1 [⟨tt, none, 0⟩] [tt]) := AT.out.below hbb
                  have AF : Hid (Pc V21 (some ⟨V5.heap.size + 1, 0, none⟩) 1 [⟨ff, none, 0⟩] [ff]) := AF.out.below hbb
                  have OZ : Hid (Pc V21 oza ozc ozs ([ff])) := OZ.out.below hbb
                  have AZ : Hid (Pc V21 aza azc azs ([tt])) := AZ.out.below hbb
                  have HB : Hid (Below W.heap.size W V21) := HB.out.trans (hbb.mono HB.out.size)
                  clear hbb
                  go_wp2
                  go_ret
                  exact ⟨rfl, HB.out⟩
            · have i5 : (o0 == 5) = false := by simpa using o5
              have HON : Hid (orL [ys.map (·.x), notL (ys.map (·.x))] = [tt]) := orL_not HCP0.out HPN.out (by rw [isB_head C1, ← HO0.out, i5]) (fun q => by rw [isB_head C1, ← HO0.out, i3] at q; cases q)
              clear o5
              generalize ys.map (·.x) = P at *
              generalize zs.map (·.x) = Q at *
              go_enter Try.func7, Try.ntmps7
              go_wp2_with fail
              refine Calls.mono lp ?_
              rintro e W1 ⟨rfl, hw⟩
              subst W1
              go_wp2_with fail
              refine Calls.mono lq ?_
              rintro e W1 ⟨rfl, hw⟩
              subst W1
              go_wp2_with fail
              refine Calls.mono (HIP.out _ HB.out) ?_
              rintro e W1 ⟨rfl, hb1⟩
              have HB : Hid (Below W.heap.size W W1) := HB.out.trans (hb1.mono HB.out.size)
              clear hb1
              go_wp2_with fail
              refine Calls.mono (HIQ.out _ HB.out) ?_
              rintro e W1 ⟨rfl, hb1⟩
              have HB : Hid (Below W.heap.size W W1) := HB.out.trans (hb1.mono HB.out.size)
              clear hb1
              have q0 := HC0.out _ HB.out
              have AP : Hid (Pc W1 (some ⟨b, off, none⟩) pc ys P) := HP.out _ HB.out
              have AQ : Hid (Pc W1 qa qc zs Q) := HQ.out _ HB.out
              have HGP : Hid (GoodN P) := AP.out.good
              have HGQ : Hid (GoodN Q) := AQ.out.good
              clear HP HQ lp lq HIP HIQ
              go_wp2_with fail
              refine Calls.mono (pc_or1 AP.out) ?_
              intro e V1 hm
              obtain ⟨oaa, oas, oac, rfl, hpc, hbb⟩ := hm.pc (orL_good (good_1 HGP.out)) (by have h1 := orL_len [P]; have := HPL.out; simp [totN] at h1; omega)
              have AP : Hid (Pc V1 (some ⟨b, off, none⟩) pc ys P) := AP.out.below hbb
              have AQ : Hid (Pc V1 qa qc zs Q) := AQ.out.below hbb
              have OA : Hid (Pc V1 oaa oac oas (orL [P])) := hpc
              have HB : Hid (Below W.heap.size W V1) := HB.out.trans (hbb.mono HB.out.size)
              clear hm hpc hbb
              clear q0
              have hsm := pc_sameb OA.out AP.out
              cases hsa : sameB (orL [P]) P with
              | false =>
                rw [hsa] at hsm
                clear hsa
                go_wp2_with fail
                refine Calls.mono hsm ?_
                rintro e V9 ⟨rfl, hbb⟩
                have HB : Hid (Below W.heap.size W V9) := HB.out.trans (hbb.mono HB.out.size)
                clear hbb hsm
                go_wp2_with fail
                refine Calls.mono (HAL.out _) ?_
                rintro e W9 ⟨rfl, hb9⟩
                go_wp2
                go_ret
                exact ⟨rfl, HB.out.trans (hb9.mono HB.out.size)⟩
              | true =>
                rw [hsa] at hsm
                have FA : Hid (orL [P] = P) := (sameB_iff _ _).1 hsa
                clear hsa
                go_wp2_with fail
                refine Calls.mono (hsm) ?_
                rintro e V2 ⟨rfl, hbb⟩
                have AP : Hid (Pc V2 (some ⟨b, off, none⟩) pc ys P) := AP.out.below hbb
                have AQ : Hid (Pc V2 qa qc zs Q) := AQ.out.below hbb
                have OA : Hid (Pc V2 oaa oac oas (orL [P])) := OA.out.below hbb
                have HB : Hid (Below W.heap.size W V2) := HB.out.trans (hbb.mono HB.out.size)
                clear hbb
                clear hsm
                clear OA
                go_wp2_with fail
                refine Calls.mono (pc_or1 AQ.out) ?_
                intro e V3 hm
                obtain ⟨oba, obs, obc, rfl, hpc, hbb⟩ := hm.pc (orL_good (good_1 HGQ.out)) (by have h1 := orL_len [Q]; have := HPL.out; simp [totN] at h1; omega)
                have AP : Hid (Pc V3 (some ⟨b, off, none⟩) pc ys P) := AP.out.below hbb
                have AQ : Hid (Pc V3 qa qc zs Q) := AQ.out.below hbb
                have OB : Hid (Pc V3 oba obc obs (orL [Q])) := hpc
                have HB : Hid (Below W.heap.size W V3) := HB.out.trans (hbb.mono HB.out.size)
                clear hm hpc hbb
                have hsm := pc_sameb OB.out AQ.out
                cases hsb : sameB (orL [Q]) Q with
                | false =>
                  rw [hsb] at hsm
                  clear hsb
                  go_wp2_with fail
                  refine Calls.mono hsm ?_
                  rintro e V9 ⟨rfl, hbb⟩
                  have HB : Hid (Below W.heap.size W V9) := HB.out.trans (hbb.mono HB.out.size)
                  clear hbb hsm
                  go_wp2_with fail
                  refine Calls.mono (HAL.out _) ?_
                  rintro e W9 ⟨rfl, hb9⟩
                  go_wp2
                  go_ret
                  exact ⟨rfl, HB.out.trans (hb9.mono HB.out.size)⟩
                | true =>
                  rw [hsb] at hsm
                  have FB : Hid (orL [Q] = Q) := (sameB_iff _ _).1 hsb
                  clear hsb
                  go_wp2_with fail
                  refine Calls.mono (hsm) ?_
                  rintro e V4 ⟨rfl, hbb⟩
                  have AP : Hid (Pc V4 (some ⟨b, off, none⟩) pc ys P) := AP.out.below hbb
                  have AQ : Hid (Pc V4 qa qc zs Q) := AQ.out.below hbb
                  have OB : Hid (Pc V4 oba obc obs (orL [Q])) := OB.out.below hbb
                  have HB : Hid (Below W.heap.size W V4) := HB.out.trans (hbb.mono HB.out.size)
                  clear hbb
                  clear hsm
                  clear OB
                  have HAG : Hid (orL [orL [P, Q]] = orL [P, Q]) := orL_again HCP.out HCQ.out HNP.out HNQ.out FA.out FB.out
                  have HLO : Hid ((orL [P, Q]).length ≤ 1000) := by have h1 := orL_len [P, Q]; have := HPL.out; simp [totN] at h1; show _ ≤ _; omega
                  go_wp2_with fail
                  refine Calls.mono (pc_or2 AP.out AQ.out) ?_
                  intro e V5 hm
                  obtain ⟨oa, os, oc, rfl, hpc, hbb⟩ := hm.pc (orL_good (good_two HGP.out HGQ.out)) (by have := HLO.out; omega)
                  have AP : Hid (Pc V5 (some ⟨b, off, none⟩) pc ys P) := AP.out.below hbb
                  have AQ : Hid (Pc V5 qa qc zs Q) := AQ.out.below hbb
                  have O : Hid (Pc V5 oa oc os (orL [P, Q])) := hpc
                  have HB : Hid (Below W.heap.size W V5) := HB.out.trans (hbb.mono HB.out.size)
                  clear hm hpc hbb
                  have hbt : Below V5.heap.size V5 ((V5.alloc (.cells #[.int .i64 0, .int .i64 0, .int .i64 0, .int .i64 0, .slice none 0 0, .int .i64 0] 37)).alloc (.cells #[.int .i64 1, .int .i64 0, .int .i64 0, .int .i64 0, .slice none 0 0, .int .i64 0] 37)) := ((Below.refl _ _).alloc (Nat.le_refl _) _).alloc (by simp) _
                  have hsz : (V5.alloc (.cells #[.int .i64 0, .int .i64 0, .int .i64 0, .int .i64 0, .slice none 0 0, .int .i64 0] 37)).heap.size = V5.heap.size + 1 := by simp
                  have AT : Hid (Pc ((V5.alloc (.cells #[.int .i64 0, .int .i64 0, .int .i64 0, .int .i64 0, .slice none 0 0, .int .i64 0] 37)).alloc (.cells #[.int .i64 1, .int .i64 0, .int .i64 0, .int .i64 0, .slice none 0 0, .int .i64 0] 37)) (some ⟨V5.heap.size, 0, none⟩) 1 [⟨tt, none, 0⟩] [tt]) := (pc_op V5 0).below ((Below.refl _ _).alloc (Nat.le_refl _) _)
                  have af := pc_op (V5.alloc (.cells #[.int .i64 0, .int .i64 0, .int .i64 0, .int .i64 0, .slice none 0 0, .int .i64 0] 37)) 1
                  rw [hsz] at af
                  have AF : Hid (Pc ((V5.alloc (.cells #[.int .i64 0, .int .i64 0, .int .i64 0, .int .i64 0, .slice none 0 0, .int .i64 0] 37)).alloc (.cells #[.int .i64 1, .int .i64 0, .int .i64 0, .int .i64 0, .slice none 0 0, .int .i64 0] 37)) (some ⟨V5.heap.size + 1, 0, none⟩) 1 [⟨ff, none, 0⟩] [ff]) := af
                  have AP : Hid (Pc ((V5.alloc (.cells #[.int .i64 0, .int .i64 0, .int .i64 0, .int .i64 0, .slice none 0 0, .int .i64 0] 37)).alloc (.cells #[.int .i64 1, .int .i64 0, .int .i64 0, .int .i64 0, .slice none 0 0, .int .i64 0] 37)) (some ⟨b, off, none⟩) pc ys P) := AP.out.below hbt
                  have AQ : Hid (Pc ((V5.alloc (.cells #[.int .i64 0, .int .i64 0, .int .i64 0, .int .i64 0, .slice none 0 0, .int .i64 0] 37)).alloc (.cells #[.int .i64 1, .int .i64 0, .int .i64 0, .int .i64 0, .slice none 0 0, .int .i64 0] 37)) qa qc zs Q) := AQ.out.below hbt
                  have O : Hid (Pc ((V5.alloc (.cells #[.int .i64 0, .int .i64 0, .int .i64 0, .int .i64 0, .slice none 0 0, .int .i64 0] 37)).alloc (.cells #[.int .i64 1, .int .i64 0, .int .i64 0, .int .i64 0, .slice none 0 0, .int .i64 0] 37)) oa oc os (orL [P, Q])) := O.out.below hbt
                  have HB : Hid (Below W.heap.size W ((V5.alloc (.cells #[.int .i64 0, .int .i64 0, .int .i64 0, .int .i64 0, .slice none 0 0, .int .i64 0] 37)).alloc (.cells #[.int .i64 1, .int .i64 0, .int .i64 0, .int .i64 0, .slice none 0 0, .int .i64 0] 37))) := HB.out.trans (hbt.mono HB.out.size)
                  clear hbt hsz af
                  go_wp2_with fail
                  refine Calls.mono (HAL.out _) ?_
                  rintro e V6 ⟨rfl, hbb⟩
                  have AP : Hid (Pc V6 (some ⟨b, off, none⟩) pc ys P) := AP.out.below hbb
                  have AQ : Hid (Pc V6 qa qc zs Q) := AQ.out.below hbb
                  have O : Hid (Pc V6 oa oc os (orL [P, Q])) := O.out.below hbb
                  have AT : Hid (Pc V6 (some ⟨V5.heap.size, 0, none⟩) 1 [⟨tt, none, 0⟩] [tt]) := AT.out.below hbb
                  have AF : Hid (Pc V6 (some ⟨V5.heap.size + 1, 0, none⟩) 1 [⟨ff, none, 0⟩] [ff]) := AF.out.below hbb
                  have HB : Hid (Below W.heap.size W V6) := HB.out.trans (hbb.mono HB.out.size)
                  clear hbb
                  go_wp2_with fail
                  refine Calls.mono (pc_not AP.out) ?_
                  intro e V7 hm
                  obtain ⟨naa, nas, nac, rfl, hpc, hbb⟩ := hm.pc (notL_good HGP.out) (by have h1 := notL_len P; have := HPL.out; omega)
                  have AP : Hid (Pc V7 (some ⟨b, off, none⟩) pc ys P) := AP.out.below hbb
                  have AQ : Hid (Pc V7 qa qc zs Q) := AQ.out.below hbb
                  have O : Hid (Pc V7 oa oc os (orL [P, Q])) := O.out.below hbb
                  have AT : Hid (Pc V7 (some ⟨V5.heap.size, 0, none⟩) 1 [⟨tt, none, 0⟩] [tt]) := AT.out.below hbb
                  have AF : Hid (Pc V7 (some ⟨V5.heap.size + 1, 0, none⟩) 1 [⟨ff, none, 0⟩] [ff]) := AF.out.below hbb
                  have NA : Hid (Pc V7 naa nac nas (notL P)) := hpc
                  have HB : Hid (Below W.heap.size W V7) := HB.out.trans (hbb.mono HB.out.size)
                  clear hm hpc hbb
                  go_wp2_with fail
                  refine Calls.mono (pc_not NA.out) ?_
                  intro e V8 hm
                  obtain ⟨nna, nns, nnc, rfl, hpc, hbb⟩ := hm.pc (notL_good (notL_good HGP.out)) (by have h1 := notL_len P; have h2 := notL_len (notL P); have := HPL.out; omega)
                  have AP : Hid (Pc V8 (some ⟨b, off, none⟩) pc ys P) := AP.out.below hbb
                  have AQ : Hid (Pc V8 qa qc zs Q) := AQ.out.below hbb
                  have O : Hid (Pc V8 oa oc os (orL [P, Q])) := O.out.below hbb
                  have AT : Hid (Pc V8 (some ⟨V5.heap.size, 0, none⟩) 1 [⟨tt, none, 0⟩] [tt]) := AT.out.below hbb
                  have AF : Hid (Pc V8 (some ⟨V5.heap.size + 1, 0, none⟩) 1 [⟨ff, none, 0⟩] [ff]) := AF.out.below hbb
                  have NA : Hid (Pc V8 naa nac nas (notL P)) := NA.out.below hbb
                  have NN : Hid (Pc V8 nna nnc nns (notL (notL P))) := hpc
                  have HB : Hid (Below W.heap.size W V8) := HB.out.trans (hbb.mono HB.out.size)
                  clear hm hpc hbb
                  go_wp2_with fail
                  refine Calls.mono (pc_same NN.out AP.out (notL_twice HCP.out HPN.out)) ?_
                  rintro e V9 ⟨rfl, hbb⟩
                  have AP : Hid (Pc V9 (some ⟨b, off, none⟩) pc ys P) := AP.out.below hbb
                  have AQ : Hid (Pc V9 qa qc zs Q) := AQ.out.below hbb
                  have O : Hid (Pc V9 oa oc os (orL [P, Q])) := O.out.below hbb
                  have AT : Hid (Pc V9 (some ⟨V5.heap.size, 0, none⟩) 1 [⟨tt, none, 0⟩] [tt]) := AT.out.below hbb
                  have AF : Hid (Pc V9 (some ⟨V5.heap.size + 1, 0, none⟩) 1 [⟨ff, none, 0⟩] [ff]) := AF.out.below hbb
                  have NA : Hid (Pc V9 naa nac nas (notL P)) := NA.out.below hbb
                  have NN : Hid (Pc V9 nna nnc nns (notL (notL P))) := NN.out.below hbb
                  have HB : Hid (Below W.heap.size W V9) := HB.out.trans (hbb.mono HB.out.size)
                  clear hbb
                  clear NA NN
                  go_wp2_with fail
                  refine Calls.mono (pc_or1 O.out) ?_
                  intro e V10 hm
                  obtain ⟨ooa, oos, ooc, rfl, hpc, hbb⟩ := hm.pc (orL_good (good_1 O.out.good)) (by rw [HAG.out]; have := HLO.out; omega)
                  have AP : Hid (Pc V10 (some ⟨b, off, none⟩) pc ys P) := AP.out.below hbb
                  have AQ : Hid (Pc V10 qa qc zs Q) := AQ.out.below hbb
                  have O : Hid (Pc V10 oa oc os (orL [P, Q])) := O.out.below hbb
                  have AT : Hid (Pc V10 (some ⟨V5.heap.size, 0, none⟩) 1 [⟨tt, none, 0⟩] [tt]) := AT.out.below hbb
                  have AF : Hid (Pc V10 (some ⟨V5.heap.size + 1, 0, none⟩) 1 [⟨ff, none, 0⟩] [ff]) := AF.out.below hbb
                  have OO : Hid (Pc V10 ooa ooc oos (orL [orL [P, Q]])) := hpc
                  have HB : Hid (Below W.heap.size W V10) := HB.out.trans (hbb.mono HB.out.size)
                  clear hm hpc hbb
                  go_wp2_with fail
                  refine Calls.mono (pc_same OO.out O.out HAG.out) ?_
                  rintro e V11 ⟨rfl, hbb⟩
                  have AP : Hid (Pc V11 (some ⟨b, off, none⟩) pc ys P) := AP.out.below hbb
                  have AQ : Hid (Pc V11 qa qc zs Q) := AQ.out.below hbb
                  have O : Hid (Pc V11 oa oc os (orL [P, Q])) := O.out.below hbb
                  have AT : Hid (Pc V11 (some ⟨V5.heap.size, 0, none⟩) 1 [⟨tt, none, 0⟩] [tt]) := AT.out.below hbb
                  have AF : Hid (Pc V11 (some ⟨V5.heap.size + 1, 0, none⟩) 1 [⟨ff, none, 0⟩] [ff]) := AF.out.below hbb
                  have OO : Hid (Pc V11 ooa ooc oos (orL [orL [P, Q]])) := OO.out.below hbb
                  have HB : Hid (Below W.heap.size W V11) := HB.out.trans (hbb.mono HB.out.size)
                  clear hbb
                  clear OO
                  go_wp2_with fail
                  refine Calls.mono (pc_or2 O.out O.out) ?_
                  intro e V12 hm
                  obtain ⟨opa, ops, opc, rfl, hpc, hbb⟩ := hm.pc (orL_good (good_two O.out.good O.out.good)) (by rw [orL_twice, HAG.out]; have := HLO.out; omega)
                  have AP : Hid (Pc V12 (some ⟨b, off, none⟩) pc ys P) := AP.out.below hbb
                  have AQ : Hid (Pc V12 qa qc zs Q) := AQ.out.below hbb
                  have O : Hid (Pc V12 oa oc os (orL [P, Q])) := O.out.below hbb
                  have AT : Hid (Pc V12 (some ⟨V5.heap.size, 0, none⟩) 1 [⟨tt, none, 0⟩] [tt]) := AT.out.below hbb
                  have AF : Hid (Pc V12 (some ⟨V5.heap.size + 1, 0, none⟩) 1 [⟨ff, none, 0⟩] [ff]) := AF.out.below hbb
                  have OP : Hid (Pc V12 opa opc ops (orL [orL [P, Q], orL [P, Q]])) := hpc
                  have HB : Hid (Below W.heap.size W V12) := HB.out.trans (hbb.mono HB.out.size)
                  clear hm hpc hbb
                  go_wp2_with fail
                  refine Calls.mono (pc_same OP.out O.out ((orL_twice _).trans HAG.out)) ?_
                  rintro e V13 ⟨rfl, hbb⟩
                  have AP : Hid (Pc V13 (some ⟨b, off, none⟩) pc ys P) := AP.out.below hbb
                  have AQ : Hid (Pc V13 qa qc zs Q) := AQ.out.below hbb
                  have O : Hid (Pc V13 oa oc os (orL [P, Q])) := O.out.below hbb
                  have AT : Hid (Pc V13 (some ⟨V5.heap.size, 0, none⟩) 1 [⟨tt, none, 0⟩] [tt]) := AT.out.below hbb
                  have AF : Hid (Pc V13 (some ⟨V5.heap.size + 1, 0, none⟩) 1 [⟨ff, none, 0⟩] [ff]) := AF.out.below hbb
                  have OP : Hid (Pc V13 opa opc ops (orL [orL [P, Q], orL [P, Q]])) := OP.out.below hbb
                  have HB : Hid (Below W.heap.size W V13) := HB.out.trans (hbb.mono HB.out.size)
                  clear hbb
                  clear OP O
                  go_wp2_with fail
                  refine Calls.mono (pc_or2 AP.out AT.out) ?_
                  intro e V14 hm
                  obtain ⟨ota, ots, otc, rfl, hpc, hbb⟩ := hm.pc (orL_good (good_two HGP.out good_one)) (by rw [orL_tt]; simp)
                  have AP : Hid (Pc V14 (some ⟨b, off, none⟩) pc ys P) := AP.out.below hbb
                  have AQ : Hid (Pc V14 qa qc zs Q) := AQ.out.below hbb
                  have AT : Hid (Pc V14 (some ⟨V5.heap.size, 0, none⟩) 1 [⟨tt, none, 0⟩] [tt]) := AT.out.below hbb
                  have AF : Hid (Pc V14 (some ⟨V5.heap.size + 1, 0, none⟩) 1 [⟨ff, none, 0⟩] [ff]) := AF.out.below hbb
                  have OT : Hid (Pc V14 ota otc ots (orL [P, [tt]])) := hpc
                  have HB : Hid (Below W.heap.size W V14) := HB.out.trans (hbb.mono HB.out.size)
                  clear hm hpc hbb
                  have q0 := HC0.out _ HB.out
                  go_wp2_with fail
                  refine Calls.mono (pc_same1 OT.out AT.out (orL_tt P)) ?_
                  rintro e V15 ⟨rfl, hbb⟩
                  have AP : Hid (Pc V15 (some ⟨b, off, none⟩) pc ys P) := AP.out.below hbb
                  have AQ : Hid (Pc V15 qa qc zs Q) := AQ.out.below hbb
                  have AT : Hid (Pc V15 (some ⟨V5.heap.size, 0, none⟩) 1 [⟨tt, none, 0⟩] [tt]) := AT.out.below hbb
                  have AF : Hid (Pc V15 (some ⟨V5.heap.size + 1, 0, none⟩) 1 [⟨ff, none, 0⟩] [ff]) := AF.out.below hbb
                  have OT : Hid (Pc V15 ota otc ots (orL [P, [tt]])) := OT.out.below hbb
                  have HB : Hid (Below W.heap.size W V15) := HB.out.trans (hbb.mono HB.out.size)
                  clear hbb q0
                  have q0 := HC0.out _ HB.out
                  clear OT
                  go_wp2_with fail
                  refine Calls.mono (pc_not AP.out) ?_
                  intro e V16 hm
                  obtain ⟨nba, nbs, nbc, rfl, hpc, hbb⟩ := hm.pc (notL_good HGP.out) (by have h1 := notL_len P; have := HPL.out; omega)
                  have AP : Hid (Pc V16 (some ⟨b, off, none⟩) pc ys P) := AP.out.below hbb
                  have AQ : Hid (Pc V16 qa qc zs Q) := AQ.out.below hbb
                  have AT : Hid (Pc V16 (some ⟨V5.heap.size, 0, none⟩) 1 [⟨tt, none, 0⟩] [tt]) := AT.out.below hbb
                  have AF : Hid (Pc V16 (some ⟨V5.heap.size + 1, 0, none⟩) 1 [⟨ff, none, 0⟩] [ff]) := AF.out.below hbb
                  have NB : Hid (Pc V16 nba nbc nbs (notL P)) := hpc
                  have HB : Hid (Below W.heap.size W V16) := HB.out.trans (hbb.mono HB.out.size)
                  clear hm hpc hbb
                  clear q0
                  go_wp2_with fail
                  refine Calls.mono (pc_or2 AP.out NB.out) ?_
                  intro e V17 hm
                  obtain ⟨pna, pns, pnc, rfl, hpc, hbb⟩ := hm.pc (orL_good (good_two HGP.out (notL_good HGP.out))) (by rw [HON.out]; simp)
                  have AP : Hid (Pc V17 (some ⟨b, off, none⟩) pc ys P) := AP.out.below hbb
                  have AQ : Hid (Pc V17 qa qc zs Q) := AQ.out.below hbb
                  have AT : Hid (Pc V17 (some ⟨V5.heap.size, 0, none⟩) 1 [⟨tt, none, 0⟩] [tt]) := AT.out.below hbb
                  have AF : Hid (Pc V17 (some ⟨V5.heap.size + 1, 0, none⟩) 1 [⟨ff, none, 0⟩] [ff]) := AF.out.below hbb
                  have NB : Hid (Pc V17 nba nbc nbs (notL P)) := NB.out.below hbb
                  have PN : Hid (Pc V17 pna pnc pns (orL [P, notL P])) := hpc
                  have HB : Hid (Below W.heap.size W V17) := HB.out.trans (hbb.mono HB.out.size)
                  clear hm hpc hbb
                  go_wp2_with fail
                  refine Calls.mono (pc_same1 PN.out AT.out HON.out) ?_
                  rintro e V18 ⟨rfl, hbb⟩
                  have AP : Hid (Pc V18 (some ⟨b, off, none⟩) pc ys P) := AP.out.below hbb
                  have AQ : Hid (Pc V18 qa qc zs Q) := AQ.out.below hbb
                  have AT : Hid (Pc V18 (some ⟨V5.heap.size, 0, none⟩) 1 [⟨tt, none, 0⟩] [tt]) := AT.out.below hbb
                  have AF : Hid (Pc V18 (some ⟨V5.heap.size + 1, 0, none⟩) 1 [⟨ff, none, 0⟩] [ff]) := AF.out.below hbb
                  have NB : Hid (Pc V18 nba nbc nbs (notL P)) := NB.out.below hbb
                  have PN : Hid (Pc V18 pna pnc pns (orL [P, notL P])) := PN.out.below hbb
                  have HB : Hid (Below W.heap.size W V18) := HB.out.trans (hbb.mono HB.out.size)
                  clear hbb
                  clear NB PN
                  go_wp2_with fail
                  refine Calls.mono (pc_and2 AP.out AF.out) ?_
                  intro e V19 hm
                  obtain ⟨afa, afs, afc, rfl, hpc, hbb⟩ := hm.pc (andL_good (good_two HGP.out good_one)) (by rw [andL_ff]; simp)
                  have AP : Hid (Pc V19 (some ⟨b, off, none⟩) pc ys P) := AP.out.below hbb
                  have AQ : Hid (Pc V19 qa qc zs Q) := AQ.out.below hbb
                  have AT : Hid (Pc V19 (some ⟨V5.heap.size, 0, none⟩) 1 [⟨tt, none, 0⟩] [tt]) := AT.out.below hbb
                  have AF : Hid (Pc V19 (some ⟨V5.heap.size + 1, 0, none⟩) 1 [⟨ff, none, 0⟩] [ff]) := AF.out.below hbb
                  have AFF : Hid (Pc V19 afa afc afs (andL [P, [ff]])) := hpc
                  have HB : Hid (Below W.heap.size W V19) := HB.out.trans (hbb.mono HB.out.size)
                  clear hm hpc hbb
                  go_wp2_with fail
                  refine Calls.mono (pc_same1 AFF.out AF.out (andL_ff P)) ?_
                  rintro e V20 ⟨rfl, hbb⟩
                  have AP : Hid (Pc V20 (some ⟨b, off, none⟩) pc ys P) := AP.out.below hbb
                  have AQ : Hid (Pc V20 qa qc zs Q) := AQ.out.below hbb
                  have AT : Hid (Pc V20 (some ⟨V5.heap.size, 0, none⟩) 1 [⟨tt, none, 0⟩] [tt]) := AT.out.below hbb
                  have AF : Hid (Pc V20 (some ⟨V5.heap.size + 1, 0, none⟩) 1 [⟨ff, none, 0⟩] [ff]) := AF.out.below hbb
                  have AFF : Hid (Pc V20 afa afc afs (andL [P, [ff]])) := AFF.out.below hbb
                  have HB : Hid (Below W.heap.size W V20) := HB.out.trans (hbb.mono HB.out.size)
                  clear hbb
                  clear AFF
                  go_wp2_with fail
                  refine Calls.mono (pc_or0 _) ?_
                  intro e V21 hm
                  obtain ⟨oza, ozs, ozc, rfl, hpc, hbb⟩ := hm.pc (good_one) (by simp)
                  have AP : Hid (Pc V21 (some ⟨b, off, none⟩) pc ys P) := AP.out.below hbb
                  have AQ : Hid (Pc V21 qa qc zs Q) := AQ.out.below hbb
                  have AT : Hid (Pc V21 (some ⟨V5.heap.size, 0, none⟩) 1 [⟨tt, none, 0⟩] [tt]) := AT.out.below hbb
                  have AF : Hid (Pc V21 (some ⟨V5.heap.size + 1, 0, none⟩) 1 [⟨ff, none, 0⟩] [ff]) := AF.out.below hbb
                  have OZ : Hid (Pc V21 oza ozc ozs ([ff])) := hpc
                  have HB : Hid (Below W.heap.size W V21) := HB.out.trans (hbb.mono HB.out.size)
                  clear hm hpc hbb
                  go_wp2_with fail
                  refine Calls.mono (pc_same1 OZ.out AF.out rfl) ?_
                  rintro e V22 ⟨rfl, hbb⟩
                  have AP : Hid (Pc V22 (some ⟨b, off, none⟩) pc ys P) := AP.out.below hbb
                  have AQ : Hid (Pc V22 qa qc zs Q) := AQ.out.below hbb
                  have AT : Hid (Pc V22 (some ⟨V5.heap.size, 0, none⟩) 1 [⟨tt, none, 0⟩] [tt]) := AT.out.below hbb
                  have AF : Hid (Pc V22 (some ⟨V5.heap.size + 1, 0, none⟩) 1 [⟨ff, none, 0⟩] [ff]) := AF.out.below hbb
                  have OZ : Hid (Pc V22 oza ozc ozs ([ff])) := OZ.out.below hbb
                  have HB : Hid (Below W.heap.size W V22) := HB.out.trans (hbb.mono HB.out.size)
                  clear hbb
                  go_wp2_with fail
                  refine Calls.mono (pc_and0 _) ?_
                  intro e V23 hm
                  obtain ⟨aza, azs, azc, rfl, hpc, hbb⟩ := hm.pc (good_one) (by simp)
                  have AP : Hid (Pc V23 (some ⟨b, off, none⟩) pc ys P) := AP.out.below hbb
                  have AQ : Hid (Pc V23 qa qc zs Q) := AQ.out.below hbb
                  have AT : Hid (Pc V23 (some ⟨V5.heap.size, 0, none⟩) 1 [⟨tt, none, 0⟩] [tt]) := AT.out.below hbb
                  have AF : Hid (Pc V23 (some ⟨V5.heap.size + 1, 0, none⟩) 1 [⟨ff, none, 0⟩] [ff]) := AF.out.below hbb
                  have OZ : Hid (Pc V23 oza ozc ozs ([ff])) := OZ.out.below hbb
                  have AZ : Hid (Pc V23 aza azc azs ([tt])) := hpc
                  have HB : Hid (Below W.heap.size W V23) := HB.out.trans (hbb.mono HB.out.size)
                  clear hm hpc hbb
                  go_wp2_with fail
                  refine Calls.mono (pc_same1 AZ.out AT.out rfl) ?_
                  rintro e V24 ⟨rfl, hbb⟩
                  have AP : Hid (Pc V24 (some ⟨b, off, none⟩) pc ys P) := AP.out.below hbb
                  have AQ : Hid (Pc V24 qa qc zs Q) := AQ.out.below hbb
                  have AT : Hid (Pc V24 (some ⟨V5.heap.size, 0, none⟩) 1 [⟨tt, none, 0⟩] [tt]) := AT.out.below hbb
                  have AF : Hid (Pc V24 (some ⟨V5.heap.size + 1, 0, none⟩) 1 [⟨ff, none, 0⟩] [ff]) := AF.out.below hbb
                  have OZ : Hid (Pc V24 oza ozc ozs ([ff])) := OZ.out.below hbb
                  have AZ : Hid (Pc V24 aza azc azs ([tt])) := AZ.out.below hbb
                  have HB : Hid (Below W.heap.size W V24) := HB.out.trans (hbb.mono HB.out.size)
                  clear hbb
                  go_wp2
                  go_ret
                  exact ⟨rfl, HB.out⟩
end Go.Proofs.Ytpgdkgilmcipkaa
