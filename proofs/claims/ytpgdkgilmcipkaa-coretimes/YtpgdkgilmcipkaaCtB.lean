/- CoreTimes' walk. Conditions: what came in. -/
import Derived.Test.YtpgdkgilmcipkaaCp4
namespace Go.Proofs.Ytpgdkgilmcipkaa
open Go.RowKit
set_option linter.unusedVariables false
set_option maxRecDepth 100000

theorem ret_true {b : Bool} (h : b = true) : Ending.returned (.bool b) = .returned (.bool true) := by rw [h]
set_option maxHeartbeats 16000000 in
theorem ct_frame (pa : Option Addr) (pc : Nat) (ys : List NdV) (qa : Option Addr) (qc : Nat) (zs : List NdV) (fr to : Int) (W : World)
    (hpr : RowOf ndC 6 W pa ys) (hpk : ∀ y ∈ ys, NdKnown W y) (hpc : ys.length ≤ pc) (hpm : ys.length ≤ 9223372036854775807 ∧ (pa = none → pc = 0))
    (hqr : RowOf ndC 6 W qa zs) (hqk : ∀ y ∈ zs, NdKnown W y) (hqc : zs.length ≤ qc) (hqm : zs.length ≤ 9223372036854775807 ∧ (qa = none → qc = 0))
    (bf : -9223372036854775808 ≤ fr ∧ fr ≤ 9223372036854775807) (bt : -9223372036854775808 ≤ to ∧ to ≤ 9223372036854775807) :
    Calls Try.prog 5 #[.slice pa ys.length pc, .slice qa zs.length qc, .int .i64 fr, .int .i64 to] W fun e W' => e = .returned (.bool true) ∧ Below W.heap.size W W' := by
  have HAL : Hid (∀ X, Calls Try.prog 16 #[] X fun e W' => e = .returned (.bool true) ∧ Below X.heap.size X W') := fun X => alive8_any X
  have HB : Hid (Below W.heap.size W W) := Below.refl _ _
  have lp := light_any pa pc (ys.map (·.x)) W (nodeRow_of hpr hpk) (by rw [List.length_map]; exact hpm.1)
  have lq := light_any qa qc (zs.map (·.x)) W (nodeRow_of hqr hqk) (by rw [List.length_map]; exact hqm.1)
  rw [List.length_map] at lp lq
  have HAT : Hid (lightB (ys.map (·.x)) = true → NdsAt W pa pc ys ∧ GoodN (ys.map (·.x)) ∧ ys.length ≤ 310) := fun h => by
    obtain ⟨g, hl⟩ := light_good h
    rw [List.length_map] at hl
    exact ⟨known_at hpr hpk hpc hpm.2 (by omega) fun y hy => (g y.x (List.mem_map_of_mem hy)).1, g, hl⟩
  have HAT2 : Hid (lightB (zs.map (·.x)) = true → NdsAt W qa qc zs ∧ GoodN (zs.map (·.x)) ∧ zs.length ≤ 310) := fun h => by
    obtain ⟨g, hl⟩ := light_good h
    rw [List.length_map] at hl
    exact ⟨known_at hqr hqk hqc hqm.2 (by omega) fun y hy => (g y.x (List.mem_map_of_mem hy)).1, g, hl⟩
  clear hpr hpk hpc hpm hqr hqk hqc hqm
  cases h1 : lightB (ys.map (·.x)) with
  | false =>
    rw [h1] at lp
    clear h1 lq
    go_enter Try.func5, Try.ntmps5
    go_wp2_with fail
    refine Calls.mono lp ?_
    rintro e W1 ⟨rfl, hw⟩
    subst W1
    go_wp2_with fail
    refine Calls.mono (HAL.out _) ?_
    rintro e W9 ⟨rfl, hb9⟩
    go_wp2
    go_ret
    exact ⟨rfl, HB.out.trans (hb9.mono HB.out.size)⟩
  | true =>
    obtain ⟨hP, gP, nP⟩ := HAT.out h1
    rw [h1] at lp
    cases h2 : lightB (zs.map (·.x)) with
    | false =>
      rw [h2] at lq
      clear h1 h2
      go_enter Try.func5, Try.ntmps5
      go_wp2_with fail
      refine Calls.mono lp ?_
      rintro e W1 ⟨rfl, hw⟩
      subst W1
      go_wp2_with fail
      refine Calls.mono lq ?_
      rintro e W1 ⟨rfl, hw⟩
      subst W1
      go_wp2_with fail
      refine Calls.mono (HAL.out _) ?_
      rintro e W9 ⟨rfl, hb9⟩
      go_wp2
      go_ret
      exact ⟨rfl, HB.out.trans (hb9.mono HB.out.size)⟩
    | true =>
      obtain ⟨hQ, gQ, nQ⟩ := HAT2.out h2
      rw [h2] at lq
      have HP : Hid (∀ X, Below W.heap.size W X → NdsAt X pa pc ys) := fun X hX => hP.below hX
      have HQ : Hid (∀ X, Below W.heap.size W X → NdsAt X qa qc zs) := fun X hX => hQ.below hX
      have HGP : Hid (GoodN (ys.map (·.x))) := gP
      have HGQ : Hid (GoodN (zs.map (·.x))) := gQ
      have HIP : Hid (∀ X, Below W.heap.size W X → Calls Try.prog 15 #[.slice pa ys.length pc] X fun e W' => e = .returned (.bool (isCoreB (ys.map (·.x)))) ∧ Below X.heap.size X W') := fun X hX => by
        have := isCore_any pa pc (ys.map (·.x)) X (hP.below hX).nodes (by rw [List.length_map]; omega) gP
        rw [List.length_map] at this; exact this
      have HIQ : Hid (∀ X, Below W.heap.size W X → Calls Try.prog 15 #[.slice qa zs.length qc] X fun e W' => e = .returned (.bool (isCoreB (zs.map (·.x)))) ∧ Below X.heap.size X W') := fun X hX => by
        have := isCore_any qa qc (zs.map (·.x)) X (hQ.below hX).nodes (by rw [List.length_map]; omega) gQ
        rw [List.length_map] at this; exact this
      clear h1 h2 hP hQ gP gQ HAT HAT2
      cases h3 : isCoreB (ys.map (·.x)) with
      | false =>
        rw [h3] at HIP
        clear h3
        go_enter Try.func5, Try.ntmps5
        go_wp2_with fail
        refine Calls.mono lp ?_
        rintro e W1 ⟨rfl, hw⟩
        subst W1
        go_wp2_with fail
        refine Calls.mono lq ?_
        rintro e W1 ⟨rfl, hw⟩
        subst W1
        go_wp2_with fail
        refine Calls.mono (HIP.out _ HB.out) ?_
        rintro e W1 ⟨rfl, hb1⟩
        have HB : Hid (Below W.heap.size W W1) := HB.out.trans (hb1.mono HB.out.size)
        clear hb1
        go_wp2_with fail
        refine Calls.mono (HAL.out _) ?_
        rintro e W9 ⟨rfl, hb9⟩
        go_wp2
        go_ret
        exact ⟨rfl, HB.out.trans (hb9.mono HB.out.size)⟩
      | true =>
        have C1 := core_pos h3
        have C2 := core_ff h3
        rw [List.length_map] at C1
        rw [h3] at HIP
        cases h4 : isCoreB (zs.map (·.x)) with
        | false =>
          rw [h4] at HIQ
          clear h3 h4 C2
          go_enter Try.func5, Try.ntmps5
          go_wp2_with fail
          refine Calls.mono lp ?_
          rintro e W1 ⟨rfl, hw⟩
          subst W1
          go_wp2_with fail
          refine Calls.mono lq ?_
          rintro e W1 ⟨rfl, hw⟩
          subst W1
          go_wp2_with fail
          refine Calls.mono (HIP.out _ HB.out) ?_
          rintro e W1 ⟨rfl, hb1⟩
          have HB : Hid (Below W.heap.size W W1) := HB.out.trans (hb1.mono HB.out.size)
          clear hb1
          go_wp2_with fail
          refine Calls.mono (HIQ.out _ HB.out) ?_
          rintro e W1 ⟨rfl, hb1⟩
          have HB : Hid (Below W.heap.size W W1) := HB.out.trans (hb1.mono HB.out.size)
          clear hb1
          go_wp2_with fail
          refine Calls.mono (HAL.out _) ?_
          rintro e W9 ⟨rfl, hb9⟩
          go_wp2
          go_ret
          exact ⟨rfl, HB.out.trans (hb9.mono HB.out.size)⟩
        | true =>
          have D1 := core_pos h4
          have D2 := core_ff h4
          rw [List.length_map] at D1
          rw [h4] at HIQ
          have k1 : ((ys.length : Int) == 0) = false := by rw [beq_eq_false_iff_ne]; omega
          have k2 : ((zs.length : Int) == 0) = false := by rw [beq_eq_false_iff_ne]; omega
          clear h3 h4
          by_cases h5 : fr < 0
          · clear C2 D2
            go_enter Try.func5, Try.ntmps5
            go_wp2_with fail
            refine Calls.mono lp ?_
            rintro e W1 ⟨rfl, hw⟩
            subst W1
            go_wp2_with fail
            refine Calls.mono lq ?_
            rintro e W1 ⟨rfl, hw⟩
            subst W1
            go_wp2_with fail
            refine Calls.mono (HIP.out _ HB.out) ?_
            rintro e W1 ⟨rfl, hb1⟩
            have HB : Hid (Below W.heap.size W W1) := HB.out.trans (hb1.mono HB.out.size)
            clear hb1
            go_wp2_with fail
            refine Calls.mono (HIQ.out _ HB.out) ?_
            rintro e W1 ⟨rfl, hb1⟩
            have HB : Hid (Below W.heap.size W W1) := HB.out.trans (hb1.mono HB.out.size)
            clear hb1
            go_wp2_with fail
            refine Calls.mono (HAL.out _) ?_
            rintro e W9 ⟨rfl, hb9⟩
            go_wp2
            go_ret
            exact ⟨rfl, HB.out.trans (hb9.mono HB.out.size)⟩
          · by_cases h6 : to < -1
            · clear C2 D2
              go_enter Try.func5, Try.ntmps5
              go_wp2_with fail
              refine Calls.mono lp ?_
              rintro e W1 ⟨rfl, hw⟩
              subst W1
              go_wp2_with fail
              refine Calls.mono lq ?_
              rintro e W1 ⟨rfl, hw⟩
              subst W1
              go_wp2_with fail
              refine Calls.mono (HIP.out _ HB.out) ?_
              rintro e W1 ⟨rfl, hb1⟩
              have HB : Hid (Below W.heap.size W W1) := HB.out.trans (hb1.mono HB.out.size)
              clear hb1
              go_wp2_with fail
              refine Calls.mono (HIQ.out _ HB.out) ?_
              rintro e W1 ⟨rfl, hb1⟩
              have HB : Hid (Below W.heap.size W W1) := HB.out.trans (hb1.mono HB.out.size)
              clear hb1
              go_wp2_with fail
              refine Calls.mono (HAL.out _) ?_
              rintro e W9 ⟨rfl, hb9⟩
              go_wp2
              go_ret
              exact ⟨rfl, HB.out.trans (hb9.mono HB.out.size)⟩
            · have HSI : Hid (∀ X, Below W.heap.size W X → Calls Try.prog 21 #[.int .i64 fr, .int .i64 to, .slice pa ys.length pc, .slice qa zs.length qc] X (Makes X (sinceL fr to (ys.map (·.x)) (zs.map (·.x))))) := fun X hX => since_any fr to pa qa pc qc ys zs X (HP.out X hX) (HQ.out X hX) (by omega) (by omega)
              have HSG : Hid (GoodN (sinceL fr to (ys.map (·.x)) (zs.map (·.x))) ∧ (sinceL fr to (ys.map (·.x)) (zs.map (·.x))).length ≤ 1000) := ⟨sinceL_good HGP.out HGQ.out, by have := sinceL_len fr to (ys.map (·.x)) (zs.map (·.x)); rw [List.length_map, List.length_map] at this; omega⟩
              have HSE : Hid (sinceL fr to (ys.map (·.x)) (zs.map (·.x)) = if sameB (zs.map (·.x)) [ff] || neverB fr to then [ff] else if fr == 0 && to == 0 then zs.map (·.x) else if sameB (ys.map (·.x)) [ff] && fr == 0 then zs.map (·.x) else if sameB (ys.map (·.x)) [ff] then [ff] else mkL 10 fr to [ys.map (·.x), zs.map (·.x)]) := by
                show _ = _
                rw [C2, D2]; rfl
              clear C2 D2
              go_enter Try.func5, Try.ntmps5
              go_wp2_with fail
              refine Calls.mono lp ?_
              rintro e W1 ⟨rfl, hw⟩
              subst W1
              go_wp2_with fail
              refine Calls.mono lq ?_
              rintro e W1 ⟨rfl, hw⟩
              subst W1
              go_wp2_with fail
              refine Calls.mono (HIP.out _ HB.out) ?_
              rintro e W1 ⟨rfl, hb1⟩
              have HB : Hid (Below W.heap.size W W1) := HB.out.trans (hb1.mono HB.out.size)
              clear hb1
              go_wp2_with fail
              refine Calls.mono (HIQ.out _ HB.out) ?_
              rintro e W1 ⟨rfl, hb1⟩
              have HB : Hid (Below W.heap.size W W1) := HB.out.trans (hb1.mono HB.out.size)
              clear hb1
              clear lp lq HIP HIQ
              go_wp2_with fail
              refine Calls.mono (HSI.out _ HB.out) ?_
              intro e W2 hm
              obtain ⟨v, rfl, hm2⟩ := hm.ret
              obtain ⟨sa, ss, sc, rfl, hsn, _, hse, hsb⟩ := hm2.at HSG.out.1 (by have := HSG.out.2; omega)
              have HB0 : Hid (Below W.heap.size W W2) := HB.out.trans (hsb.mono HB.out.size)
              have hf := op_nds W2 1 0 0 0
              have hbf : Below W2.heap.size W2 (W2.alloc (.cells #[.int .i64 1, .int .i64 0, .int .i64 0, .int .i64 0, .slice none 0 0, .int .i64 0] 37)) := (Below.refl _ _).alloc (Nat.le_refl _) _
              have HF : Hid (∀ X, Below (W2.alloc (.cells #[.int .i64 1, .int .i64 0, .int .i64 0, .int .i64 0, .slice none 0 0, .int .i64 0] 37)).heap.size (W2.alloc (.cells #[.int .i64 1, .int .i64 0, .int .i64 0, .int .i64 0, .slice none 0 0, .int .i64 0] 37)) X → NdsAt X (some ⟨W2.heap.size, 0, none⟩) 1 [⟨ff, none, 0⟩] ∧ NdsAt X sa sc ss ∧ Below W.heap.size W X) := fun X hX => ⟨hf.below hX, (hsn.below hbf).below hX, HB0.out.trans ((hbf.trans (hX.mono hbf.size)).mono HB0.out.size)⟩
              have HSX : Hid (ss.map (·.x) = sinceL fr to (ys.map (·.x)) (zs.map (·.x))) := hse
              have HQF : Hid (∀ X, Below (W2.alloc (.cells #[.int .i64 1, .int .i64 0, .int .i64 0, .int .i64 0, .slice none 0 0, .int .i64 0] 37)).heap.size (W2.alloc (.cells #[.int .i64 1, .int .i64 0, .int .i64 0, .int .i64 0, .slice none 0 0, .int .i64 0] 37)) X → Calls Try.prog 18 #[.slice qa zs.length qc, .slice (some ⟨W2.heap.size, 0, none⟩) 1 1] X fun e W' => e = .returned (.bool (sameB (zs.map (·.x)) [ff])) ∧ Below X.heap.size X W') := fun X hX => same_nds (HQ.out X (HF.out X hX).2.2) (HF.out X hX).1
              have HPF : Hid (∀ X, Below (W2.alloc (.cells #[.int .i64 1, .int .i64 0, .int .i64 0, .int .i64 0, .slice none 0 0, .int .i64 0] 37)).heap.size (W2.alloc (.cells #[.int .i64 1, .int .i64 0, .int .i64 0, .int .i64 0, .slice none 0 0, .int .i64 0] 37)) X → Calls Try.prog 18 #[.slice pa ys.length pc, .slice (some ⟨W2.heap.size, 0, none⟩) 1 1] X fun e W' => e = .returned (.bool (sameB (ys.map (·.x)) [ff])) ∧ Below X.heap.size X W') := fun X hX => same_nds (HP.out X (HF.out X hX).2.2) (HF.out X hX).1
              have HSF : Hid (∀ X, Below (W2.alloc (.cells #[.int .i64 1, .int .i64 0, .int .i64 0, .int .i64 0, .slice none 0 0, .int .i64 0] 37)).heap.size (W2.alloc (.cells #[.int .i64 1, .int .i64 0, .int .i64 0, .int .i64 0, .slice none 0 0, .int .i64 0] 37)) X → Calls Try.prog 18 #[.slice sa ss.length sc, .slice (some ⟨W2.heap.size, 0, none⟩) 1 1] X fun e W' => e = .returned (.bool (sameB (sinceL fr to (ys.map (·.x)) (zs.map (·.x))) [ff])) ∧ Below X.heap.size X W') := fun X hX => by
                have := same_nds (HF.out X hX).2.1 (HF.out X hX).1
                rw [HSX.out] at this; exact this
              have HSQ : Hid (∀ X, Below (W2.alloc (.cells #[.int .i64 1, .int .i64 0, .int .i64 0, .int .i64 0, .slice none 0 0, .int .i64 0] 37)).heap.size (W2.alloc (.cells #[.int .i64 1, .int .i64 0, .int .i64 0, .int .i64 0, .slice none 0 0, .int .i64 0] 37)) X → Calls Try.prog 18 #[.slice sa ss.length sc, .slice qa zs.length qc] X fun e W' => e = .returned (.bool (sameB (sinceL fr to (ys.map (·.x)) (zs.map (·.x))) (zs.map (·.x)))) ∧ Below X.heap.size X W') := fun X hX => by
                have := same_nds (HF.out X hX).2.1 (HQ.out X (HF.out X hX).2.2)
                rw [HSX.out] at this; exact this
              clear hm hm2 hsn hse hsb hf hbf HSI HSG
              have HX : Hid (Below (W2.alloc (.cells #[.int .i64 1, .int .i64 0, .int .i64 0, .int .i64 0, .slice none 0 0, .int .i64 0] 37)).heap.size (W2.alloc (.cells #[.int .i64 1, .int .i64 0, .int .i64 0, .int .i64 0, .slice none 0 0, .int .i64 0] 37)) (W2.alloc (.cells #[.int .i64 1, .int .i64 0, .int .i64 0, .int .i64 0, .slice none 0 0, .int .i64 0] 37))) := Below.refl _ _
              have HUP : Hid (∀ X, Below (W2.alloc (.cells #[.int .i64 1, .int .i64 0, .int .i64 0, .int .i64 0, .slice none 0 0, .int .i64 0] 37)).heap.size (W2.alloc (.cells #[.int .i64 1, .int .i64 0, .int .i64 0, .int .i64 0, .slice none 0 0, .int .i64 0] 37)) X → Below W.heap.size W X) := fun X hX => (HF.out X hX).2.2
              generalize hsb : sameB (zs.map (·.x)) [ff] = bq at *
              generalize hpb : sameB (ys.map (·.x)) [ff] = bp at *
              clear hsb hpb
              have HFIN : Hid (bq = false → neverB fr to = false → (fr = 0 → to ≠ 0 ∧ bp = false) → bp = false → ss.map (·.x) = mkL 10 fr to [ys.map (·.x), zs.map (·.x)]) := fun e1 e2 e3 e4 => by
                rw [HSX.out, HSE.out, e1, e2, e4]
                have : (fr == 0 && to == 0) = false := by
                  by_cases h : fr = 0
                  · have := (e3 h).1; simp [h, this]
                  · simp [h]
                simp [this]
              generalize sinceL fr to (ys.map (·.x)) (zs.map (·.x)) = res at *
              by_cases t1 : to = -1
              · have k3 : (to == -1) = true := by simp [t1]
                have k4 : (to != -1) = false := by simp [t1]
                have HNV : Hid (neverB fr to = false) := by simp [Hid, neverB, t1]
                have t2 : ¬ (to = 0) := by omega
                have k8 : (to == 0) = false := by simpa using t2
                clear t1
                cases bq with
                | true =>
                  have HRES : Hid (sameB res [ff] = true) := by show _ = _; rw [HSE.out]; simp; exact same_refl _
                  go_wp2_with fail
                  refine Calls.mono (HQF.out _ HX.out) ?_
                  rintro e W3 ⟨rfl, hb3⟩
                  have HX : Hid (Below (W2.alloc (.cells #[.int .i64 1, .int .i64 0, .int .i64 0, .int .i64 0, .slice none 0 0, .int .i64 0] 37)).heap.size (W2.alloc (.cells #[.int .i64 1, .int .i64 0, .int .i64 0, .int .i64 0, .slice none 0 0, .int .i64 0] 37)) W3) := HX.out.trans (hb3.mono HX.out.size)
                  clear hb3
                  go_wp2_with fail
                  refine Calls.mono (HAL.out _) ?_
                  rintro e W3 ⟨rfl, hb3⟩
                  have HX : Hid (Below (W2.alloc (.cells #[.int .i64 1, .int .i64 0, .int .i64 0, .int .i64 0, .slice none 0 0, .int .i64 0] 37)).heap.size (W2.alloc (.cells #[.int .i64 1, .int .i64 0, .int .i64 0, .int .i64 0, .slice none 0 0, .int .i64 0] 37)) W3) := HX.out.trans (hb3.mono HX.out.size)
                  clear hb3
                  go_wp2_with fail
                  refine Calls.mono (HSF.out _ HX.out) ?_
                  rintro e W3 ⟨rfl, hb3⟩
                  have HX : Hid (Below (W2.alloc (.cells #[.int .i64 1, .int .i64 0, .int .i64 0, .int .i64 0, .slice none 0 0, .int .i64 0] 37)).heap.size (W2.alloc (.cells #[.int .i64 1, .int .i64 0, .int .i64 0, .int .i64 0, .slice none 0 0, .int .i64 0] 37)) W3) := HX.out.trans (hb3.mono HX.out.size)
                  clear hb3
                  go_wp2
                  go_ret
                  exact ⟨ret_true HRES.out, HUP.out _ HX.out⟩
                | false =>
                  by_cases f0 : fr = 0
                  · have k9 : (fr == 0) = true := by simp [f0]
                    cases bp with
                    | true =>
                      have HRES : Hid (sameB res (zs.map (·.x)) = true) := by show _ = _; rw [HSE.out, HNV.out, k9, k8]; simp; exact same_refl _
                      clear f0
                      go_wp2_with fail
                      refine Calls.mono (HQF.out _ HX.out) ?_
                      rintro e W3 ⟨rfl, hb3⟩
                      have HX : Hid (Below (W2.alloc (.cells #[.int .i64 1, .int .i64 0, .int .i64 0, .int .i64 0, .slice none 0 0, .int .i64 0] 37)).heap.size (W2.alloc (.cells #[.int .i64 1, .int .i64 0, .int .i64 0, .int .i64 0, .slice none 0 0, .int .i64 0] 37)) W3) := HX.out.trans (hb3.mono HX.out.size)
                      clear hb3
                      go_wp2_with fail
                      refine Calls.mono (HPF.out _ HX.out) ?_
                      rintro e W3 ⟨rfl, hb3⟩
                      have HX : Hid (Below (W2.alloc (.cells #[.int .i64 1, .int .i64 0, .int .i64 0, .int .i64 0, .slice none 0 0, .int .i64 0] 37)).heap.size (W2.alloc (.cells #[.int .i64 1, .int .i64 0, .int .i64 0, .int .i64 0, .slice none 0 0, .int .i64 0] 37)) W3) := HX.out.trans (hb3.mono HX.out.size)
                      clear hb3
                      go_wp2_with fail
                      refine Calls.mono (HAL.out _) ?_
                      rintro e W3 ⟨rfl, hb3⟩
                      have HX : Hid (Below (W2.alloc (.cells #[.int .i64 1, .int .i64 0, .int .i64 0, .int .i64 0, .slice none 0 0, .int .i64 0] 37)).heap.size (W2.alloc (.cells #[.int .i64 1, .int .i64 0, .int .i64 0, .int .i64 0, .slice none 0 0, .int .i64 0] 37)) W3) := HX.out.trans (hb3.mono HX.out.size)
                      clear hb3
                      go_wp2_with fail
                      refine Calls.mono (HSQ.out _ HX.out) ?_
                      rintro e W3 ⟨rfl, hb3⟩
                      have HX : Hid (Below (W2.alloc (.cells #[.int .i64 1, .int .i64 0, .int .i64 0, .int .i64 0, .slice none 0 0, .int .i64 0] 37)).heap.size (W2.alloc (.cells #[.int .i64 1, .int .i64 0, .int .i64 0, .int .i64 0, .slice none 0 0, .int .i64 0] 37)) W3) := HX.out.trans (hb3.mono HX.out.size)
                      clear hb3
                      go_wp2
                      go_ret
                      exact ⟨ret_true HRES.out, HUP.out _ HX.out⟩
                    | false =>
                      have HL := HFIN.out rfl HNV.out (fun _ => ⟨t2, rfl⟩) rfl
                      clear f0
                      go_wp2_with fail
                      refine Calls.mono (HQF.out _ HX.out) ?_
                      rintro e W3 ⟨rfl, hb3⟩
                      have HX : Hid (Below (W2.alloc (.cells #[.int .i64 1, .int .i64 0, .int .i64 0, .int .i64 0, .slice none 0 0, .int .i64 0] 37)).heap.size (W2.alloc (.cells #[.int .i64 1, .int .i64 0, .int .i64 0, .int .i64 0, .slice none 0 0, .int .i64 0] 37)) W3) := HX.out.trans (hb3.mono HX.out.size)
                      clear hb3
                      go_wp2_with fail
                      refine Calls.mono (HPF.out _ HX.out) ?_
                      rintro e W3 ⟨rfl, hb3⟩
                      have HX : Hid (Below (W2.alloc (.cells #[.int .i64 1, .int .i64 0, .int .i64 0, .int .i64 0, .slice none 0 0, .int .i64 0] 37)).heap.size (W2.alloc (.cells #[.int .i64 1, .int .i64 0, .int .i64 0, .int .i64 0, .slice none 0 0, .int .i64 0] 37)) W3) := HX.out.trans (hb3.mono HX.out.size)
                      clear hb3
                      go_wp2_with fail
                      refine Calls.mono (HPF.out _ HX.out) ?_
                      rintro e W3 ⟨rfl, hb3⟩
                      have HX : Hid (Below (W2.alloc (.cells #[.int .i64 1, .int .i64 0, .int .i64 0, .int .i64 0, .slice none 0 0, .int .i64 0] 37)).heap.size (W2.alloc (.cells #[.int .i64 1, .int .i64 0, .int .i64 0, .int .i64 0, .slice none 0 0, .int .i64 0] 37)) W3) := HX.out.trans (hb3.mono HX.out.size)
                      clear hb3
                      have h9 : ss.length = ys.length + zs.length + 1 := by
                        have := congrArg List.length HL
                        rw [List.length_map, mkL_len] at this
                        simp [totN] at this
                        exact this
                      obtain ⟨s0, st, rfl, g1, g2, g3⟩ : ∃ s0 st, ss = s0 :: st ∧ s0.x.op = 10 ∧ s0.x.fr = fr ∧ s0.x.to = to := by
                        cases ss with
                        | nil => simp at h9
                        | cons s0 st =>
                          refine ⟨s0, st, rfl, ?_⟩
                          unfold mkL at HL
                          simp only [List.map_cons, List.cons.injEq] at HL
                          rw [HL.1]
                          exact ⟨rfl, rfl, rfl⟩
                      have HCEL : Hid (∃ b off, sa = some ⟨b, off, none⟩ ∧ ∀ X, Below (W2.alloc (.cells #[.int .i64 1, .int .i64 0, .int .i64 0, .int .i64 0, .slice none 0 0, .int .i64 0] 37)).heap.size (W2.alloc (.cells #[.int .i64 1, .int .i64 0, .int .i64 0, .int .i64 0, .slice none 0 0, .int .i64 0] 37)) X → X.cell? ⟨b, off, none⟩ = some (.int .i64 10) ∧ X.cell? ⟨b, off + 2, none⟩ = some (.int .i64 fr) ∧ X.cell? ⟨b, off + 3, none⟩ = some (.int .i64 to)) := by
                        obtain ⟨b, off, e, _⟩ := ((HF.out _ (Below.refl _ _)).2.1).row 0 (by simp)
                        refine ⟨b, off, e, fun X hX => ?_⟩
                        obtain ⟨b', off', e', hj⟩ := ((HF.out X hX).2.1).row 0 (by simp)
                        rw [e] at e'
                        cases e'
                        have j0 := hj 0 (by omega)
                        have j2 := hj 2 (by omega)
                        have j3 := hj 3 (by omega)
                        simp [ndC, g1, g2, g3] at j0 j2 j3
                        exact ⟨j0, j2, j3⟩
                      obtain ⟨b, off, rfl, hcel⟩ := HCEL.out
                      have HL9 : Hid ((s0 :: st).length = ys.length + zs.length + 1) := h9
                      have hsl : (((s0 :: st).length : Int) == (ys.length : Int) + (zs.length : Int) + 1) = true := by rw [h9]; simp
                      have hslp : 0 < (s0 :: st).length := by simp
                      have w1 : wrap64 ((ys.length : Int) + (zs.length : Int)) = (ys.length : Int) + (zs.length : Int) := by unfold wrap64; omega
                      have w2 : wrap64 ((ys.length : Int) + (zs.length : Int) + 1) = (ys.length : Int) + (zs.length : Int) + 1 := by unfold wrap64; omega
                      have HCC : Hid (∀ X, Below (W2.alloc (.cells #[.int .i64 1, .int .i64 0, .int .i64 0, .int .i64 0, .slice none 0 0, .int .i64 0] 37)).heap.size (W2.alloc (.cells #[.int .i64 1, .int .i64 0, .int .i64 0, .int .i64 0, .slice none 0 0, .int .i64 0] 37)) X → X.cell? ⟨b, off, none⟩ = some (.int .i64 10) ∧ X.cell? ⟨b, off + 2, none⟩ = some (.int .i64 fr) ∧ X.cell? ⟨b, off + 3, none⟩ = some (.int .i64 to)) := hcel
                      clear HCEL hcel HL h9 g1 g2 g3
                      generalize (s0 :: st).length = sl at *
                      go_wp2_with fail
                      refine Calls.mono (HAL.out _) ?_
                      rintro e W3 ⟨rfl, hb3⟩
                      have HX : Hid (Below (W2.alloc (.cells #[.int .i64 1, .int .i64 0, .int .i64 0, .int .i64 0, .slice none 0 0, .int .i64 0] 37)).heap.size (W2.alloc (.cells #[.int .i64 1, .int .i64 0, .int .i64 0, .int .i64 0, .slice none 0 0, .int .i64 0] 37)) W3) := HX.out.trans (hb3.mono HX.out.size)
                      clear hb3
                      obtain ⟨q0, q2, q3⟩ := HCC.out _ HX.out
                      go_wp2
                      go_ret
                      exact ⟨rfl, HUP.out _ HX.out⟩
                  · have k9 : (fr == 0) = false := by simpa using f0
                    cases bp with
                    | true =>
                      have HRES : Hid (sameB res [ff] = true) := by show _ = _; rw [HSE.out, HNV.out, k9]; simp; exact same_refl _
                      go_wp2_with fail
                      refine Calls.mono (HQF.out _ HX.out) ?_
                      rintro e W3 ⟨rfl, hb3⟩
                      have HX : Hid (Below (W2.alloc (.cells #[.int .i64 1, .int .i64 0, .int .i64 0, .int .i64 0, .slice none 0 0, .int .i64 0] 37)).heap.size (W2.alloc (.cells #[.int .i64 1, .int .i64 0, .int .i64 0, .int .i64 0, .slice none 0 0, .int .i64 0] 37)) W3) := HX.out.trans (hb3.mono HX.out.size)
                      clear hb3
                      go_wp2_with fail
                      refine Calls.mono (HPF.out _ HX.out) ?_
                      rintro e W3 ⟨rfl, hb3⟩
                      have HX : Hid (Below (W2.alloc (.cells #[.int .i64 1, .int .i64 0, .int .i64 0, .int .i64 0, .slice none 0 0, .int .i64 0] 37)).heap.size (W2.alloc (.cells #[.int .i64 1, .int .i64 0, .int .i64 0, .int .i64 0, .slice none 0 0, .int .i64 0] 37)) W3) := HX.out.trans (hb3.mono HX.out.size)
                      clear hb3
                      go_wp2_with fail
                      refine Calls.mono (HAL.out _) ?_
                      rintro e W3 ⟨rfl, hb3⟩
                      have HX : Hid (Below (W2.alloc (.cells #[.int .i64 1, .int .i64 0, .int .i64 0, .int .i64 0, .slice none 0 0, .int .i64 0] 37)).heap.size (W2.alloc (.cells #[.int .i64 1, .int .i64 0, .int .i64 0, .int .i64 0, .slice none 0 0, .int .i64 0] 37)) W3) := HX.out.trans (hb3.mono HX.out.size)
                      clear hb3
                      go_wp2_with fail
                      refine Calls.mono (HSF.out _ HX.out) ?_
                      rintro e W3 ⟨rfl, hb3⟩
                      have HX : Hid (Below (W2.alloc (.cells #[.int .i64 1, .int .i64 0, .int .i64 0, .int .i64 0, .slice none 0 0, .int .i64 0] 37)).heap.size (W2.alloc (.cells #[.int .i64 1, .int .i64 0, .int .i64 0, .int .i64 0, .slice none 0 0, .int .i64 0] 37)) W3) := HX.out.trans (hb3.mono HX.out.size)
                      clear hb3
                      go_wp2
                      go_ret
                      exact ⟨ret_true HRES.out, HUP.out _ HX.out⟩
                    | false =>
                      have HL := HFIN.out rfl HNV.out (fun q => absurd q f0) rfl
                      go_wp2_with fail
                      refine Calls.mono (HQF.out _ HX.out) ?_
                      rintro e W3 ⟨rfl, hb3⟩
                      have HX : Hid (Below (W2.alloc (.cells #[.int .i64 1, .int .i64 0, .int .i64 0, .int .i64 0, .slice none 0 0, .int .i64 0] 37)).heap.size (W2.alloc (.cells #[.int .i64 1, .int .i64 0, .int .i64 0, .int .i64 0, .slice none 0 0, .int .i64 0] 37)) W3) := HX.out.trans (hb3.mono HX.out.size)
                      clear hb3
                      go_wp2_with fail
                      refine Calls.mono (HPF.out _ HX.out) ?_
                      rintro e W3 ⟨rfl, hb3⟩
                      have HX : Hid (Below (W2.alloc (.cells #[.int .i64 1, .int .i64 0, .int .i64 0, .int .i64 0, .slice none 0 0, .int .i64 0] 37)).heap.size (W2.alloc (.cells #[.int .i64 1, .int .i64 0, .int .i64 0, .int .i64 0, .slice none 0 0, .int .i64 0] 37)) W3) := HX.out.trans (hb3.mono HX.out.size)
                      clear hb3
                      have h9 : ss.length = ys.length + zs.length + 1 := by
                        have := congrArg List.length HL
                        rw [List.length_map, mkL_len] at this
                        simp [totN] at this
                        exact this
                      obtain ⟨s0, st, rfl, g1, g2, g3⟩ : ∃ s0 st, ss = s0 :: st ∧ s0.x.op = 10 ∧ s0.x.fr = fr ∧ s0.x.to = to := by
                        cases ss with
                        | nil => simp at h9
                        | cons s0 st =>
                          refine ⟨s0, st, rfl, ?_⟩
                          unfold mkL at HL
                          simp only [List.map_cons, List.cons.injEq] at HL
                          rw [HL.1]
                          exact ⟨rfl, rfl, rfl⟩
                      have HCEL : Hid (∃ b off, sa = some ⟨b, off, none⟩ ∧ ∀ X, Below (W2.alloc (.cells #[.int .i64 1, .int .i64 0, .int .i64 0, .int .i64 0, .slice none 0 0, .int .i64 0] 37)).heap.size (W2.alloc (.cells #[.int .i64 1, .int .i64 0, .int .i64 0, .int .i64 0, .slice none 0 0, .int .i64 0] 37)) X → X.cell? ⟨b, off, none⟩ = some (.int .i64 10) ∧ X.cell? ⟨b, off + 2, none⟩ = some (.int .i64 fr) ∧ X.cell? ⟨b, off + 3, none⟩ = some (.int .i64 to)) := by
                        obtain ⟨b, off, e, _⟩ := ((HF.out _ (Below.refl _ _)).2.1).row 0 (by simp)
                        refine ⟨b, off, e, fun X hX => ?_⟩
                        obtain ⟨b', off', e', hj⟩ := ((HF.out X hX).2.1).row 0 (by simp)
                        rw [e] at e'
                        cases e'
                        have j0 := hj 0 (by omega)
                        have j2 := hj 2 (by omega)
                        have j3 := hj 3 (by omega)
                        simp [ndC, g1, g2, g3] at j0 j2 j3
                        exact ⟨j0, j2, j3⟩
                      obtain ⟨b, off, rfl, hcel⟩ := HCEL.out
                      have HL9 : Hid ((s0 :: st).length = ys.length + zs.length + 1) := h9
                      have hsl : (((s0 :: st).length : Int) == (ys.length : Int) + (zs.length : Int) + 1) = true := by rw [h9]; simp
                      have hslp : 0 < (s0 :: st).length := by simp
                      have w1 : wrap64 ((ys.length : Int) + (zs.length : Int)) = (ys.length : Int) + (zs.length : Int) := by unfold wrap64; omega
                      have w2 : wrap64 ((ys.length : Int) + (zs.length : Int) + 1) = (ys.length : Int) + (zs.length : Int) + 1 := by unfold wrap64; omega
                      have HCC : Hid (∀ X, Below (W2.alloc (.cells #[.int .i64 1, .int .i64 0, .int .i64 0, .int .i64 0, .slice none 0 0, .int .i64 0] 37)).heap.size (W2.alloc (.cells #[.int .i64 1, .int .i64 0, .int .i64 0, .int .i64 0, .slice none 0 0, .int .i64 0] 37)) X → X.cell? ⟨b, off, none⟩ = some (.int .i64 10) ∧ X.cell? ⟨b, off + 2, none⟩ = some (.int .i64 fr) ∧ X.cell? ⟨b, off + 3, none⟩ = some (.int .i64 to)) := hcel
                      clear HCEL hcel HL h9 g1 g2 g3
                      generalize (s0 :: st).length = sl at *
                      go_wp2_with fail
                      refine Calls.mono (HAL.out _) ?_
                      rintro e W3 ⟨rfl, hb3⟩
                      have HX : Hid (Below (W2.alloc (.cells #[.int .i64 1, .int .i64 0, .int .i64 0, .int .i64 0, .slice none 0 0, .int .i64 0] 37)).heap.size (W2.alloc (.cells #[.int .i64 1, .int .i64 0, .int .i64 0, .int .i64 0, .slice none 0 0, .int .i64 0] 37)) W3) := HX.out.trans (hb3.mono HX.out.size)
                      clear hb3
                      obtain ⟨q0, q2, q3⟩ := HCC.out _ HX.out
                      go_wp2
                      go_ret
                      exact ⟨rfl, HUP.out _ HX.out⟩
              · have k3 : (to == -1) = false := by simpa using t1
                have k4 : (to != -1) = true := by simpa using t1
                by_cases t3 : to < fr
                · have HRES : Hid (sameB res [ff] = true) := by
                    have : neverB fr to = true := (never_iff fr to).2 ⟨t1, t3⟩
                    show _ = _
                    rw [HSE.out, this]; simp; exact same_refl _
                  clear t1
                  go_wp2_with fail
                  refine Calls.mono (HAL.out _) ?_
                  rintro e W3 ⟨rfl, hb3⟩
                  have HX : Hid (Below (W2.alloc (.cells #[.int .i64 1, .int .i64 0, .int .i64 0, .int .i64 0, .slice none 0 0, .int .i64 0] 37)).heap.size (W2.alloc (.cells #[.int .i64 1, .int .i64 0, .int .i64 0, .int .i64 0, .slice none 0 0, .int .i64 0] 37)) W3) := HX.out.trans (hb3.mono HX.out.size)
                  clear hb3
                  go_wp2_with fail
                  refine Calls.mono (HSF.out _ HX.out) ?_
                  rintro e W3 ⟨rfl, hb3⟩
                  have HX : Hid (Below (W2.alloc (.cells #[.int .i64 1, .int .i64 0, .int .i64 0, .int .i64 0, .slice none 0 0, .int .i64 0] 37)).heap.size (W2.alloc (.cells #[.int .i64 1, .int .i64 0, .int .i64 0, .int .i64 0, .slice none 0 0, .int .i64 0] 37)) W3) := HX.out.trans (hb3.mono HX.out.size)
                  clear hb3
                  go_wp2
                  go_ret
                  exact ⟨ret_true HRES.out, HUP.out _ HX.out⟩
                · have HNV : Hid (neverB fr to = false) := by
                    cases q : neverB fr to with
                    | false => rfl
                    | true => exact absurd ((never_iff fr to).1 q).2 t3
                  clear t1
                  by_cases t2 : to = 0
                  · have k8 : (to == 0) = true := by simp [t2]
                    cases bq with
                    | true =>
                      have HRES : Hid (sameB res [ff] = true) := by show _ = _; rw [HSE.out]; simp; exact same_refl _
                      go_wp2_with fail
                      refine Calls.mono (HQF.out _ HX.out) ?_
                      rintro e W3 ⟨rfl, hb3⟩
                      have HX : Hid (Below (W2.alloc (.cells #[.int .i64 1, .int .i64 0, .int .i64 0, .int .i64 0, .slice none 0 0, .int .i64 0] 37)).heap.size (W2.alloc (.cells #[.int .i64 1, .int .i64 0, .int .i64 0, .int .i64 0, .slice none 0 0, .int .i64 0] 37)) W3) := HX.out.trans (hb3.mono HX.out.size)
                      clear hb3
                      go_wp2_with fail
                      refine Calls.mono (HAL.out _) ?_
                      rintro e W3 ⟨rfl, hb3⟩
                      have HX : Hid (Below (W2.alloc (.cells #[.int .i64 1, .int .i64 0, .int .i64 0, .int .i64 0, .slice none 0 0, .int .i64 0] 37)).heap.size (W2.alloc (.cells #[.int .i64 1, .int .i64 0, .int .i64 0, .int .i64 0, .slice none 0 0, .int .i64 0] 37)) W3) := HX.out.trans (hb3.mono HX.out.size)
                      clear hb3
                      go_wp2_with fail
                      refine Calls.mono (HSF.out _ HX.out) ?_
                      rintro e W3 ⟨rfl, hb3⟩
                      have HX : Hid (Below (W2.alloc (.cells #[.int .i64 1, .int .i64 0, .int .i64 0, .int .i64 0, .slice none 0 0, .int .i64 0] 37)).heap.size (W2.alloc (.cells #[.int .i64 1, .int .i64 0, .int .i64 0, .int .i64 0, .slice none 0 0, .int .i64 0] 37)) W3) := HX.out.trans (hb3.mono HX.out.size)
                      clear hb3
                      go_wp2
                      go_ret
                      exact ⟨ret_true HRES.out, HUP.out _ HX.out⟩
                    | false =>
                      by_cases f0 : fr = 0
                      · have k9 : (fr == 0) = true := by simp [f0]
                        have HRES : Hid (sameB res (zs.map (·.x)) = true) := by show _ = _; rw [HSE.out, HNV.out, k9, k8]; simp; exact same_refl _
                        clear f0 t2
                        go_wp2_with fail
                        refine Calls.mono (HQF.out _ HX.out) ?_
                        rintro e W3 ⟨rfl, hb3⟩
                        have HX : Hid (Below (W2.alloc (.cells #[.int .i64 1, .int .i64 0, .int .i64 0, .int .i64 0, .slice none 0 0, .int .i64 0] 37)).heap.size (W2.alloc (.cells #[.int .i64 1, .int .i64 0, .int .i64 0, .int .i64 0, .slice none 0 0, .int .i64 0] 37)) W3) := HX.out.trans (hb3.mono HX.out.size)
                        clear hb3
                        go_wp2_with fail
                        refine Calls.mono (HAL.out _) ?_
                        rintro e W3 ⟨rfl, hb3⟩
                        have HX : Hid (Below (W2.alloc (.cells #[.int .i64 1, .int .i64 0, .int .i64 0, .int .i64 0, .slice none 0 0, .int .i64 0] 37)).heap.size (W2.alloc (.cells #[.int .i64 1, .int .i64 0, .int .i64 0, .int .i64 0, .slice none 0 0, .int .i64 0] 37)) W3) := HX.out.trans (hb3.mono HX.out.size)
                        clear hb3
                        go_wp2_with fail
                        refine Calls.mono (HSQ.out _ HX.out) ?_
                        rintro e W3 ⟨rfl, hb3⟩
                        have HX : Hid (Below (W2.alloc (.cells #[.int .i64 1, .int .i64 0, .int .i64 0, .int .i64 0, .slice none 0 0, .int .i64 0] 37)).heap.size (W2.alloc (.cells #[.int .i64 1, .int .i64 0, .int .i64 0, .int .i64 0, .slice none 0 0, .int .i64 0] 37)) W3) := HX.out.trans (hb3.mono HX.out.size)
                        clear hb3
                        go_wp2
                        go_ret
                        exact ⟨ret_true HRES.out, HUP.out _ HX.out⟩
                      · have k9 : (fr == 0) = false := by simpa using f0
                        clear t2
                        cases bp with
                        | true =>
                          have HRES : Hid (sameB res [ff] = true) := by show _ = _; rw [HSE.out, HNV.out, k9]; simp; exact same_refl _
                          go_wp2_with fail
                          refine Calls.mono (HQF.out _ HX.out) ?_
                          rintro e W3 ⟨rfl, hb3⟩
                          have HX : Hid (Below (W2.alloc (.cells #[.int .i64 1, .int .i64 0, .int .i64 0, .int .i64 0, .slice none 0 0, .int .i64 0] 37)).heap.size (W2.alloc (.cells #[.int .i64 1, .int .i64 0, .int .i64 0, .int .i64 0, .slice none 0 0, .int .i64 0] 37)) W3) := HX.out.trans (hb3.mono HX.out.size)
                          clear hb3
                          go_wp2_with fail
                          refine Calls.mono (HPF.out _ HX.out) ?_
                          rintro e W3 ⟨rfl, hb3⟩
                          have HX : Hid (Below (W2.alloc (.cells #[.int .i64 1, .int .i64 0, .int .i64 0, .int .i64 0, .slice none 0 0, .int .i64 0] 37)).heap.size (W2.alloc (.cells #[.int .i64 1, .int .i64 0, .int .i64 0, .int .i64 0, .slice none 0 0, .int .i64 0] 37)) W3) := HX.out.trans (hb3.mono HX.out.size)
                          clear hb3
                          go_wp2_with fail
                          refine Calls.mono (HAL.out _) ?_
                          rintro e W3 ⟨rfl, hb3⟩
                          have HX : Hid (Below (W2.alloc (.cells #[.int .i64 1, .int .i64 0, .int .i64 0, .int .i64 0, .slice none 0 0, .int .i64 0] 37)).heap.size (W2.alloc (.cells #[.int .i64 1, .int .i64 0, .int .i64 0, .int .i64 0, .slice none 0 0, .int .i64 0] 37)) W3) := HX.out.trans (hb3.mono HX.out.size)
                          clear hb3
                          go_wp2_with fail
                          refine Calls.mono (HSF.out _ HX.out) ?_
                          rintro e W3 ⟨rfl, hb3⟩
                          have HX : Hid (Below (W2.alloc (.cells #[.int .i64 1, .int .i64 0, .int .i64 0, .int .i64 0, .slice none 0 0, .int .i64 0] 37)).heap.size (W2.alloc (.cells #[.int .i64 1, .int .i64 0, .int .i64 0, .int .i64 0, .slice none 0 0, .int .i64 0] 37)) W3) := HX.out.trans (hb3.mono HX.out.size)
                          clear hb3
                          go_wp2
                          go_ret
                          exact ⟨ret_true HRES.out, HUP.out _ HX.out⟩
                        | false =>
                          have HL := HFIN.out rfl HNV.out (fun q => absurd q f0) rfl
                          go_wp2_with fail
                          refine Calls.mono (HQF.out _ HX.out) ?_
                          rintro e W3 ⟨rfl, hb3⟩
                          have HX : Hid (Below (W2.alloc (.cells #[.int .i64 1, .int .i64 0, .int .i64 0, .int .i64 0, .slice none 0 0, .int .i64 0] 37)).heap.size (W2.alloc (.cells #[.int .i64 1, .int .i64 0, .int .i64 0, .int .i64 0, .slice none 0 0, .int .i64 0] 37)) W3) := HX.out.trans (hb3.mono HX.out.size)
                          clear hb3
                          go_wp2_with fail
                          refine Calls.mono (HPF.out _ HX.out) ?_
                          rintro e W3 ⟨rfl, hb3⟩
                          have HX : Hid (Below (W2.alloc (.cells #[.int .i64 1, .int .i64 0, .int .i64 0, .int .i64 0, .slice none 0 0, .int .i64 0] 37)).heap.size (W2.alloc (.cells #[.int .i64 1, .int .i64 0, .int .i64 0, .int .i64 0, .slice none 0 0, .int .i64 0] 37)) W3) := HX.out.trans (hb3.mono HX.out.size)
                          clear hb3
                          have h9 : ss.length = ys.length + zs.length + 1 := by
                            have := congrArg List.length HL
                            rw [List.length_map, mkL_len] at this
                            simp [totN] at this
                            exact this
                          obtain ⟨s0, st, rfl, g1, g2, g3⟩ : ∃ s0 st, ss = s0 :: st ∧ s0.x.op = 10 ∧ s0.x.fr = fr ∧ s0.x.to = to := by
                            cases ss with
                            | nil => simp at h9
                            | cons s0 st =>
                              refine ⟨s0, st, rfl, ?_⟩
                              unfold mkL at HL
                              simp only [List.map_cons, List.cons.injEq] at HL
                              rw [HL.1]
                              exact ⟨rfl, rfl, rfl⟩
                          have HCEL : Hid (∃ b off, sa = some ⟨b, off, none⟩ ∧ ∀ X, Below (W2.alloc (.cells #[.int .i64 1, .int .i64 0, .int .i64 0, .int .i64 0, .slice none 0 0, .int .i64 0] 37)).heap.size (W2.alloc (.cells #[.int .i64 1, .int .i64 0, .int .i64 0, .int .i64 0, .slice none 0 0, .int .i64 0] 37)) X → X.cell? ⟨b, off, none⟩ = some (.int .i64 10) ∧ X.cell? ⟨b, off + 2, none⟩ = some (.int .i64 fr) ∧ X.cell? ⟨b, off + 3, none⟩ = some (.int .i64 to)) := by
                            obtain ⟨b, off, e, _⟩ := ((HF.out _ (Below.refl _ _)).2.1).row 0 (by simp)
                            refine ⟨b, off, e, fun X hX => ?_⟩
                            obtain ⟨b', off', e', hj⟩ := ((HF.out X hX).2.1).row 0 (by simp)
                            rw [e] at e'
                            cases e'
                            have j0 := hj 0 (by omega)
                            have j2 := hj 2 (by omega)
                            have j3 := hj 3 (by omega)
                            simp [ndC, g1, g2, g3] at j0 j2 j3
                            exact ⟨j0, j2, j3⟩
                          obtain ⟨b, off, rfl, hcel⟩ := HCEL.out
                          have HL9 : Hid ((s0 :: st).length = ys.length + zs.length + 1) := h9
                          have hsl : (((s0 :: st).length : Int) == (ys.length : Int) + (zs.length : Int) + 1) = true := by rw [h9]; simp
                          have hslp : 0 < (s0 :: st).length := by simp
                          have w1 : wrap64 ((ys.length : Int) + (zs.length : Int)) = (ys.length : Int) + (zs.length : Int) := by unfold wrap64; omega
                          have w2 : wrap64 ((ys.length : Int) + (zs.length : Int) + 1) = (ys.length : Int) + (zs.length : Int) + 1 := by unfold wrap64; omega
                          have HCC : Hid (∀ X, Below (W2.alloc (.cells #[.int .i64 1, .int .i64 0, .int .i64 0, .int .i64 0, .slice none 0 0, .int .i64 0] 37)).heap.size (W2.alloc (.cells #[.int .i64 1, .int .i64 0, .int .i64 0, .int .i64 0, .slice none 0 0, .int .i64 0] 37)) X → X.cell? ⟨b, off, none⟩ = some (.int .i64 10) ∧ X.cell? ⟨b, off + 2, none⟩ = some (.int .i64 fr) ∧ X.cell? ⟨b, off + 3, none⟩ = some (.int .i64 to)) := hcel
                          clear HCEL hcel HL h9 g1 g2 g3
                          generalize (s0 :: st).length = sl at *
                          go_wp2_with fail
                          refine Calls.mono (HAL.out _) ?_
                          rintro e W3 ⟨rfl, hb3⟩
                          have HX : Hid (Below (W2.alloc (.cells #[.int .i64 1, .int .i64 0, .int .i64 0, .int .i64 0, .slice none 0 0, .int .i64 0] 37)).heap.size (W2.alloc (.cells #[.int .i64 1, .int .i64 0, .int .i64 0, .int .i64 0, .slice none 0 0, .int .i64 0] 37)) W3) := HX.out.trans (hb3.mono HX.out.size)
                          clear hb3
                          obtain ⟨q0, q2, q3⟩ := HCC.out _ HX.out
                          go_wp2
                          go_ret
                          exact ⟨rfl, HUP.out _ HX.out⟩
                  · have k8 : (to == 0) = false := by simpa using t2
                    cases bq with
                    | true =>
                      have HRES : Hid (sameB res [ff] = true) := by show _ = _; rw [HSE.out]; simp; exact same_refl _
                      go_wp2_with fail
                      refine Calls.mono (HQF.out _ HX.out) ?_
                      rintro e W3 ⟨rfl, hb3⟩
                      have HX : Hid (Below (W2.alloc (.cells #[.int .i64 1, .int .i64 0, .int .i64 0, .int .i64 0, .slice none 0 0, .int .i64 0] 37)).heap.size (W2.alloc (.cells #[.int .i64 1, .int .i64 0, .int .i64 0, .int .i64 0, .slice none 0 0, .int .i64 0] 37)) W3) := HX.out.trans (hb3.mono HX.out.size)
                      clear hb3
                      go_wp2_with fail
                      refine Calls.mono (HAL.out _) ?_
                      rintro e W3 ⟨rfl, hb3⟩
                      have HX : Hid (Below (W2.alloc (.cells #[.int .i64 1, .int .i64 0, .int .i64 0, .int .i64 0, .slice none 0 0, .int .i64 0] 37)).heap.size (W2.alloc (.cells #[.int .i64 1, .int .i64 0, .int .i64 0, .int .i64 0, .slice none 0 0, .int .i64 0] 37)) W3) := HX.out.trans (hb3.mono HX.out.size)
                      clear hb3
                      go_wp2_with fail
                      refine Calls.mono (HSF.out _ HX.out) ?_
                      rintro e W3 ⟨rfl, hb3⟩
                      have HX : Hid (Below (W2.alloc (.cells #[.int .i64 1, .int .i64 0, .int .i64 0, .int .i64 0, .slice none 0 0, .int .i64 0] 37)).heap.size (W2.alloc (.cells #[.int .i64 1, .int .i64 0, .int .i64 0, .int .i64 0, .slice none 0 0, .int .i64 0] 37)) W3) := HX.out.trans (hb3.mono HX.out.size)
                      clear hb3
                      go_wp2
                      go_ret
                      exact ⟨ret_true HRES.out, HUP.out _ HX.out⟩
                    | false =>
                      by_cases f0 : fr = 0
                      · have k9 : (fr == 0) = true := by simp [f0]
                        cases bp with
                        | true =>
                          have HRES : Hid (sameB res (zs.map (·.x)) = true) := by show _ = _; rw [HSE.out, HNV.out, k9, k8]; simp; exact same_refl _
                          clear f0
                          go_wp2_with fail
                          refine Calls.mono (HQF.out _ HX.out) ?_
                          rintro e W3 ⟨rfl, hb3⟩
                          have HX : Hid (Below (W2.alloc (.cells #[.int .i64 1, .int .i64 0, .int .i64 0, .int .i64 0, .slice none 0 0, .int .i64 0] 37)).heap.size (W2.alloc (.cells #[.int .i64 1, .int .i64 0, .int .i64 0, .int .i64 0, .slice none 0 0, .int .i64 0] 37)) W3) := HX.out.trans (hb3.mono HX.out.size)
                          clear hb3
                          go_wp2_with fail
                          refine Calls.mono (HPF.out _ HX.out) ?_
                          rintro e W3 ⟨rfl, hb3⟩
                          have HX : Hid (Below (W2.alloc (.cells #[.int .i64 1, .int .i64 0, .int .i64 0, .int .i64 0, .slice none 0 0, .int .i64 0] 37)).heap.size (W2.alloc (.cells #[.int .i64 1, .int .i64 0, .int .i64 0, .int .i64 0, .slice none 0 0, .int .i64 0] 37)) W3) := HX.out.trans (hb3.mono HX.out.size)
                          clear hb3
                          go_wp2_with fail
                          refine Calls.mono (HAL.out _) ?_
                          rintro e W3 ⟨rfl, hb3⟩
                          have HX : Hid (Below (W2.alloc (.cells #[.int .i64 1, .int .i64 0, .int .i64 0, .int .i64 0, .slice none 0 0, .int .i64 0] 37)).heap.size (W2.alloc (.cells #[.int .i64 1, .int .i64 0, .int .i64 0, .int .i64 0, .slice none 0 0, .int .i64 0] 37)) W3) := HX.out.trans (hb3.mono HX.out.size)
                          clear hb3
                          go_wp2_with fail
                          refine Calls.mono (HSQ.out _ HX.out) ?_
                          rintro e W3 ⟨rfl, hb3⟩
                          have HX : Hid (Below (W2.alloc (.cells #[.int .i64 1, .int .i64 0, .int .i64 0, .int .i64 0, .slice none 0 0, .int .i64 0] 37)).heap.size (W2.alloc (.cells #[.int .i64 1, .int .i64 0, .int .i64 0, .int .i64 0, .slice none 0 0, .int .i64 0] 37)) W3) := HX.out.trans (hb3.mono HX.out.size)
                          clear hb3
                          go_wp2
                          go_ret
                          exact ⟨ret_true HRES.out, HUP.out _ HX.out⟩
                        | false =>
                          have HL := HFIN.out rfl HNV.out (fun _ => ⟨t2, rfl⟩) rfl
                          clear f0
                          go_wp2_with fail
                          refine Calls.mono (HQF.out _ HX.out) ?_
                          rintro e W3 ⟨rfl, hb3⟩
                          have HX : Hid (Below (W2.alloc (.cells #[.int .i64 1, .int .i64 0, .int .i64 0, .int .i64 0, .slice none 0 0, .int .i64 0] 37)).heap.size (W2.alloc (.cells #[.int .i64 1, .int .i64 0, .int .i64 0, .int .i64 0, .slice none 0 0, .int .i64 0] 37)) W3) := HX.out.trans (hb3.mono HX.out.size)
                          clear hb3
                          go_wp2_with fail
                          refine Calls.mono (HPF.out _ HX.out) ?_
                          rintro e W3 ⟨rfl, hb3⟩
                          have HX : Hid (Below (W2.alloc (.cells #[.int .i64 1, .int .i64 0, .int .i64 0, .int .i64 0, .slice none 0 0, .int .i64 0] 37)).heap.size (W2.alloc (.cells #[.int .i64 1, .int .i64 0, .int .i64 0, .int .i64 0, .slice none 0 0, .int .i64 0] 37)) W3) := HX.out.trans (hb3.mono HX.out.size)
                          clear hb3
                          go_wp2_with fail
                          refine Calls.mono (HPF.out _ HX.out) ?_
                          rintro e W3 ⟨rfl, hb3⟩
                          have HX : Hid (Below (W2.alloc (.cells #[.int .i64 1, .int .i64 0, .int .i64 0, .int .i64 0, .slice none 0 0, .int .i64 0] 37)).heap.size (W2.alloc (.cells #[.int .i64 1, .int .i64 0, .int .i64 0, .int .i64 0, .slice none 0 0, .int .i64 0] 37)) W3) := HX.out.trans (hb3.mono HX.out.size)
                          clear hb3
                          have h9 : ss.length = ys.length + zs.length + 1 := by
                            have := congrArg List.length HL
                            rw [List.length_map, mkL_len] at this
                            simp [totN] at this
                            exact this
                          obtain ⟨s0, st, rfl, g1, g2, g3⟩ : ∃ s0 st, ss = s0 :: st ∧ s0.x.op = 10 ∧ s0.x.fr = fr ∧ s0.x.to = to := by
                            cases ss with
                            | nil => simp at h9
                            | cons s0 st =>
                              refine ⟨s0, st, rfl, ?_⟩
                              unfold mkL at HL
                              simp only [List.map_cons, List.cons.injEq] at HL
                              rw [HL.1]
                              exact ⟨rfl, rfl, rfl⟩
                          have HCEL : Hid (∃ b off, sa = some ⟨b, off, none⟩ ∧ ∀ X, Below (W2.alloc (.cells #[.int .i64 1, .int .i64 0, .int .i64 0, .int .i64 0, .slice none 0 0, .int .i64 0] 37)).heap.size (W2.alloc (.cells #[.int .i64 1, .int .i64 0, .int .i64 0, .int .i64 0, .slice none 0 0, .int .i64 0] 37)) X → X.cell? ⟨b, off, none⟩ = some (.int .i64 10) ∧ X.cell? ⟨b, off + 2, none⟩ = some (.int .i64 fr) ∧ X.cell? ⟨b, off + 3, none⟩ = some (.int .i64 to)) := by
                            obtain ⟨b, off, e, _⟩ := ((HF.out _ (Below.refl _ _)).2.1).row 0 (by simp)
                            refine ⟨b, off, e, fun X hX => ?_⟩
                            obtain ⟨b', off', e', hj⟩ := ((HF.out X hX).2.1).row 0 (by simp)
                            rw [e] at e'
                            cases e'
                            have j0 := hj 0 (by omega)
                            have j2 := hj 2 (by omega)
                            have j3 := hj 3 (by omega)
                            simp [ndC, g1, g2, g3] at j0 j2 j3
                            exact ⟨j0, j2, j3⟩
                          obtain ⟨b, off, rfl, hcel⟩ := HCEL.out
                          have HL9 : Hid ((s0 :: st).length = ys.length + zs.length + 1) := h9
                          have hsl : (((s0 :: st).length : Int) == (ys.length : Int) + (zs.length : Int) + 1) = true := by rw [h9]; simp
                          have hslp : 0 < (s0 :: st).length := by simp
                          have w1 : wrap64 ((ys.length : Int) + (zs.length : Int)) = (ys.length : Int) + (zs.length : Int) := by unfold wrap64; omega
                          have w2 : wrap64 ((ys.length : Int) + (zs.length : Int) + 1) = (ys.length : Int) + (zs.length : Int) + 1 := by unfold wrap64; omega
                          have HCC : Hid (∀ X, Below (W2.alloc (.cells #[.int .i64 1, .int .i64 0, .int .i64 0, .int .i64 0, .slice none 0 0, .int .i64 0] 37)).heap.size (W2.alloc (.cells #[.int .i64 1, .int .i64 0, .int .i64 0, .int .i64 0, .slice none 0 0, .int .i64 0] 37)) X → X.cell? ⟨b, off, none⟩ = some (.int .i64 10) ∧ X.cell? ⟨b, off + 2, none⟩ = some (.int .i64 fr) ∧ X.cell? ⟨b, off + 3, none⟩ = some (.int .i64 to)) := hcel
                          clear HCEL hcel HL h9 g1 g2 g3
                          generalize (s0 :: st).length = sl at *
                          go_wp2_with fail
                          refine Calls.mono (HAL.out _) ?_
                          rintro e W3 ⟨rfl, hb3⟩
                          have HX : Hid (Below (W2.alloc (.cells #[.int .i64 1, .int .i64 0, .int .i64 0, .int .i64 0, .slice none 0 0, .int .i64 0] 37)).heap.size (W2.alloc (.cells #[.int .i64 1, .int .i64 0, .int .i64 0, .int .i64 0, .slice none 0 0, .int .i64 0] 37)) W3) := HX.out.trans (hb3.mono HX.out.size)
                          clear hb3
                          obtain ⟨q0, q2, q3⟩ := HCC.out _ HX.out
                          go_wp2
                          go_ret
                          exact ⟨rfl, HUP.out _ HX.out⟩
                      · have k9 : (fr == 0) = false := by simpa using f0
                        cases bp with
                        | true =>
                          have HRES : Hid (sameB res [ff] = true) := by show _ = _; rw [HSE.out, HNV.out, k9]; simp; exact same_refl _
                          go_wp2_with fail
                          refine Calls.mono (HQF.out _ HX.out) ?_
                          rintro e W3 ⟨rfl, hb3⟩
                          have HX : Hid (Below (W2.alloc (.cells #[.int .i64 1, .int .i64 0, .int .i64 0, .int .i64 0, .slice none 0 0, .int .i64 0] 37)).heap.size (W2.alloc (.cells #[.int .i64 1, .int .i64 0, .int .i64 0, .int .i64 0, .slice none 0 0, .int .i64 0] 37)) W3) := HX.out.trans (hb3.mono HX.out.size)
                          clear hb3
                          go_wp2_with fail
                          refine Calls.mono (HPF.out _ HX.out) ?_
                          rintro e W3 ⟨rfl, hb3⟩
                          have HX : Hid (Below (W2.alloc (.cells #[.int .i64 1, .int .i64 0, .int .i64 0, .int .i64 0, .slice none 0 0, .int .i64 0] 37)).heap.size (W2.alloc (.cells #[.int .i64 1, .int .i64 0, .int .i64 0, .int .i64 0, .slice none 0 0, .int .i64 0] 37)) W3) := HX.out.trans (hb3.mono HX.out.size)
                          clear hb3
                          go_wp2_with fail
                          refine Calls.mono (HAL.out _) ?_
                          rintro e W3 ⟨rfl, hb3⟩
                          have HX : Hid (Below (W2.alloc (.cells #[.int .i64 1, .int .i64 0, .int .i64 0, .int .i64 0, .slice none 0 0, .int .i64 0] 37)).heap.size (W2.alloc (.cells #[.int .i64 1, .int .i64 0, .int .i64 0, .int .i64 0, .slice none 0 0, .int .i64 0] 37)) W3) := HX.out.trans (hb3.mono HX.out.size)
                          clear hb3
                          go_wp2_with fail
                          refine Calls.mono (HSF.out _ HX.out) ?_
                          rintro e W3 ⟨rfl, hb3⟩
                          have HX : Hid (Below (W2.alloc (.cells #[.int .i64 1, .int .i64 0, .int .i64 0, .int .i64 0, .slice none 0 0, .int .i64 0] 37)).heap.size (W2.alloc (.cells #[.int .i64 1, .int .i64 0, .int .i64 0, .int .i64 0, .slice none 0 0, .int .i64 0] 37)) W3) := HX.out.trans (hb3.mono HX.out.size)
                          clear hb3
                          go_wp2
                          go_ret
                          exact ⟨ret_true HRES.out, HUP.out _ HX.out⟩
                        | false =>
                          have HL := HFIN.out rfl HNV.out (fun q => absurd q f0) rfl
                          go_wp2_with fail
                          refine Calls.mono (HQF.out _ HX.out) ?_
                          rintro e W3 ⟨rfl, hb3⟩
                          have HX : Hid (Below (W2.alloc (.cells #[.int .i64 1, .int .i64 0, .int .i64 0, .int .i64 0, .slice none 0 0, .int .i64 0] 37)).heap.size (W2.alloc (.cells #[.int .i64 1, .int .i64 0, .int .i64 0, .int .i64 0, .slice none 0 0, .int .i64 0] 37)) W3) := HX.out.trans (hb3.mono HX.out.size)
                          clear hb3
                          go_wp2_with fail
                          refine Calls.mono (HPF.out _ HX.out) ?_
                          rintro e W3 ⟨rfl, hb3⟩
                          have HX : Hid (Below (W2.alloc (.cells #[.int .i64 1, .int .i64 0, .int .i64 0, .int .i64 0, .slice none 0 0, .int .i64 0] 37)).heap.size (W2.alloc (.cells #[.int .i64 1, .int .i64 0, .int .i64 0, .int .i64 0, .slice none 0 0, .int .i64 0] 37)) W3) := HX.out.trans (hb3.mono HX.out.size)
                          clear hb3
                          have h9 : ss.length = ys.length + zs.length + 1 := by
                            have := congrArg List.length HL
                            rw [List.length_map, mkL_len] at this
                            simp [totN] at this
                            exact this
                          obtain ⟨s0, st, rfl, g1, g2, g3⟩ : ∃ s0 st, ss = s0 :: st ∧ s0.x.op = 10 ∧ s0.x.fr = fr ∧ s0.x.to = to := by
                            cases ss with
                            | nil => simp at h9
                            | cons s0 st =>
                              refine ⟨s0, st, rfl, ?_⟩
                              unfold mkL at HL
                              simp only [List.map_cons, List.cons.injEq] at HL
                              rw [HL.1]
                              exact ⟨rfl, rfl, rfl⟩
                          have HCEL : Hid (∃ b off, sa = some ⟨b, off, none⟩ ∧ ∀ X, Below (W2.alloc (.cells #[.int .i64 1, .int .i64 0, .int .i64 0, .int .i64 0, .slice none 0 0, .int .i64 0] 37)).heap.size (W2.alloc (.cells #[.int .i64 1, .int .i64 0, .int .i64 0, .int .i64 0, .slice none 0 0, .int .i64 0] 37)) X → X.cell? ⟨b, off, none⟩ = some (.int .i64 10) ∧ X.cell? ⟨b, off + 2, none⟩ = some (.int .i64 fr) ∧ X.cell? ⟨b, off + 3, none⟩ = some (.int .i64 to)) := by
                            obtain ⟨b, off, e, _⟩ := ((HF.out _ (Below.refl _ _)).2.1).row 0 (by simp)
                            refine ⟨b, off, e, fun X hX => ?_⟩
                            obtain ⟨b', off', e', hj⟩ := ((HF.out X hX).2.1).row 0 (by simp)
                            rw [e] at e'
                            cases e'
                            have j0 := hj 0 (by omega)
                            have j2 := hj 2 (by omega)
                            have j3 := hj 3 (by omega)
                            simp [ndC, g1, g2, g3] at j0 j2 j3
                            exact ⟨j0, j2, j3⟩
                          obtain ⟨b, off, rfl, hcel⟩ := HCEL.out
                          have HL9 : Hid ((s0 :: st).length = ys.length + zs.length + 1) := h9
                          have hsl : (((s0 :: st).length : Int) == (ys.length : Int) + (zs.length : Int) + 1) = true := by rw [h9]; simp
                          have hslp : 0 < (s0 :: st).length := by simp
                          have w1 : wrap64 ((ys.length : Int) + (zs.length : Int)) = (ys.length : Int) + (zs.length : Int) := by unfold wrap64; omega
                          have w2 : wrap64 ((ys.length : Int) + (zs.length : Int) + 1) = (ys.length : Int) + (zs.length : Int) + 1 := by unfold wrap64; omega
                          have HCC : Hid (∀ X, Below (W2.alloc (.cells #[.int .i64 1, .int .i64 0, .int .i64 0, .int .i64 0, .slice none 0 0, .int .i64 0] 37)).heap.size (W2.alloc (.cells #[.int .i64 1, .int .i64 0, .int .i64 0, .int .i64 0, .slice none 0 0, .int .i64 0] 37)) X → X.cell? ⟨b, off, none⟩ = some (.int .i64 10) ∧ X.cell? ⟨b, off + 2, none⟩ = some (.int .i64 fr) ∧ X.cell? ⟨b, off + 3, none⟩ = some (.int .i64 to)) := hcel
                          clear HCEL hcel HL h9 g1 g2 g3
                          generalize (s0 :: st).length = sl at *
                          go_wp2_with fail
                          refine Calls.mono (HAL.out _) ?_
                          rintro e W3 ⟨rfl, hb3⟩
                          have HX : Hid (Below (W2.alloc (.cells #[.int .i64 1, .int .i64 0, .int .i64 0, .int .i64 0, .slice none 0 0, .int .i64 0] 37)).heap.size (W2.alloc (.cells #[.int .i64 1, .int .i64 0, .int .i64 0, .int .i64 0, .slice none 0 0, .int .i64 0] 37)) W3) := HX.out.trans (hb3.mono HX.out.size)
                          clear hb3
                          obtain ⟨q0, q2, q3⟩ := HCC.out _ HX.out
                          go_wp2
                          go_ret
                          exact ⟨rfl, HUP.out _ HX.out⟩
end Go.Proofs.Ytpgdkgilmcipkaa
