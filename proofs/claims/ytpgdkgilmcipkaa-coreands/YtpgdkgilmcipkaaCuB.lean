/- CoreAnds' walk. Conditions: what came in. -/
import Derived.Test.YtpgdkgilmcipkaaCuA
namespace Go.Proofs.Ytpgdkgilmcipkaa
open Go.RowKit
set_option linter.unusedVariables false
set_option maxRecDepth 100000

set_option maxHeartbeats 16000000 in
theorem ca_frame (pa : Option Addr) (pc : Nat) (ys : List NdV) (qa : Option Addr) (qc : Nat) (zs : List NdV) (W : World)
    (hpr : RowOf ndC 6 W pa ys) (hpk : ∀ y ∈ ys, NdKnown W y) (hpc : ys.length ≤ pc) (hpm : ys.length ≤ 9223372036854775807 ∧ (pa = none → pc = 0))
    (hqr : RowOf ndC 6 W qa zs) (hqk : ∀ y ∈ zs, NdKnown W y) (hqc : zs.length ≤ qc) (hqm : zs.length ≤ 9223372036854775807 ∧ (qa = none → qc = 0)) :
    Calls Try.prog 4 #[.slice pa ys.length pc, .slice qa zs.length qc] W fun e W' => e = .returned (.bool true) ∧ Below W.heap.size W W' := by
  have HAL : Hid (∀ X, Calls Try.prog 16 #[] X fun e W' => e = .returned (.bool true) ∧ Below X.heap.size X W') := fun X => alive8_any X
  have HB : Hid (Below W.heap.size W W) := Below.refl _ _
  have lp := light_any pa pc (ys.map (·.x)) W (nodeRow_of hpr hpk) (by rw [List.length_map]; exact hpm.1)
  have lq := light_any qa qc (zs.map (·.x)) W (nodeRow_of hqr hqk) (by rw [List.length_map]; exact hqm.1)
  rw [List.length_map] at lp lq
  have HAT : Hid (lightB (ys.map (·.x)) = true → NdsAt W pa pc ys ∧ GoodN (ys.map (·.x)) ∧ ys.length ≤ 310) := fun h => by
    obtain ⟨g, hl⟩ := light_good h
    rw [List.length_map] at hl
    exact ⟨known_at hpr hpk hpc hpm.2 (by omega) fun y hy => (g y.x (List.mem_map_of_mem hy)).1, g, hl⟩
  have HAT2 : Hid (lightB (zs.map (·.x)) = true → NdsAt W qa qc zs ∧ GoodN (zs.map (·.x)) ∧ zs.length ≤ 310) := fun h => by
    obtain ⟨g, hl⟩ := light_good h
    rw [List.length_map] at hl
    exact ⟨known_at hqr hqk hqc hqm.2 (by omega) fun y hy => (g y.x (List.mem_map_of_mem hy)).1, g, hl⟩
  clear hpr hpk hpc hpm hqr hqk hqc hqm
  cases h1 : lightB (ys.map (·.x)) with
  | false =>
    rw [h1] at lp
    clear h1 lq
    go_enter Try.func4, Try.ntmps4
    go_wp2_with fail
    refine Calls.mono lp ?_
    rintro e W1 ⟨rfl, hw⟩
    subst W1
    go_wp2_with fail
    refine Calls.mono (HAL.out _) ?_
    rintro e W9 ⟨rfl, hb9⟩
    go_wp2
    go_ret
    exact ⟨rfl, HB.out.trans (hb9.mono HB.out.size)⟩
  | true =>
    obtain ⟨hP, gP, nP⟩ := HAT.out h1
    rw [h1] at lp
    cases h2 : lightB (zs.map (·.x)) with
    | false =>
      rw [h2] at lq
      clear h1 h2
      go_enter Try.func4, Try.ntmps4
      go_wp2_with fail
      refine Calls.mono lp ?_
      rintro e W1 ⟨rfl, hw⟩
      subst W1
      go_wp2_with fail
      refine Calls.mono lq ?_
      rintro e W1 ⟨rfl, hw⟩
      subst W1
      go_wp2_with fail
      refine Calls.mono (HAL.out _) ?_
      rintro e W9 ⟨rfl, hb9⟩
      go_wp2
      go_ret
      exact ⟨rfl, HB.out.trans (hb9.mono HB.out.size)⟩
    | true =>
      obtain ⟨hQ, gQ, nQ⟩ := HAT2.out h2
      rw [h2] at lq
      have HP : Hid (∀ X, Below W.heap.size W X → Pc X pa pc ys (ys.map (·.x))) := fun X hX => ⟨hP.below hX, rfl, gP, by omega⟩
      have HQ : Hid (∀ X, Below W.heap.size W X → Pc X qa qc zs (zs.map (·.x))) := fun X hX => ⟨hQ.below hX, rfl, gQ, by omega⟩
      have HIP : Hid (∀ X, Below W.heap.size W X → Calls Try.prog 15 #[.slice pa ys.length pc] X fun e W' => e = .returned (.bool (isCoreB (ys.map (·.x)))) ∧ Below X.heap.size X W') := fun X hX => by
        have := isCore_any pa pc (ys.map (·.x)) X (hP.below hX).nodes (by rw [List.length_map]; omega) gP
        rw [List.length_map] at this; exact this
      have HIQ : Hid (∀ X, Below W.heap.size W X → Calls Try.prog 15 #[.slice qa zs.length qc] X fun e W' => e = .returned (.bool (isCoreB (zs.map (·.x)))) ∧ Below X.heap.size X W') := fun X hX => by
        have := isCore_any qa qc (zs.map (·.x)) X (hQ.below hX).nodes (by rw [List.length_map]; omega) gQ
        rw [List.length_map] at this; exact this
      clear h1 h2 hP hQ gP gQ HAT HAT2
      cases h3 : isCoreB (ys.map (·.x)) with
      | false =>
        rw [h3] at HIP
        clear h3
        go_enter Try.func4, Try.ntmps4
        go_wp2_with fail
        refine Calls.mono lp ?_
        rintro e W1 ⟨rfl, hw⟩
        subst W1
        go_wp2_with fail
        refine Calls.mono lq ?_
        rintro e W1 ⟨rfl, hw⟩
        subst W1
        go_wp2_with fail
        refine Calls.mono (HIP.out _ HB.out) ?_
        rintro e W1 ⟨rfl, hb1⟩
        have HB : Hid (Below W.heap.size W W1) := HB.out.trans (hb1.mono HB.out.size)
        clear hb1
        go_wp2_with fail
        refine Calls.mono (HAL.out _) ?_
        rintro e W9 ⟨rfl, hb9⟩
        go_wp2
        go_ret
        exact ⟨rfl, HB.out.trans (hb9.mono HB.out.size)⟩
      | true =>
        have C1 := core_pos h3
        rw [List.length_map] at C1
        rw [h3] at HIP
        cases h4 : isCoreB (zs.map (·.x)) with
        | false =>
          rw [h4] at HIQ
          clear h3 h4
          go_enter Try.func4, Try.ntmps4
          go_wp2_with fail
          refine Calls.mono lp ?_
          rintro e W1 ⟨rfl, hw⟩
          subst W1
          go_wp2_with fail
          refine Calls.mono lq ?_
          rintro e W1 ⟨rfl, hw⟩
          subst W1
          go_wp2_with fail
          refine Calls.mono (HIP.out _ HB.out) ?_
          rintro e W1 ⟨rfl, hb1⟩
          have HB : Hid (Below W.heap.size W W1) := HB.out.trans (hb1.mono HB.out.size)
          clear hb1
          go_wp2_with fail
          refine Calls.mono (HIQ.out _ HB.out) ?_
          rintro e W1 ⟨rfl, hb1⟩
          have HB : Hid (Below W.heap.size W W1) := HB.out.trans (hb1.mono HB.out.size)
          clear hb1
          go_wp2_with fail
          refine Calls.mono (HAL.out _) ?_
          rintro e W9 ⟨rfl, hb9⟩
          go_wp2
          go_ret
          exact ⟨rfl, HB.out.trans (hb9.mono HB.out.size)⟩
        | true =>
          have D1 := core_pos h4
          rw [List.length_map] at D1
          rw [h4] at HIQ
          have k1 : ((ys.length : Int) == 0) = false := by rw [beq_eq_false_iff_ne]; omega
          have k2 : ((zs.length : Int) == 0) = false := by rw [beq_eq_false_iff_ne]; omega
          have HPL : Hid ((ys.map (·.x)).length ≤ 310 ∧ (zs.map (·.x)).length ≤ 310) := by rw [Hid, List.length_map, List.length_map]; exact ⟨nP, nQ⟩
          clear h3 h4
          generalize ys.map (·.x) = P at *
          generalize zs.map (·.x) = Q at *
          go_enter Try.func4, Try.ntmps4
          go_wp2_with fail
          refine Calls.mono lp ?_
          rintro e W1 ⟨rfl, hw⟩
          subst W1
          go_wp2_with fail
          refine Calls.mono lq ?_
          rintro e W1 ⟨rfl, hw⟩
          subst W1
          go_wp2_with fail
          refine Calls.mono (HIP.out _ HB.out) ?_
          rintro e W1 ⟨rfl, hb1⟩
          have HB : Hid (Below W.heap.size W W1) := HB.out.trans (hb1.mono HB.out.size)
          clear hb1
          go_wp2_with fail
          refine Calls.mono (HIQ.out _ HB.out) ?_
          rintro e W1 ⟨rfl, hb1⟩
          have HB : Hid (Below W.heap.size W W1) := HB.out.trans (hb1.mono HB.out.size)
          clear hb1
          clear lp lq HIP HIQ
          have AP : Hid (Pc W1 pa pc ys P) := HP.out _ HB.out
          have AQ : Hid (Pc W1 qa qc zs Q) := HQ.out _ HB.out
          clear HP HQ
          have hbt : Below W1.heap.size W1 (W1.alloc (.cells #[.int .i64 0, .int .i64 0, .int .i64 0, .int .i64 0, .slice none 0 0, .int .i64 0] 37)) := (Below.refl _ _).alloc (Nat.le_refl _) _
          have AT : Hid (Pc (W1.alloc (.cells #[.int .i64 0, .int .i64 0, .int .i64 0, .int .i64 0, .slice none 0 0, .int .i64 0] 37)) (some ⟨W1.heap.size, 0, none⟩) 1 [⟨tt, none, 0⟩] [tt]) := pc_op W1 0
          have AP : Hid (Pc (W1.alloc (.cells #[.int .i64 0, .int .i64 0, .int .i64 0, .int .i64 0, .slice none 0 0, .int .i64 0] 37)) pa pc ys P) := AP.out.below hbt
          have AQ : Hid (Pc (W1.alloc (.cells #[.int .i64 0, .int .i64 0, .int .i64 0, .int .i64 0, .slice none 0 0, .int .i64 0] 37)) qa qc zs Q) := AQ.out.below hbt
          have HB : Hid (Below W.heap.size W (W1.alloc (.cells #[.int .i64 0, .int .i64 0, .int .i64 0, .int .i64 0, .slice none 0 0, .int .i64 0] 37))) := HB.out.trans (hbt.mono HB.out.size)
          have hca := pc_and2 AP.out AQ.out
          have hsz : (W1.alloc (.cells #[.int .i64 0, .int .i64 0, .int .i64 0, .int .i64 0, .slice none 0 0, .int .i64 0] 37)).heap.size = W1.heap.size + 1 := by simp
          rw [hsz] at hca
          have HCA := hid_to hca
          clear hca hsz hbt
          have HG2 : Hid (∀ n ∈ [P, Q], GoodN n) := fun n hn => by
            simp only [List.mem_cons, List.not_mem_nil, or_false] at hn
            rcases hn with rfl | rfl
            · exact AP.out.good
            · exact AQ.out.good
          have HG3 : Hid (∀ n ∈ [P, Q, [tt]], GoodN n) := fun n hn => by
            simp only [List.mem_cons, List.not_mem_nil, or_false] at hn
            rcases hn with rfl | rfl | rfl
            · exact AP.out.good
            · exact AQ.out.good
            · exact good_one
          have HG4 : Hid (∀ n ∈ [P, Q, [ff]], GoodN n) := fun n hn => by
            simp only [List.mem_cons, List.not_mem_nil, or_false] at hn
            rcases hn with rfl | rfl | rfl
            · exact AP.out.good
            · exact AQ.out.good
            · exact good_one
          have HG1 : Hid (∀ n ∈ [P], GoodN n) := fun n hn => by simp only [List.mem_singleton] at hn; subst hn; exact AP.out.good
          have HGPP : Hid (∀ n ∈ [P, P], GoodN n) := fun n hn => by
            simp only [List.mem_cons, List.not_mem_nil, or_false] at hn
            rcases hn with rfl | rfl
            · exact AP.out.good
            · exact AP.out.good
          have HGN : Hid (∀ n ∈ [notL P, notL Q], GoodN n) := fun n hn => by
            simp only [List.mem_cons, List.not_mem_nil, or_false] at hn
            rcases hn with rfl | rfl
            · exact notL_good AP.out.good
            · exact notL_good AQ.out.good
          have HN1 : Hid ((notL P).length ≤ 311 ∧ (notL Q).length ≤ 311) := by have h1 := notL_len P; have h2 := notL_len Q; have := HPL.out; exact ⟨by omega, by omega⟩
          have HLO : Hid ((orL [notL P, notL Q]).length ≤ 1000) := by have h1 := orL_len [notL P, notL Q]; have := HN1.out; simp [totN] at h1; show _ ≤ _; omega
          go_wp2_with fail
          refine Calls.mono (HCA.out) ?_
          intro e V1 hm
          obtain ⟨xa, xs, xc, rfl, hpc, hbb⟩ := hm.pc (andL_good HG2.out) (by have h1 := andL_len [P, Q]; have := HPL.out; simp [totN] at h1; omega)
          have AP : Hid (Pc V1 pa pc ys P) := AP.out.below hbb
          have AQ : Hid (Pc V1 qa qc zs Q) := AQ.out.below hbb
          have AT : Hid (Pc V1 (some ⟨W1.heap.size, 0, none⟩) 1 [⟨tt, none, 0⟩] [tt]) := AT.out.below hbb
          have X : Hid (Pc V1 xa xc xs (andL [P, Q])) := hpc
          have HB : Hid (Below W.heap.size W V1) := HB.out.trans (hbb.mono HB.out.size)
          clear hm hpc hbb
          go_wp2_with fail
          refine Calls.mono (HAL.out _) ?_
          rintro e V2 ⟨rfl, hbb⟩
          have AP : Hid (Pc V2 pa pc ys P) := AP.out.below hbb
          have AQ : Hid (Pc V2 qa qc zs Q) := AQ.out.below hbb
          have AT : Hid (Pc V2 (some ⟨W1.heap.size, 0, none⟩) 1 [⟨tt, none, 0⟩] [tt]) := AT.out.below hbb
          have X : Hid (Pc V2 xa xc xs (andL [P, Q])) := X.out.below hbb
          have HB : Hid (Below W.heap.size W V2) := HB.out.trans (hbb.mono HB.out.size)
          clear hbb
          go_wp2_with fail
          refine Calls.mono (pc_not AP.out) ?_
          intro e V3 hm
          obtain ⟨naa, nas, nac, rfl, hpc, hbb⟩ := hm.pc (notL_good AP.out.good) (by have := HN1.out; omega)
          have AP : Hid (Pc V3 pa pc ys P) := AP.out.below hbb
          have AQ : Hid (Pc V3 qa qc zs Q) := AQ.out.below hbb
          have AT : Hid (Pc V3 (some ⟨W1.heap.size, 0, none⟩) 1 [⟨tt, none, 0⟩] [tt]) := AT.out.below hbb
          have X : Hid (Pc V3 xa xc xs (andL [P, Q])) := X.out.below hbb
          have NA : Hid (Pc V3 naa nac nas (notL P)) := hpc
          have HB : Hid (Below W.heap.size W V3) := HB.out.trans (hbb.mono HB.out.size)
          clear hm hpc hbb
          go_wp2_with fail
          refine Calls.mono (pc_not AQ.out) ?_
          intro e V4 hm
          obtain ⟨nba, nbs, nbc, rfl, hpc, hbb⟩ := hm.pc (notL_good AQ.out.good) (by have := HN1.out; omega)
          have AP : Hid (Pc V4 pa pc ys P) := AP.out.below hbb
          have AQ : Hid (Pc V4 qa qc zs Q) := AQ.out.below hbb
          have AT : Hid (Pc V4 (some ⟨W1.heap.size, 0, none⟩) 1 [⟨tt, none, 0⟩] [tt]) := AT.out.below hbb
          have X : Hid (Pc V4 xa xc xs (andL [P, Q])) := X.out.below hbb
          have NA : Hid (Pc V4 naa nac nas (notL P)) := NA.out.below hbb
          have NB : Hid (Pc V4 nba nbc nbs (notL Q)) := hpc
          have HB : Hid (Below W.heap.size W V4) := HB.out.trans (hbb.mono HB.out.size)
          clear hm hpc hbb
          go_wp2_with fail
          refine Calls.mono (pc_or2 NA.out NB.out) ?_
          intro e V5 hm
          obtain ⟨oa, os, oc, rfl, hpc, hbb⟩ := hm.pc (orL_good HGN.out) (by have := HLO.out; omega)
          have AP : Hid (Pc V5 pa pc ys P) := AP.out.below hbb
          have AQ : Hid (Pc V5 qa qc zs Q) := AQ.out.below hbb
          have AT : Hid (Pc V5 (some ⟨W1.heap.size, 0, none⟩) 1 [⟨tt, none, 0⟩] [tt]) := AT.out.below hbb
          have X : Hid (Pc V5 xa xc xs (andL [P, Q])) := X.out.below hbb
          have NA : Hid (Pc V5 naa nac nas (notL P)) := NA.out.below hbb
          have NB : Hid (Pc V5 nba nbc nbs (notL Q)) := NB.out.below hbb
          have O : Hid (Pc V5 oa oc os (orL [notL P, notL Q])) := hpc
          have HB : Hid (Below W.heap.size W V5) := HB.out.trans (hbb.mono HB.out.size)
          clear hm hpc hbb
          clear NA NB
          go_wp2_with fail
          refine Calls.mono (pc_not O.out) ?_
          intro e V6 hm
          obtain ⟨ra, rs, rc, rfl, hpc, hbb⟩ := hm.pc (notL_good O.out.good) (by have h1 := notL_len (orL [notL P, notL Q]); have := HLO.out; omega)
          have AP : Hid (Pc V6 pa pc ys P) := AP.out.below hbb
          have AQ : Hid (Pc V6 qa qc zs Q) := AQ.out.below hbb
          have AT : Hid (Pc V6 (some ⟨W1.heap.size, 0, none⟩) 1 [⟨tt, none, 0⟩] [tt]) := AT.out.below hbb
          have X : Hid (Pc V6 xa xc xs (andL [P, Q])) := X.out.below hbb
          have O : Hid (Pc V6 oa oc os (orL [notL P, notL Q])) := O.out.below hbb
          have R : Hid (Pc V6 ra rc rs (notL (orL [notL P, notL Q]))) := hpc
          have HB : Hid (Below W.heap.size W V6) := HB.out.trans (hbb.mono HB.out.size)
          clear hm hpc hbb
          go_wp2_with fail
          refine Calls.mono (pc_same X.out R.out rfl) ?_
          rintro e V7 ⟨rfl, hbb⟩
          have AP : Hid (Pc V7 pa pc ys P) := AP.out.below hbb
          have AQ : Hid (Pc V7 qa qc zs Q) := AQ.out.below hbb
          have AT : Hid (Pc V7 (some ⟨W1.heap.size, 0, none⟩) 1 [⟨tt, none, 0⟩] [tt]) := AT.out.below hbb
          have X : Hid (Pc V7 xa xc xs (andL [P, Q])) := X.out.below hbb
          have O : Hid (Pc V7 oa oc os (orL [notL P, notL Q])) := O.out.below hbb
          have R : Hid (Pc V7 ra rc rs (notL (orL [notL P, notL Q]))) := R.out.below hbb
          have HB : Hid (Below W.heap.size W V7) := HB.out.trans (hbb.mono HB.out.size)
          clear hbb
          clear O R
          go_wp2_with fail
          refine Calls.mono ((pc_three AP.out AQ.out AT.out).1) ?_
          intro e V8 hm
          obtain ⟨yya, yys, yyc, rfl, hpc, hbb⟩ := hm.pc (andL_good HG3.out) (by have h1 := andL_len [P, Q, [tt]]; have := HPL.out; simp [totN] at h1; omega)
          have AP : Hid (Pc V8 pa pc ys P) := AP.out.below hbb
          have AQ : Hid (Pc V8 qa qc zs Q) := AQ.out.below hbb
          have AT : Hid (Pc V8 (some ⟨W1.heap.size, 0, none⟩) 1 [⟨tt, none, 0⟩] [tt]) := AT.out.below hbb
          have X : Hid (Pc V8 xa xc xs (andL [P, Q])) := X.out.below hbb
          have YY : Hid (Pc V8 yya yyc yys (andL [P, Q, [tt]])) := hpc
          have HB : Hid (Below W.heap.size W V8) := HB.out.trans (hbb.mono HB.out.size)
          clear hm hpc hbb
          go_wp2_with fail
          refine Calls.mono (pc_same YY.out X.out (andL_tt P Q)) ?_
          rintro e V9 ⟨rfl, hbb⟩
          have AP : Hid (Pc V9 pa pc ys P) := AP.out.below hbb
          have AQ : Hid (Pc V9 qa qc zs Q) := AQ.out.below hbb
          have AT : Hid (Pc V9 (some ⟨W1.heap.size, 0, none⟩) 1 [⟨tt, none, 0⟩] [tt]) := AT.out.below hbb
          have X : Hid (Pc V9 xa xc xs (andL [P, Q])) := X.out.below hbb
          have YY : Hid (Pc V9 yya yyc yys (andL [P, Q, [tt]])) := YY.out.below hbb
          have HB : Hid (Below W.heap.size W V9) := HB.out.trans (hbb.mono HB.out.size)
          clear hbb
          clear X YY AT
          go_wp2_with fail
          refine Calls.mono (pc_and2 AP.out AP.out) ?_
          intro e V10 hm
          obtain ⟨ua, us, uc, rfl, hpc, hbb⟩ := hm.pc (andL_good HGPP.out) (by have h1 := andL_len [P, P]; have := HPL.out; simp [totN] at h1; omega)
          have AP : Hid (Pc V10 pa pc ys P) := AP.out.below hbb
          have AQ : Hid (Pc V10 qa qc zs Q) := AQ.out.below hbb
          have U : Hid (Pc V10 ua uc us (andL [P, P])) := hpc
          have HB : Hid (Below W.heap.size W V10) := HB.out.trans (hbb.mono HB.out.size)
          clear hm hpc hbb
          go_wp2_with fail
          refine Calls.mono (pc_and1 AP.out) ?_
          intro e V11 hm
          obtain ⟨va, vs, vc, rfl, hpc, hbb⟩ := hm.pc (andL_good HG1.out) (by have h1 := andL_len [P]; have := HPL.out; simp [totN] at h1; omega)
          have AP : Hid (Pc V11 pa pc ys P) := AP.out.below hbb
          have AQ : Hid (Pc V11 qa qc zs Q) := AQ.out.below hbb
          have U : Hid (Pc V11 ua uc us (andL [P, P])) := U.out.below hbb
          have V : Hid (Pc V11 va vc vs (andL [P])) := hpc
          have HB : Hid (Below W.heap.size W V11) := HB.out.trans (hbb.mono HB.out.size)
          clear hm hpc hbb
          go_wp2_with fail
          refine Calls.mono (pc_same U.out V.out (andL_twice P)) ?_
          rintro e V12 ⟨rfl, hbb⟩
          have AP : Hid (Pc V12 pa pc ys P) := AP.out.below hbb
          have AQ : Hid (Pc V12 qa qc zs Q) := AQ.out.below hbb
          have U : Hid (Pc V12 ua uc us (andL [P, P])) := U.out.below hbb
          have V : Hid (Pc V12 va vc vs (andL [P])) := V.out.below hbb
          have HB : Hid (Below W.heap.size W V12) := HB.out.trans (hbb.mono HB.out.size)
          clear hbb
          clear U V
          have hbt : Below V12.heap.size V12 (V12.alloc (.cells #[.int .i64 1, .int .i64 0, .int .i64 0, .int .i64 0, .slice none 0 0, .int .i64 0] 37)) := (Below.refl _ _).alloc (Nat.le_refl _) _
          have AF : Hid (Pc (V12.alloc (.cells #[.int .i64 1, .int .i64 0, .int .i64 0, .int .i64 0, .slice none 0 0, .int .i64 0] 37)) (some ⟨V12.heap.size, 0, none⟩) 1 [⟨ff, none, 0⟩] [ff]) := pc_op V12 1
          have AP : Hid (Pc (V12.alloc (.cells #[.int .i64 1, .int .i64 0, .int .i64 0, .int .i64 0, .slice none 0 0, .int .i64 0] 37)) pa pc ys P) := AP.out.below hbt
          have AQ : Hid (Pc (V12.alloc (.cells #[.int .i64 1, .int .i64 0, .int .i64 0, .int .i64 0, .slice none 0 0, .int .i64 0] 37)) qa qc zs Q) := AQ.out.below hbt
          have HB : Hid (Below W.heap.size W (V12.alloc (.cells #[.int .i64 1, .int .i64 0, .int .i64 0, .int .i64 0, .slice none 0 0, .int .i64 0] 37))) := HB.out.trans (hbt.mono HB.out.size)
          have hca := (pc_three AP.out AQ.out AF.out).2
          have hsz : (V12.alloc (.cells #[.int .i64 1, .int .i64 0, .int .i64 0, .int .i64 0, .slice none 0 0, .int .i64 0] 37)).heap.size = V12.heap.size + 1 := by simp
          rw [hsz] at hca
          have HCB := hid_to hca
          clear hca hsz hbt
          go_wp2_with fail
          refine Calls.mono (HCB.out) ?_
          intro e V13 hm
          obtain ⟨ga, gs, gc, rfl, hpc, hbb⟩ := hm.pc (orL_good HG4.out) (by have h1 := orL_len [P, Q, [ff]]; have := HPL.out; simp [totN] at h1; omega)
          have AP : Hid (Pc V13 pa pc ys P) := AP.out.below hbb
          have AQ : Hid (Pc V13 qa qc zs Q) := AQ.out.below hbb
          have G : Hid (Pc V13 ga gc gs (orL [P, Q, [ff]])) := hpc
          have HB : Hid (Below W.heap.size W V13) := HB.out.trans (hbb.mono HB.out.size)
          clear hm hpc hbb
          go_wp2_with fail
          refine Calls.mono (pc_or2 AP.out AQ.out) ?_
          intro e V14 hm
          obtain ⟨wwa, wws, wwc, rfl, hpc, hbb⟩ := hm.pc (orL_good HG2.out) (by have h1 := orL_len [P, Q]; have := HPL.out; simp [totN] at h1; omega)
          have AP : Hid (Pc V14 pa pc ys P) := AP.out.below hbb
          have AQ : Hid (Pc V14 qa qc zs Q) := AQ.out.below hbb
          have G : Hid (Pc V14 ga gc gs (orL [P, Q, [ff]])) := G.out.below hbb
          have WW : Hid (Pc V14 wwa wwc wws (orL [P, Q])) := hpc
          have HB : Hid (Below W.heap.size W V14) := HB.out.trans (hbb.mono HB.out.size)
          clear hm hpc hbb
          go_wp2_with fail
          refine Calls.mono (pc_same G.out WW.out (orL_ff [P, Q])) ?_
          rintro e V15 ⟨rfl, hbb⟩
          have AP : Hid (Pc V15 pa pc ys P) := AP.out.below hbb
          have AQ : Hid (Pc V15 qa qc zs Q) := AQ.out.below hbb
          have G : Hid (Pc V15 ga gc gs (orL [P, Q, [ff]])) := G.out.below hbb
          have WW : Hid (Pc V15 wwa wwc wws (orL [P, Q])) := WW.out.below hbb
          have HB : Hid (Below W.heap.size W V15) := HB.out.trans (hbb.mono HB.out.size)
          clear hbb
          go_wp2
          go_ret
          exact ⟨rfl, HB.out⟩
end Go.Proofs.Ytpgdkgilmcipkaa
