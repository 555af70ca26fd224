/- CoreIs' walk. Conditions: what came in. -/
import Derived.Test.YtpgdkgilmcipkaaCiA
namespace Go.Proofs.Ytpgdkgilmcipkaa
open Go.RowKit
set_option linter.unusedVariables false
set_option maxRecDepth 100000

set_option maxHeartbeats 16000000 in
theorem ci_frame (pa : Option Addr) (pc : Nat) (ys : List NdV) (W : World)
    (hpr : RowOf ndC 6 W pa ys) (hpk : ∀ y ∈ ys, NdKnown W y) (hpc : ys.length ≤ pc) (hpm : ys.length ≤ 9223372036854775807 ∧ (pa = none → pc = 0)) :
    Calls Try.prog 6 #[.slice pa ys.length pc] W fun e W' => e = .returned (.bool true) ∧ Below W.heap.size W W' := by
  have HAL : Hid (∀ X, Calls Try.prog 16 #[] X fun e W' => e = .returned (.bool true) ∧ Below X.heap.size X W') := fun X => alive8_any X
  have HB : Hid (Below W.heap.size W W) := Below.refl _ _
  have lp := light_any pa pc (ys.map (·.x)) W (nodeRow_of hpr hpk) (by rw [List.length_map]; exact hpm.1)
  rw [List.length_map] at lp
  have HAT : Hid (lightB (ys.map (·.x)) = true → NdsAt W pa pc ys ∧ GoodN (ys.map (·.x)) ∧ ys.length ≤ 310) := fun h => by
    obtain ⟨g, hl⟩ := light_good h
    rw [List.length_map] at hl
    exact ⟨known_at hpr hpk hpc hpm.2 (by omega) fun y hy => (g y.x (List.mem_map_of_mem hy)).1, g, hl⟩
  have hfit := known_fit hpk
  clear hpr hpk hpc hpm
  cases h1 : lightB (ys.map (·.x)) with
  | false =>
    rw [h1] at lp
    clear h1 hfit
    go_enter Try.func6, Try.ntmps6
    go_wp2_with fail
    refine Calls.mono lp ?_
    rintro e W1 ⟨rfl, hw⟩
    subst W1
    go_wp2_with fail
    refine Calls.mono (HAL.out _) ?_
    rintro e W9 ⟨rfl, hb9⟩
    go_wp2
    go_ret
    exact ⟨rfl, HB.out.trans (hb9.mono HB.out.size)⟩
  | true =>
    obtain ⟨hP, gP, nP⟩ := HAT.out h1
    rw [h1] at lp
    have HN : Hid (Calls Try.prog 22 #[.slice pa ys.length pc] W (NormTells W (ys.map (·.x)))) := normTop_any pa pc ys W hP gP hfit
    have HNO : Hid ((normR (ys.map (·.x))).2 = 0 → isCoreB (normR (ys.map (·.x))).1 = true ∧ (∀ i, i + 1 < (normR (ys.map (·.x))).1.length → ¬ BadP ((normR (ys.map (·.x))).1.getD i nd0) ((normR (ys.map (·.x))).1.getD (i + 1) nd0)) ∧ (normR (ys.map (·.x))).1.length ≤ 600 ∧ GoodN (normR (ys.map (·.x))).1) := fun h => normR_ok h gP
    clear h1 hP gP HAT hfit nP
    unfold NormTells at HN
    generalize (normR (ys.map (·.x))).2 = E at *
    generalize (normR (ys.map (·.x))).1 = R at *
    go_enter Try.func6, Try.ntmps6
    go_wp2_with fail
    refine Calls.mono lp ?_
    rintro e W1 ⟨rfl, hw⟩
    subst W1
    go_wp2_with fail
    refine Calls.mono HN.out ?_
    rintro e W2 ⟨v, rfl, hb, ⟨hne, rfl⟩ | ⟨he, hm⟩⟩
    · have q1 : (E == 0) = false := by simpa using hne
      have q2 : (E != 0) = true := by simpa using hne
      have HB : Hid (Below W.heap.size W W2) := hb
      clear hne hb HN HNO
      go_wp2_with fail
      refine Calls.mono (HAL.out _) ?_
      rintro e W9 ⟨rfl, hb9⟩
      go_wp2
      go_ret
      exact ⟨rfl, HB.out.trans (hb9.mono HB.out.size)⟩
    · obtain ⟨hc, hadj, hlen, hgd⟩ := HNO.out he
      obtain ⟨ca, zs, cc, rfl, hat, _, hz, _⟩ := hm.at hgd (by omega)
      have hzl : zs.length ≤ 600 := by rw [← hz, List.length_map] at hlen; exact hlen
      have HIC : Hid (∀ X, Below W2.heap.size W2 X → Calls Try.prog 15 #[.slice ca zs.length cc] X fun e W' => e = .returned (.bool true) ∧ Below X.heap.size X W') := fun X hX => by
        have := isCore_any ca cc (zs.map (·.x)) X (hat.below hX).nodes (by rw [List.length_map]; omega) (by rw [hz]; exact hgd)
        rw [List.length_map, hz, hc] at this; exact this
      have HRW : Hid (∀ X, Below W2.heap.size W2 X → NodeRow X ca (zs.map (·.x))) := fun X hX => (hat.below hX).nodes
      have HAD : Hid (∀ i, i + 1 < zs.length → ¬ BadP ((zs.map (·.x)).getD i nd0) ((zs.map (·.x)).getD (i + 1) nd0)) := fun i hi => by rw [hz]; exact hadj i (by rw [← hz, List.length_map]; exact hi)
      have HB : Hid (Below W.heap.size W W2) := hb
      have HZL : Hid (zs.length ≤ 600) := hzl
      subst he
      clear hb HN HNO hm hc hadj hlen hgd hat hz hzl
      go_wp2_with fail
      refine Calls.mono (HIC.out _ (Below.refl _ _)) ?_
      rintro e W3 ⟨rfl, hb3⟩
      have HB3 : Hid (Below W2.heap.size W2 W3) := hb3
      clear hb3 HIC
      go_wp2_with fail
      go_loopw [5] (fun i wr => ∃ k : Nat, k ≤ zs.length ∧ i = .int .i64 k ∧ Below W2.heap.size W2 wr) (fun i _ => zs.length - (intOf i).toNat)
      case atStart => exact ⟨0, Nat.zero_le _, rfl, HB3.out⟩
      case round =>
        obtain ⟨k, hk, rfl, hbr⟩ := hrel
        have HBR : Hid (Below W2.heap.size W2 wr) := hbr
        clear hbr
        have hzl := HZL.out
        by_cases hlt : k + 1 < zs.length
        · have HROW := HRW.out wr HBR.out
          obtain ⟨bx, ox, ex, x0, x1, x2, x3, ⟨xta, xtc, x4, _⟩, x5⟩ := HROW k (by rw [List.length_map]; omega)
          obtain ⟨by', oy, ey, y0, y1, y2, y3, ⟨yta, ytc, y4, _⟩, y5⟩ := HROW (k + 1) (by rw [List.length_map]; omega)
          have HBD := HAD.out k hlt
          generalize (zs.map (·.x)).getD k nd0 = x at *
          generalize (zs.map (·.x)).getD (k + 1) nd0 = y at *
          clear HROW
          obtain ⟨xo, xn, xf, xt, xs, xm⟩ := x
          obtain ⟨yo, yn, yf, yt, ys', ym⟩ := y
          simp only at x0 x1 x2 x3 x4 x5 y0 y1 y2 y3 y4 y5
          unfold BadP at HBD
          simp only at HBD
          subst ex
          obtain ⟨rfl, rfl⟩ : by' = bx ∧ oy = ox := by simpa using ey.symm
          have hlt2 : (k : Int) + 1 < zs.length := by omega
          have hbl : by' < wr.heap.size := World.block_lt_of_cell? wr _ x0
          clear ey
          by_cases o3 : xo = 3
          · subst o3
            have j3 : (yo == 3) = false := by rw [beq_eq_false_iff_ne]; omega
            have j0 : (yo == 0) = false := by rw [beq_eq_false_iff_ne]; omega
            have j1 : (yo == 1) = false := by rw [beq_eq_false_iff_ne]; omega
            clear HBD
            go_wp2_with fail
            go_region
            all_goals go_wp2
            all_goals go_roundw
            all_goals first
              | exact ⟨k + 1, by omega, by go_num, ((HBR.out.alloc HBR.out.size _).alloc (by have := HBR.out.size; simp; omega) _).drew⟩
              | (simp [intOf]; omega)
          · by_cases o5 : xo = 5
            · subst o5
              have j5 : (yo == 5) = false := by rw [beq_eq_false_iff_ne]; omega
              have j0 : (yo == 0) = false := by rw [beq_eq_false_iff_ne]; omega
              have j1 : (yo == 1) = false := by rw [beq_eq_false_iff_ne]; omega
              clear HBD
              go_wp2_with fail
              go_region
              all_goals go_wp2
              all_goals go_roundw
              all_goals first
                | exact ⟨k + 1, by omega, by go_num, ((HBR.out.alloc HBR.out.size _).alloc (by have := HBR.out.size; simp; omega) _).drew⟩
                | (simp [intOf]; omega)
            · by_cases o7 : xo = 7
              · subst o7
                have j1 : (yo == 1) = false := by rw [beq_eq_false_iff_ne]; omega
                clear HBD
                go_wp2_with fail
                go_region
                all_goals go_wp2
                all_goals go_roundw
                all_goals first
                  | exact ⟨k + 1, by omega, by go_num, ((HBR.out.alloc HBR.out.size _).alloc (by have := HBR.out.size; simp; omega) _).drew⟩
                  | (simp [intOf]; omega)
              · have i3 : (xo == 3) = false := by simpa using o3
                have i5 : (xo == 5) = false := by simpa using o5
                have i7 : (xo == 7) = false := by simpa using o7
                clear o3 o5 o7
                clear HBD
                go_wp2_with fail
                go_region
                all_goals go_wp2
                all_goals go_roundw
                all_goals first
                  | exact ⟨k + 1, by omega, by go_num, ((HBR.out.alloc HBR.out.size _).alloc (by have := HBR.out.size; simp; omega) _).drew⟩
                  | (simp [intOf]; omega)
        · have hge : (zs.length : Int) ≤ k + 1 := by omega
          clear hlt HAD HRW
          go_wp2_with fail
          refine Calls.mono (HAL.out _) ?_
          rintro e W9 ⟨rfl, hb9⟩
          have HBW : Hid (Below W.heap.size W wr) := HB.out.trans (HBR.out.mono HB.out.size)
          go_wp2
          go_ret
          exact ⟨rfl, HBW.out.trans (hb9.mono HBW.out.size)⟩
end Go.Proofs.Ytpgdkgilmcipkaa
