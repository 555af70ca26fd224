/- The contract of the library's bits.Div64. Conditions: the words' own ranges, the upper word below the divisor. -/
import Derived.Test.YtapdnahjcadpeaaDoorDivS
import Derived.Test.YtapdnahjcadpeaaDoorShelf
import Derived.Test.YtapdnahjcadpeaaDoorEnds
import Derived.RegionTactic
import Derived.ChangeAlike
namespace Go.Proofs.YtapdnahjcadpeaaDoor
open Go.RowKit
set_option linter.unusedVariables false
set_option maxRecDepth 100000

set_option maxHeartbeats 1000000 in
theorem div64_low (lo y : Int) (w : World) (l0 : 0 ≤ lo) (l1 : lo < 18446744073709551616) (y0 : 0 < y) (y1 : y < 18446744073709551616) :
    Calls Tryd.prog 41 #[.int .u64 0, .int .u64 lo, .int .u64 y] w fun e w' => e = .returned (.tuple #[.int .u64 (lo / y), .int .u64 (lo % y)]) ∧ Below w.heap.size w w' := by
  have c1 : (y == 0) = false := by rw [beq_eq_false_iff_ne]; omega
  have c2 : decide (y ≤ 0) = false := by simp; omega
  go_enter Tryd.func41, Tryd.ntmps41
  go_wp2
  go_region
  all_goals
    go_wp2
    go_ret2
    exact ⟨rfl, (Below.refl _ w).drew⟩

set_option maxHeartbeats 4000000 in
theorem div64_high (hi lo y : Int) (w : World) (h0 : 0 < hi) (h1 : hi < y) (l0 : 0 ≤ lo) (l1 : lo < 18446744073709551616) (y1 : y < 18446744073709551616) :
    Calls Tryd.prog 41 #[.int .u64 hi, .int .u64 lo, .int .u64 y] w fun e w' => e = .returned (.tuple #[.int .u64 ((hi * 18446744073709551616 + lo) / y), .int .u64 ((hi * 18446744073709551616 + lo) % y)]) ∧ Below w.heap.size w w' := by
  obtain ⟨s, p, pc, Y, yn1, yn0, U, L, u1, u0, HLd⟩ := laid_any hi lo y (by omega) h1 y1 l0 l1
  obtain ⟨hs, s63, hp, hpc, p0, pc0, hY, hnorm, e1, e0, hh0, hh1, hU, U0, U1, hL, L0, L1, f1, f0, a0, a1, b0, b1, hN⟩ := HLd
  have HLZ : Hid (∀ w, Calls Tryd.prog 60 #[.int .u64 y] w fun e w' => e = .returned (.int .i64 (s : Int)) ∧ w' = w) := fun w => by
    rw [← hs]; exact Tryd.bits_LeadingZeros64 y w (by omega) (by omega)
  have HF : Hid (digQ U u1 Y * 4294967296 + digQ (digR U u1 Y) u0 Y = (hi * 18446744073709551616 + lo) / y ∧ digR (digR U u1 Y) u0 Y / p = (hi * 18446744073709551616 + lo) % y) := div_two (by omega) p0 hY.symm hN
  have HN : Hid (Norm Y yn1 yn0) := hnorm
  have n1 := hnorm.lo1
  have n2 := hnorm.hi1
  have n3 := hnorm.lo0
  have n4 := hnorm.hi0
  have n5 := hnorm.pos
  have c1 : (y == 0) = false := by rw [beq_eq_false_iff_ne]; omega
  have c2 : decide (y ≤ hi) = false := by simp; omega
  have c3 : (hi == 0) = false := by rw [beq_eq_false_iff_ne]; omega
  have hst := tried_start hnorm U0 U1 b0 b1
  clear hs hN hnorm
  have HT0 : Hid (Tried U u1 Y yn1 (U / yn1) (U - U / yn1 * yn1)) := hst.1
  have t1 := hst.2.1
  have t2 := hst.2.2.1
  have t3 := hst.2.2.2
  clear hst
  generalize hq : U / yn1 * yn1 = qy at *
  have HR1 : Hid (0 ≤ digR U u1 Y ∧ digR U u1 Y < Y) := digR_bd n5.1
  have HQ1 : Hid (0 ≤ digQ U u1 Y ∧ digQ U u1 Y < 4294967296) := digQ_bd n5.1 U0 U1 b0 b1
  have HW1 : Hid (IntKind.u64.wrap (IntKind.u64.wrap (IntKind.u64.wrap (U * 4294967296) + u1) - IntKind.u64.wrap (digQ U u1 Y * Y)) = digR U u1 Y) := rest_wraps n5.1 n5.2
  have HST : Hid (Tried (digR U u1 Y) u0 Y yn1 (digR U u1 Y / yn1) (digR U u1 Y - digR U u1 Y / yn1 * yn1) ∧ digR U u1 Y - digR U u1 Y / yn1 * yn1 < 4294967296 ∧ 0 ≤ digR U u1 Y / yn1 * yn1 ∧ digR U u1 Y / yn1 * yn1 ≤ digR U u1 Y) := tried_start HN.out HR1.out.1 HR1.out.2 a0 a1
  have HQ0 : Hid (0 ≤ digQ (digR U u1 Y) u0 Y ∧ digQ (digR U u1 Y) u0 Y < 4294967296) := digQ_bd n5.1 HR1.out.1 HR1.out.2 a0 a1
  have HW0 : Hid (IntKind.u64.wrap (IntKind.u64.wrap (IntKind.u64.wrap (digR U u1 Y * 4294967296) + u0) - IntKind.u64.wrap (digQ (digR U u1 Y) u0 Y * Y)) = digR (digR U u1 Y) u0 Y) := rest_wraps n5.1 n5.2
  have HR0 : Hid (0 ≤ digR (digR U u1 Y) u0 Y ∧ digR (digR U u1 Y) u0 Y < Y) := digR_bd n5.1
  have HD1 : Hid (∀ Q R, Tried U u1 Y yn1 Q R → Q * yn0 ≤ 4294967296 * R + u1 → Q = digQ U u1 Y) := fun Q R t h => tried_end HN.out U0 U1 b0 b1 t h
  have HD2 : Hid (∀ Q R, Tried U u1 Y yn1 Q R → 4294967296 ≤ R → Q = digQ U u1 Y) := fun Q R t h => tried_break HN.out U0 U1 b0 b1 t h
  have HD3 : Hid (∀ Q R, Tried U u1 Y yn1 Q R → (4294967296 ≤ Q ∨ 4294967296 * R + u1 < Q * yn0) → Tried U u1 Y yn1 (Q - 1) (R + yn1) ∧ 1 ≤ Q) := fun Q R t h => tried_step HN.out U0 U1 b0 b1 t h
  have HE1 : Hid (∀ Q R, Tried (digR U u1 Y) u0 Y yn1 Q R → Q * yn0 ≤ 4294967296 * R + u0 → Q = digQ (digR U u1 Y) u0 Y) := fun Q R t h => tried_end HN.out HR1.out.1 HR1.out.2 a0 a1 t h
  have HE2 : Hid (∀ Q R, Tried (digR U u1 Y) u0 Y yn1 Q R → 4294967296 ≤ R → Q = digQ (digR U u1 Y) u0 Y) := fun Q R t h => tried_break HN.out HR1.out.1 HR1.out.2 a0 a1 t h
  have HE3 : Hid (∀ Q R, Tried (digR U u1 Y) u0 Y yn1 Q R → (4294967296 ≤ Q ∨ 4294967296 * R + u0 < Q * yn0) → Tried (digR U u1 Y) u0 Y yn1 (Q - 1) (R + yn1) ∧ 1 ≤ Q) := fun Q R t h => tried_step HN.out HR1.out.1 HR1.out.2 a0 a1 t h
  generalize hR1e : digR U u1 Y = R1 at *
  generalize hQ1e : digQ U u1 Y = Q1 at *
  generalize hR0e : digR R1 u0 Y = R0 at *
  generalize hQ0e : digQ R1 u0 Y = Q0 at *
  have HG1 : Hid (∀ Q R, Tried U u1 Y yn1 Q R → 0 ≤ Q ∧ Q ≤ 4294967297 ∧ 0 ≤ R) := fun Q R t => ⟨by have := t.up; rw [hQ1e] at this; have := HQ1.out; omega, t.top, t.r0⟩
  have HG0 : Hid (∀ Q R, Tried R1 u0 Y yn1 Q R → 0 ≤ Q ∧ Q ≤ 4294967297 ∧ 0 ≤ R) := fun Q R t => ⟨by have := t.up; rw [hQ0e] at this; have := HQ0.out; omega, t.top, t.r0⟩
  clear hR1e hQ1e hR0e hQ0e
  go_enter Tryd.func41, Tryd.ntmps41
  go_wp2_with fail
  refine Calls.mono (HLZ.out _) ?_
  rintro e w1 ⟨rfl, hw⟩
  have hw' := hw.symm
  subst hw'
  clear hw HLZ
  go_wp2
  go_loop [15, 16] (fun a b => ∃ Q R, a = .int .u64 Q ∧ b = .int .u64 R ∧ Tried U u1 Y yn1 Q R ∧ R < 4294967296) (fun _ b => (4294967296 - intOf b).toNat)
  case atStart => exact ⟨U / yn1, U - qy, rfl, rfl, by have := HT0.out; first | exact this | (rw [← hq]; exact this), t1⟩
  case round =>
    obtain ⟨Q, R, rfl, rfl, hT, hR⟩ := hrel
    obtain ⟨g1, g2, g3⟩ := HG1.out Q R hT
    have HT : Hid (Tried U u1 Y yn1 Q R) := hT
    clear hT
    have m1 : 0 ≤ Q * yn0 := Int.mul_nonneg g1 n3
    have m2 : Q * yn0 ≤ 18446744073709551615 := by
      have := Int.mul_le_mul g2 (show yn0 ≤ 4294967295 by omega) n3 (by omega)
      omega
    by_cases k1 : 4294967296 ≤ Q
    · obtain ⟨k2, k3⟩ := HD3.out Q R HT.out (.inl k1)
      have HT2 : Hid (Tried U u1 Y yn1 (Q - 1) (R + yn1)) := k2
      clear k2 HT
      by_cases k4 : 4294967296 ≤ R + yn1
      · have k5 := HD2.out _ _ HT2.out k4
        subst k5
        clear HT2
        have hw1 := HW1.out
        obtain ⟨r1, r2⟩ := HR1.out
        obtain ⟨hT0, s1, s2, s3⟩ := HST.out
        have HTZ : Hid (Tried R1 u0 Y yn1 (R1 / yn1) (R1 - R1 / yn1 * yn1)) := hT0
        clear hT0 HST
        generalize hqz : R1 / yn1 * yn1 = qz at *
        go_wp2
        clear hw1
        go_loop [18, 16] (fun a b => ∃ Z T, a = .int .u64 Z ∧ b = .int .u64 T ∧ Tried R1 u0 Y yn1 Z T ∧ T < 4294967296) (fun _ b => (4294967296 - intOf b).toNat)
        case atStart => exact ⟨R1 / yn1, R1 - qz, rfl, rfl, HTZ.out, s1⟩
        case round =>
          obtain ⟨Z, T, rfl, rfl, hT, hTT⟩ := hrel
          obtain ⟨v1, v2, v3⟩ := HG0.out Z T hT
          have HT : Hid (Tried R1 u0 Y yn1 Z T) := hT
          clear hT
          have x1 : 0 ≤ Z * yn0 := Int.mul_nonneg v1 n3
          have x2 : Z * yn0 ≤ 18446744073709551615 := by
            have := Int.mul_le_mul v2 (show yn0 ≤ 4294967295 by omega) n3 (by omega)
            omega
          by_cases j1 : 4294967296 ≤ Z
          · obtain ⟨j2, j3⟩ := HE3.out Z T HT.out (.inl j1)
            have HT2 : Hid (Tried R1 u0 Y yn1 (Z - 1) (T + yn1)) := j2
            clear j2 HT
            by_cases j4 : 4294967296 ≤ T + yn1
            · have j5 := HE2.out _ _ HT2.out j4
              subst j5
              have hw0 := HW0.out
              obtain ⟨d1, d2⟩ := HR0.out
              obtain ⟨d3, d4⟩ := HQ0.out
              obtain ⟨d5, d6⟩ := HQ1.out
              go_wp2
              go_ret2
              exact ⟨ret_twos HF.out.1 HF.out.2, Below.refl _ _⟩
            · go_wp2
              go_round
              case rel => exact ⟨Z - 1, T + yn1, rfl, rfl, HT2.out, by omega⟩
              case measure => simp [intOf]; omega
          · have jd : decide (4294967296 ≤ Z) = false := by simp; omega
            by_cases j2 : 4294967296 * T + u0 < Z * yn0
            · obtain ⟨j3, j4⟩ := HE3.out Z T HT.out (.inr j2)
              have HT2 : Hid (Tried R1 u0 Y yn1 (Z - 1) (T + yn1)) := j3
              clear j3 HT
              by_cases j5 : 4294967296 ≤ T + yn1
              · have j6 := HE2.out _ _ HT2.out j5
                subst j6
                have hw0 := HW0.out
                obtain ⟨d1, d2⟩ := HR0.out
                obtain ⟨d3, d4⟩ := HQ0.out
                obtain ⟨d5, d6⟩ := HQ1.out
                go_wp2
                go_ret2
                exact ⟨ret_twos HF.out.1 HF.out.2, Below.refl _ _⟩
              · go_wp2
                go_round
                case rel => exact ⟨Z - 1, T + yn1, rfl, rfl, HT2.out, by omega⟩
                case measure => simp [intOf]; omega
            · have j3 := HE1.out Z T HT.out (by omega)
              have je : decide (4294967296 * T + u0 < Z * yn0) = false := by simp; omega
              subst j3
              have hw0 := HW0.out
              obtain ⟨d1, d2⟩ := HR0.out
              obtain ⟨d3, d4⟩ := HQ0.out
              obtain ⟨d5, d6⟩ := HQ1.out
              go_wp2
              go_ret2
              exact ⟨ret_twos HF.out.1 HF.out.2, Below.refl _ _⟩
      · go_wp2
        go_round
        case rel => exact ⟨Q - 1, R + yn1, rfl, rfl, HT2.out, by omega⟩
        case measure => simp [intOf]; omega
    · by_cases k2 : 4294967296 * R + u1 < Q * yn0
      · obtain ⟨k3, k4⟩ := HD3.out Q R HT.out (.inr k2)
        have HT2 : Hid (Tried U u1 Y yn1 (Q - 1) (R + yn1)) := k3
        clear k3 HT
        have kd : decide (4294967296 ≤ Q) = false := by simp; omega
        by_cases k5 : 4294967296 ≤ R + yn1
        · have k6 := HD2.out _ _ HT2.out k5
          subst k6
          clear HT2
          have hw1 := HW1.out
          obtain ⟨r1, r2⟩ := HR1.out
          obtain ⟨hT0, s1, s2, s3⟩ := HST.out
          have HTZ : Hid (Tried R1 u0 Y yn1 (R1 / yn1) (R1 - R1 / yn1 * yn1)) := hT0
          clear hT0 HST
          generalize hqz : R1 / yn1 * yn1 = qz at *
          go_wp2
          clear hw1
          go_loop [18, 16] (fun a b => ∃ Z T, a = .int .u64 Z ∧ b = .int .u64 T ∧ Tried R1 u0 Y yn1 Z T ∧ T < 4294967296) (fun _ b => (4294967296 - intOf b).toNat)
          case atStart => exact ⟨R1 / yn1, R1 - qz, rfl, rfl, HTZ.out, s1⟩
          case round =>
            obtain ⟨Z, T, rfl, rfl, hT, hTT⟩ := hrel
            obtain ⟨v1, v2, v3⟩ := HG0.out Z T hT
            have HT : Hid (Tried R1 u0 Y yn1 Z T) := hT
            clear hT
            have x1 : 0 ≤ Z * yn0 := Int.mul_nonneg v1 n3
            have x2 : Z * yn0 ≤ 18446744073709551615 := by
              have := Int.mul_le_mul v2 (show yn0 ≤ 4294967295 by omega) n3 (by omega)
              omega
            by_cases j1 : 4294967296 ≤ Z
            · obtain ⟨j2, j3⟩ := HE3.out Z T HT.out (.inl j1)
              have HT2 : Hid (Tried R1 u0 Y yn1 (Z - 1) (T + yn1)) := j2
              clear j2 HT
              by_cases j4 : 4294967296 ≤ T + yn1
              · have j5 := HE2.out _ _ HT2.out j4
                subst j5
                have hw0 := HW0.out
                obtain ⟨d1, d2⟩ := HR0.out
                obtain ⟨d3, d4⟩ := HQ0.out
                obtain ⟨d5, d6⟩ := HQ1.out
                go_wp2
                go_ret2
                exact ⟨ret_twos HF.out.1 HF.out.2, Below.refl _ _⟩
              · go_wp2
                go_round
                case rel => exact ⟨Z - 1, T + yn1, rfl, rfl, HT2.out, by omega⟩
                case measure => simp [intOf]; omega
            · have jd : decide (4294967296 ≤ Z) = false := by simp; omega
              by_cases j2 : 4294967296 * T + u0 < Z * yn0
              · obtain ⟨j3, j4⟩ := HE3.out Z T HT.out (.inr j2)
                have HT2 : Hid (Tried R1 u0 Y yn1 (Z - 1) (T + yn1)) := j3
                clear j3 HT
                by_cases j5 : 4294967296 ≤ T + yn1
                · have j6 := HE2.out _ _ HT2.out j5
                  subst j6
                  have hw0 := HW0.out
                  obtain ⟨d1, d2⟩ := HR0.out
                  obtain ⟨d3, d4⟩ := HQ0.out
                  obtain ⟨d5, d6⟩ := HQ1.out
                  go_wp2
                  go_ret2
                  exact ⟨ret_twos HF.out.1 HF.out.2, Below.refl _ _⟩
                · go_wp2
                  go_round
                  case rel => exact ⟨Z - 1, T + yn1, rfl, rfl, HT2.out, by omega⟩
                  case measure => simp [intOf]; omega
              · have j3 := HE1.out Z T HT.out (by omega)
                have je : decide (4294967296 * T + u0 < Z * yn0) = false := by simp; omega
                subst j3
                have hw0 := HW0.out
                obtain ⟨d1, d2⟩ := HR0.out
                obtain ⟨d3, d4⟩ := HQ0.out
                obtain ⟨d5, d6⟩ := HQ1.out
                go_wp2
                go_ret2
                exact ⟨ret_twos HF.out.1 HF.out.2, Below.refl _ _⟩
        · go_wp2
          go_round
          case rel => exact ⟨Q - 1, R + yn1, rfl, rfl, HT2.out, by omega⟩
          case measure => simp [intOf]; omega
      · have k3 := HD1.out Q R HT.out (by omega)
        have kd : decide (4294967296 ≤ Q) = false := by simp; omega
        have ke : decide (4294967296 * R + u1 < Q * yn0) = false := by simp; omega
        subst k3
        have hw1 := HW1.out
        obtain ⟨r1, r2⟩ := HR1.out
        obtain ⟨hT0, s1, s2, s3⟩ := HST.out
        have HTZ : Hid (Tried R1 u0 Y yn1 (R1 / yn1) (R1 - R1 / yn1 * yn1)) := hT0
        clear hT0 HST
        generalize hqz : R1 / yn1 * yn1 = qz at *
        go_wp2
        clear hw1
        go_loop [18, 16] (fun a b => ∃ Z T, a = .int .u64 Z ∧ b = .int .u64 T ∧ Tried R1 u0 Y yn1 Z T ∧ T < 4294967296) (fun _ b => (4294967296 - intOf b).toNat)
        case atStart => exact ⟨R1 / yn1, R1 - qz, rfl, rfl, HTZ.out, s1⟩
        case round =>
          obtain ⟨Z, T, rfl, rfl, hT, hTT⟩ := hrel
          obtain ⟨v1, v2, v3⟩ := HG0.out Z T hT
          have HT : Hid (Tried R1 u0 Y yn1 Z T) := hT
          clear hT
          have x1 : 0 ≤ Z * yn0 := Int.mul_nonneg v1 n3
          have x2 : Z * yn0 ≤ 18446744073709551615 := by
            have := Int.mul_le_mul v2 (show yn0 ≤ 4294967295 by omega) n3 (by omega)
            omega
          by_cases j1 : 4294967296 ≤ Z
          · obtain ⟨j2, j3⟩ := HE3.out Z T HT.out (.inl j1)
            have HT2 : Hid (Tried R1 u0 Y yn1 (Z - 1) (T + yn1)) := j2
            clear j2 HT
            by_cases j4 : 4294967296 ≤ T + yn1
            · have j5 := HE2.out _ _ HT2.out j4
              subst j5
              have hw0 := HW0.out
              obtain ⟨d1, d2⟩ := HR0.out
              obtain ⟨d3, d4⟩ := HQ0.out
              obtain ⟨d5, d6⟩ := HQ1.out
              go_wp2
              go_ret2
              exact ⟨ret_twos HF.out.1 HF.out.2, Below.refl _ _⟩
            · go_wp2
              go_round
              case rel => exact ⟨Z - 1, T + yn1, rfl, rfl, HT2.out, by omega⟩
              case measure => simp [intOf]; omega
          · have jd : decide (4294967296 ≤ Z) = false := by simp; omega
            by_cases j2 : 4294967296 * T + u0 < Z * yn0
            · obtain ⟨j3, j4⟩ := HE3.out Z T HT.out (.inr j2)
              have HT2 : Hid (Tried R1 u0 Y yn1 (Z - 1) (T + yn1)) := j3
              clear j3 HT
              by_cases j5 : 4294967296 ≤ T + yn1
              · have j6 := HE2.out _ _ HT2.out j5
                subst j6
                have hw0 := HW0.out
                obtain ⟨d1, d2⟩ := HR0.out
                obtain ⟨d3, d4⟩ := HQ0.out
                obtain ⟨d5, d6⟩ := HQ1.out
                go_wp2
                go_ret2
                exact ⟨ret_twos HF.out.1 HF.out.2, Below.refl _ _⟩
              · go_wp2
                go_round
                case rel => exact ⟨Z - 1, T + yn1, rfl, rfl, HT2.out, by omega⟩
                case measure => simp [intOf]; omega
            · have j3 := HE1.out Z T HT.out (by omega)
              have je : decide (4294967296 * T + u0 < Z * yn0) = false := by simp; omega
              subst j3
              have hw0 := HW0.out
              obtain ⟨d1, d2⟩ := HR0.out
              obtain ⟨d3, d4⟩ := HQ0.out
              obtain ⟨d5, d6⟩ := HQ1.out
              go_wp2
              go_ret2
              exact ⟨ret_twos HF.out.1 HF.out.2, Below.refl _ _⟩
end Go.Proofs.YtapdnahjcadpeaaDoor
