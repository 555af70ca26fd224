/- How Div64 moves its divisor and its number up: numbers alone. -/
import Derived.Test.YtapdnahjcadpeaaDoorDivM
import Derived.Lib.ItoaNum
namespace Go.Proofs.YtapdnahjcadpeaaDoor
set_option linter.unusedVariables false
set_option maxRecDepth 100000

/-- What Div64 lays ahead of its two digits. -/
structure Laid (hi lo y : Int) (s : Nat) (p pc Y y1 y0 U L u1 u0 : Int) : Prop where
  hs : 64 - (Lib.bitLen y.toNat : Int) = s
  s63 : s ≤ 63
  hp : (2 : Int) ^ s = p
  hpc : (2 : Int) ^ (64 - s) = pc
  p0 : 0 < p
  pc0 : 0 < pc
  hY : y * p = Y
  norm : Norm Y y1 y0
  e1 : Y / 4294967296 = y1
  e0 : bits .and .u64 Y 4294967295 = y0
  hh0 : 0 ≤ hi * p
  hh1 : hi * p < 18446744073709551616
  hU : bits .or .u64 (hi * p) (lo / pc) = U
  U0 : 0 ≤ U
  U1 : U < Y
  hL : IntKind.u64.wrap (lo * p) = L
  L0 : 0 ≤ L
  L1 : L < 18446744073709551616
  f1 : L / 4294967296 = u1
  f0 : bits .and .u64 L 4294967295 = u0
  a0 : 0 ≤ u0
  a1 : u0 < 4294967296
  b0 : 0 ≤ u1
  b1 : u1 < 4294967296
  hN : (hi * 18446744073709551616 + lo) * p = U * 18446744073709551616 + (u1 * 4294967296 + u0)
theorem or_pow (s : Nat) (a b : Nat) (hs : s ≤ 63) (ha : a * 2 ^ s < 18446744073709551616) (hb : b < 2 ^ s) : bits .or .u64 ((a : Int) * 2 ^ s) (b : Int) = (a : Int) * 2 ^ s + b := by
  have h64 : (2 : Nat) ^ s ≤ 2 ^ 63 := Nat.pow_le_pow_right (by omega) hs
  have e := u64_or_nat (a * 2 ^ s) b ha (by omega)
  rw [nat_join s _ _ (Nat.mul_mod_left _ _) hb] at e
  have c : ((a * 2 ^ s : Nat) : Int) = (a : Int) * 2 ^ s := by rw [Int.natCast_mul, Int.natCast_pow]; rfl
  rw [c] at e
  rw [e, Int.natCast_add, c]
theorem laid_any (hi lo y : Int) (h0 : 0 ≤ hi) (h1 : hi < y) (hy : y < 18446744073709551616) (l0 : 0 ≤ lo) (l1 : lo < 18446744073709551616) : ∃ s p pc Y y1 y0 U L u1 u0, Laid hi lo y s p pc Y y1 y0 U L u1 u0 := by
  have hb := Lib.bitLenAux_bounds 64 y.toNat (by omega) (by omega)
  have hle := Lib.bitLen_le y.toNat 64 (by omega) (by omega)
  have eb : Lib.bitLenAux 64 y.toNat = Lib.bitLen y.toNat := rfl
  rw [eb] at hb
  obtain ⟨s, hs⟩ : ∃ s : Nat, s = 64 - Lib.bitLen y.toNat := ⟨_, rfl⟩
  have hbl : Lib.bitLen y.toNat = 64 - s := by omega
  rw [hbl] at hb
  have hs63 : s ≤ 63 := by omega
  obtain ⟨yn, rfl⟩ : ∃ n : Nat, y = n := ⟨y.toNat, by omega⟩
  obtain ⟨hn, rfl⟩ : ∃ n : Nat, hi = n := ⟨hi.toNat, by omega⟩
  obtain ⟨ln, rfl⟩ : ∃ n : Nat, lo = n := ⟨lo.toNat, by omega⟩
  simp only [Int.toNat_natCast] at hb hbl hs
  have hpp : 2 ^ s * 2 ^ (64 - s) = 18446744073709551616 := by rw [← Nat.pow_add, show s + (64 - s) = 64 by omega]
  have hpq : 2 ^ (64 - s) = 2 ^ (64 - s - 1) * 2 := by rw [← Nat.pow_succ, show (64 - s - 1).succ = 64 - s by omega]
  have hP0 : 0 < 2 ^ s := Nat.pow_pos (by omega)
  have hC0 : 0 < 2 ^ (64 - s) := Nat.pow_pos (by omega)
  have cP : ((2 ^ s : Nat) : Int) = (2 : Int) ^ s := by rw [Int.natCast_pow]; rfl
  have cC : ((2 ^ (64 - s) : Nat) : Int) = (2 : Int) ^ (64 - s) := by rw [Int.natCast_pow]; rfl
  have hor := fun a b => or_pow s a b hs63
  generalize hPe : 2 ^ s = P at *
  generalize hCe : 2 ^ (64 - s) = C at *
  generalize 2 ^ (64 - s - 1) = C2 at *
  -- the divisor
  have y_hi : yn * P < 18446744073709551616 := by
    have : yn * P < C * P := Nat.mul_lt_mul_of_pos_right hb.2.2 hP0
    rw [Nat.mul_comm C P] at this; omega
  have y_lo : 9223372036854775808 ≤ yn * P := by
    have h2 : C2 * P ≤ yn * P := Nat.mul_le_mul_right P hb.2.1
    have h3 : P * (C2 * 2) = 18446744073709551616 := by rw [← hpq]; exact hpp
    have h4 : P * (C2 * 2) = C2 * P * 2 := by rw [← Nat.mul_assoc, Nat.mul_comm P C2]
    omega
  have h_hi : (hn + 1) * P ≤ yn * P := Nat.mul_le_mul_right P (by omega)
  rw [Nat.add_mul, Nat.one_mul] at h_hi
  -- the number's lower word
  have l_lt : ln / C < P := by
    apply Nat.div_lt_of_lt_mul
    rw [Nat.mul_comm, hpp]; omega
  have l_eq : ln * P = ln / C * 18446744073709551616 + ln % C * P := by
    have := Nat.div_add_mod ln C
    conv => lhs; rw [← this]
    rw [Nat.add_mul, Nat.mul_comm C, Nat.mul_assoc, Nat.mul_comm C P, hpp]
  have l_md : ln % C * P < 18446744073709551616 := by
    have : ln % C * P < C * P := Nat.mul_lt_mul_of_pos_right (Nat.mod_lt _ hC0) hP0
    rw [Nat.mul_comm C P] at this; omega
  have ho := hor hn (ln / C) (by omega) l_lt
  rw [← cP] at ho
  have eh : ((hn * P : Nat) : Int) = (hn : Int) * (P : Int) := Int.natCast_mul _ _
  have ey : ((yn * P : Nat) : Int) = (yn : Int) * (P : Int) := Int.natCast_mul _ _
  have el : ((ln * P : Nat) : Int) = (ln : Int) * (P : Int) := Int.natCast_mul _ _
  have edv : ((ln / C : Nat) : Int) = (ln : Int) / (C : Int) := Int.natCast_ediv _ _
  rw [edv] at ho
  have hl2 : IntKind.u64.wrap ((ln : Int) * (P : Int)) = ((ln % C * P : Nat) : Int) := by
    rw [IntKind.wrap_u64, ← el, l_eq]; omega
  refine ⟨s, P, C, (yn : Int) * P, (yn : Int) * P / 4294967296, (yn : Int) * P % 4294967296, (hn : Int) * P + (ln : Int) / (C : Int), ((ln % C * P : Nat) : Int), ((ln % C * P : Nat) : Int) / 4294967296, ((ln % C * P : Nat) : Int) % 4294967296, ?_⟩
  have hdl : (0 : Int) ≤ (ln : Int) / (C : Int) ∧ (ln : Int) / (C : Int) < (P : Int) := by rw [← edv]; omega
  have ed := l_eq
  have edI : (ln : Int) * (P : Int) = (ln : Int) / (C : Int) * 18446744073709551616 + ((ln % C * P : Nat) : Int) := by
    rw [← el, ← edv, l_eq]; omega
  generalize hX : (ln : Int) / (C : Int) = X at *
  generalize hZ : ln % C * P = Z at *
  exact {
    hs := by rw [Int.toNat_natCast]; omega
    s63 := hs63
    hp := cP.symm
    hpc := cC.symm
    p0 := by omega
    pc0 := by omega
    hY := rfl
    norm := ⟨by omega, by omega, by omega, by omega, by omega⟩
    e1 := rfl
    e0 := and_mask _ (by omega) (by omega)
    hh0 := by omega
    hh1 := by omega
    hU := by rw [hX]; exact ho
    U0 := by omega
    U1 := by omega
    hL := hl2
    L0 := by omega
    L1 := by omega
    f1 := rfl
    f0 := and_mask _ (by omega) (by omega)
    a0 := by omega
    a1 := by omega
    b0 := by omega
    b1 := by omega
    hN := by
      have g1 : ((hn : Int) * 18446744073709551616 + ln) * P = (hn : Int) * P * 18446744073709551616 + (ln : Int) * P := by
        rw [Int.add_mul, Int.mul_right_comm]
      rw [g1, edI]; omega }
end Go.Proofs.YtapdnahjcadpeaaDoor
