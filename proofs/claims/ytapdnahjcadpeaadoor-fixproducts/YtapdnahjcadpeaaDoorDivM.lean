/- A quotient of two words by one, digit by digit of 32 bits: numbers alone. -/
import Derived.Test.YtapdnahjcadpeaaDoorMath
import Derived.Lib.BitFns
namespace Go.Proofs.YtapdnahjcadpeaaDoor
set_option linter.unusedVariables false
set_option maxRecDepth 100000

/-- The divisor, moved up, and its halves. -/
structure Norm (Y y1 y0 : Int) : Prop where
  split : Y = y1 * 4294967296 + y0
  lo1 : 2147483648 ≤ y1
  hi1 : y1 < 4294967296
  lo0 : 0 ≤ y0
  hi0 : y0 < 4294967296
/-- The digit that is sought. -/
def digQ (U u Y : Int) : Int := (U * 4294967296 + u) / Y
theorem digQ_le {U u Y : Int} (hY : 0 < Y) : digQ U u Y * Y ≤ U * 4294967296 + u := Int.ediv_mul_le _ (by omega)
theorem digQ_lt {U u Y : Int} (hY : 0 < Y) : U * 4294967296 + u < (digQ U u Y + 1) * Y := by
  have := Int.lt_ediv_add_one_mul_self (U * 4294967296 + u) hY
  exact this
theorem digQ_bd {U u Y : Int} (hY : 0 < Y) (h0 : 0 ≤ U) (hU : U < Y) (u0 : 0 ≤ u) (u1 : u < 4294967296) : 0 ≤ digQ U u Y ∧ digQ U u Y < 4294967296 := by
  refine ⟨Int.ediv_nonneg (by omega) (by omega), ?_⟩
  unfold digQ
  apply Int.ediv_lt_of_lt_mul hY
  omega
/-- What holds of the digit tried: no less than the one sought, with its rest. -/
structure Tried (U u Y y1 q r : Int) : Prop where
  up : digQ U u Y ≤ q
  eq : q * y1 + r = U
  r0 : 0 ≤ r
  top : q ≤ 4294967297
  rest : r < 4294967296 ∨ q ≤ 4294967296
theorem Norm.pos {Y y1 y0 : Int} (h : Norm Y y1 y0) : 0 < Y ∧ Y < 18446744073709551616 := by
  obtain ⟨rfl, h1, h2, h3, h4⟩ := h
  omega
theorem mulY {Y y1 y0 : Int} (h : Norm Y y1 y0) (q : Int) : q * Y = q * y1 * 4294967296 + q * y0 := by
  rw [h.split, Int.mul_add, Int.mul_assoc]
theorem tried_start {U u Y y1 y0 : Int} (h : Norm Y y1 y0) (h0 : 0 ≤ U) (hU : U < Y) (u0 : 0 ≤ u) (u1 : u < 4294967296) :
    Tried U u Y y1 (U / y1) (U - U / y1 * y1) ∧ U - U / y1 * y1 < 4294967296 ∧ 0 ≤ U / y1 * y1 ∧ U / y1 * y1 ≤ U := by
  have hy : 0 < y1 := by have := h.lo1; omega
  have hQ := digQ_le (U := U) (u := u) h.pos.1
  have hb := digQ_bd (U := U) (u := u) h.pos.1 h0 hU u0 u1
  rw [mulY h] at hQ
  have hc : 0 ≤ digQ U u Y * y0 := Int.mul_nonneg hb.1 h.lo0
  have hle : digQ U u Y * y1 ≤ U := by
    generalize digQ U u Y * y1 = P at *
    omega
  have h1 : digQ U u Y ≤ U / y1 := Int.le_ediv_of_mul_le hy hle
  have e1 := Int.ediv_mul_le U (show y1 ≠ 0 by omega)
  have e2 := Int.lt_ediv_add_one_mul_self U hy
  have hq0 : 0 ≤ U / y1 := Int.ediv_nonneg h0 (by omega)
  have hqy : 0 ≤ U / y1 * y1 := Int.mul_nonneg hq0 (by omega)
  have e3 : (U / y1 + 1) * y1 = U / y1 * y1 + y1 := by rw [Int.add_mul, Int.one_mul]
  rw [e3] at e2
  have hlo := h.lo1
  have hhi := h.hi1
  have hsp := h.split
  have hy0 := h.hi0
  have htop : U / y1 ≤ 4294967297 := by
    rcases Int.lt_or_le 4294967297 (U / y1) with c | c
    · have : 4294967298 * y1 ≤ U / y1 * y1 := Int.mul_le_mul_of_nonneg_right (by omega) (by omega)
      omega
    · exact c
  exact ⟨⟨h1, by omega, by omega, htop, .inl (by omega)⟩, by omega, hqy, e1⟩
theorem tried_step {U u Y y1 y0 q r : Int} (h : Norm Y y1 y0) (h0 : 0 ≤ U) (hU : U < Y) (u0 : 0 ≤ u) (u1 : u < 4294967296) (t : Tried U u Y y1 q r) (hc : 4294967296 ≤ q ∨ 4294967296 * r + u < q * y0) :
    Tried U u Y y1 (q - 1) (r + y1) ∧ 1 ≤ q := by
  have hb := digQ_bd (U := U) (u := u) h.pos.1 h0 hU u0 u1
  have hQ := digQ_le (U := U) (u := u) h.pos.1
  have hne : digQ U u Y ≠ q := by
    intro e
    rcases hc with hc | hc
    · omega
    · rw [e, mulY h] at hQ
      have := t.eq
      generalize q * y1 = P at *
      generalize q * y0 = C at *
      omega
  have := t.up
  have htop := t.top
  refine ⟨⟨by omega, ?_, ?_, by omega, .inr (by omega)⟩, by omega⟩
  · have := t.eq
    rw [Int.sub_mul, Int.one_mul]; omega
  · have := t.r0; have := h.lo1; omega
theorem tried_end {U u Y y1 y0 q r : Int} (h : Norm Y y1 y0) (h0 : 0 ≤ U) (hU : U < Y) (u0 : 0 ≤ u) (u1 : u < 4294967296) (t : Tried U u Y y1 q r) (hc : q * y0 ≤ 4294967296 * r + u) : q = digQ U u Y := by
  have hQ := digQ_lt (U := U) (u := u) h.pos.1
  have hm : q * Y ≤ U * 4294967296 + u := by
    rw [mulY h]
    have := t.eq
    generalize q * y1 = P at *
    generalize q * y0 = C at *
    omega
  have hup := t.up
  rcases Int.lt_or_le (digQ U u Y) q with c | c
  · have : (digQ U u Y + 1) * Y ≤ q * Y := Int.mul_le_mul_of_nonneg_right (by omega) (by have := h.pos; omega)
    omega
  · omega
theorem tried_break {U u Y y1 y0 q r : Int} (h : Norm Y y1 y0) (h0 : 0 ≤ U) (hU : U < Y) (u0 : 0 ≤ u) (u1 : u < 4294967296) (t : Tried U u Y y1 q r) (hr : 4294967296 ≤ r) : q = digQ U u Y := by
  have hb := digQ_bd (U := U) (u := u) h.pos.1 h0 hU u0 u1
  have hup := t.up
  have hq : q ≤ 4294967296 := by rcases t.rest with c | c <;> omega
  refine tried_end h h0 hU u0 u1 t ?_
  have hy0 := h.hi0
  have hy00 := h.lo0
  have e1 : q * y0 ≤ 4294967296 * y0 := Int.mul_le_mul_of_nonneg_right hq hy00
  omega
/-- The rest behind a digit. -/
def digR (U u Y : Int) : Int := (U * 4294967296 + u) - digQ U u Y * Y
theorem digR_bd {U u Y : Int} (hY : 0 < Y) : 0 ≤ digR U u Y ∧ digR U u Y < Y := by
  have h1 := digQ_le (U := U) (u := u) hY
  have h2 := digQ_lt (U := U) (u := u) hY
  have e : (digQ U u Y + 1) * Y = digQ U u Y * Y + Y := by rw [Int.add_mul, Int.one_mul]
  unfold digR
  omega
theorem rest_wraps {U u Y : Int} (hY : 0 < Y) (hY2 : Y < 18446744073709551616) :
    IntKind.u64.wrap (IntKind.u64.wrap (IntKind.u64.wrap (U * 4294967296) + u) - IntKind.u64.wrap (digQ U u Y * Y)) = digR U u Y := by
  have h := digR_bd (U := U) (u := u) hY
  unfold digR at *
  generalize digQ U u Y * Y = P at *
  simp only [IntKind.wrap_u64]
  omega
/-- Two digits are the quotient. -/
theorem div_two {N y p Y U u1 u0 : Int} (hy : 0 < y) (hp : 0 < p) (hY : Y = y * p) (hN : N * p = U * 18446744073709551616 + (u1 * 4294967296 + u0)) :
    digQ U u1 Y * 4294967296 + digQ (digR U u1 Y) u0 Y = N / y ∧ digR (digR U u1 Y) u0 Y / p = N % y := by
  have hYp : 0 < Y := by rw [hY]; exact Int.mul_pos hy hp
  have hr := digR_bd (U := digR U u1 Y) (u := u0) hYp
  have e1 : digR U u1 Y = (U * 4294967296 + u1) - digQ U u1 Y * Y := rfl
  have e2 : digR (digR U u1 Y) u0 Y = (digR U u1 Y * 4294967296 + u0) - digQ (digR U u1 Y) u0 Y * Y := rfl
  generalize digR (digR U u1 Y) u0 Y = R0 at *
  generalize digQ (digR U u1 Y) u0 Y = Q0 at *
  generalize digR U u1 Y = R1 at *
  generalize digQ U u1 Y = Q1 at *
  have e3 : (Q1 * 4294967296 + Q0) * Y = Q1 * Y * 4294967296 + Q0 * Y := by rw [Int.add_mul, Int.mul_right_comm]
  have e4 : N * p = (Q1 * 4294967296 + Q0) * Y + R0 := by
    rw [e3]
    generalize Q1 * Y = a at *
    generalize Q0 * Y = b at *
    omega
  generalize Q1 * 4294967296 + Q0 = q at *
  rw [hY] at e4 hr
  have e5 : (N - q * y) * p = R0 := by
    rw [Int.sub_mul, Int.mul_assoc q y p]; omega
  have t0 : 0 ≤ N - q * y := by
    rcases Int.lt_or_le (N - q * y) 0 with c | c
    · have : (N - q * y) * p < 0 := Int.mul_neg_of_neg_of_pos c hp
      omega
    · exact c
  have t1 : N - q * y < y := by
    rcases Int.lt_or_le (N - q * y) y with c | c
    · exact c
    · have : y * p ≤ (N - q * y) * p := Int.mul_le_mul_of_nonneg_right c (by omega)
      omega
  have e6 : N = (N - q * y) + q * y := by omega
  refine ⟨?_, ?_⟩
  · rw [e6, Int.add_mul_ediv_right _ _ (by omega), Int.ediv_eq_zero_of_lt t0 t1]; omega
  · rw [← e5, Int.mul_ediv_cancel _ (by omega)]
    conv => rhs; rw [e6, Int.add_mul_emod_self_right, Int.emod_eq_of_lt t0 t1]
end Go.Proofs.YtapdnahjcadpeaaDoor
