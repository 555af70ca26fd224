/- picketref1's Mul, by numbers. Conditions: both below 2^96 in size. -/
import Derived.Test.YtgpophdlmibmgaaBig20
namespace Go.Proofs.Ytgpophdlmibmgaa
open Go.RowKit
set_option linter.unusedVariables false
set_option maxRecDepth 100000

theorem valD_three {a : Nat → Int} (h : Dig a) (hb : valD a 6 < 79228162514264337593543950336) : valD a 3 = valD a 6 := by
  have e : valD a 6 = valD a 3 + a 3 * 4294967296 ^ 3 + a 4 * 4294967296 ^ 4 + a 5 * 4294967296 ^ 5 := rfl
  have h0 := (valD_nonneg h 3 (by omega)).1
  have h3 := (h 3 (by omega)).1
  have h4 := (h 4 (by omega)).1
  have h5 := (h 5 (by omega)).1
  simp only [Int.reducePow] at e
  omega
theorem rmul_big (u v : Value) (x y : Int) (w : World) (h1 : IsBig u x) (h2 : IsBig v y) (hx0 : -79228162514264337593543950336 < x) (hx1 : x < 79228162514264337593543950336) (hy0 : -79228162514264337593543950336 < y) (hy1 : y < 79228162514264337593543950336) :
    Calls Try.prog 21 #[u, v] w fun e w' => ∃ v', e = .returned v' ∧ IsBig v' (x * y) ∧ Below w.heap.size w w' := by
  obtain ⟨m, a, rfl, ha, hsx, hmx⟩ := h1
  obtain ⟨n, b, rfl, hb, hsy, hny⟩ := h2
  refine Calls.mono (rmul_loops m n a b w ha hb) ?_
  rintro e w' ⟨d, k, rfl, hd, hv, hk, hbel⟩
  refine ⟨_, rfl, ⟨k, d, rfl, hd, ?_⟩, hbel⟩
  have hz := zB_val hd
  have hn := (valD_nonneg hd 6 (Nat.le_refl _)).1
  have ra := sv_of ha hsx hmx
  have rb := sv_of hb hsy hny
  have ea : valD a 3 = valD a 6 := valD_three ha (by omega)
  have eb : valD b 3 = valD b 6 := valD_three hb (by omega)
  rw [ea, eb] at hv
  have hs : sv k d = if k = true then -(valD d 6) else valD d 6 := rfl
  rw [hs]
  rcases ra with ⟨rfl, va, xa⟩ | ⟨rfl, va, xa⟩ <;> rcases rb with ⟨rfl, vb, yb⟩ | ⟨rfl, vb, yb⟩ <;> rw [va, vb] at hv
  · have hk' : k = false := by rw [hk]; rfl
    subst hk'
    rw [Int.neg_mul_neg] at hv
    exact ⟨by simp [hv], fun h => by cases h⟩
  · rw [Int.neg_mul] at hv
    generalize x * y = P at *
    cases hzb : zB d
    · have hk' : k = true := by rw [hk, hzb]; rfl
      have h0 := hz.2 hzb
      subst hk'
      exact ⟨by simp; omega, fun _ => by omega⟩
    · have hk' : k = false := by rw [hk, hzb]; rfl
      have h0 := hz.1 hzb
      subst hk'
      exact ⟨by simp; omega, fun h => by cases h⟩
  · rw [Int.mul_neg] at hv
    generalize x * y = P at *
    cases hzb : zB d
    · have hk' : k = true := by rw [hk, hzb]; rfl
      have h0 := hz.2 hzb
      subst hk'
      exact ⟨by simp; omega, fun _ => by omega⟩
    · have hk' : k = false := by rw [hk, hzb]; rfl
      have h0 := hz.1 hzb
      subst hk'
      exact ⟨by simp; omega, fun h => by cases h⟩
  · have hk' : k = false := by rw [hk]; rfl
    subst hk'
    exact ⟨by simp [hv], fun h => by cases h⟩
end Go.Proofs.Ytgpophdlmibmgaa
