/- RingTops: the law's walk. Conditions: none but the numbers' own ranges. -/
import Derived.Test.YtgdijnmanhglnaaRingI
namespace Go.Proofs.Ytgdijnmanhglnaa
open Go.RowKit
set_option linter.unusedVariables false
set_option maxRecDepth 100000

/-- Two tops of one size that the law made. -/
structure Tops (w W : World) (t b g t2 b2 g2 n : Nat) (xs ys : List Int) : Prop where
  one : TopIs W t b g n xs
  two : TopIs W t2 b2 g2 n ys
  bel : Below w.heap.size w W
  new : w.heap.size ≤ t ∧ w.heap.size ≤ b ∧ w.heap.size ≤ g ∧ w.heap.size ≤ t2 ∧ w.heap.size ≤ b2 ∧ w.heap.size ≤ g2
  ap : (t ≠ t2 ∧ t ≠ b2 ∧ t ≠ g2) ∧ (b ≠ t2 ∧ b ≠ b2 ∧ b ≠ g2) ∧ (g ≠ t2 ∧ g ≠ b2 ∧ g ≠ g2)
theorem Tops.first {w W W' : World} {t b g t2 b2 g2 n : Nat} {xs ys zs : List Int} (h : Tops w W t b g t2 b2 g2 n xs ys) (k : Mod [t, b, g] W W') (hz : TopIs W' t b g n zs) : Tops w W' t b g t2 b2 g2 n zs ys :=
  ⟨hz, h.two.mod k (by have := h.ap; simp; omega) (by have := h.ap; simp; omega) (by have := h.ap; simp; omega), k.below h.bel (by have := h.new; simp; omega), h.new, h.ap⟩
theorem Tops.second {w W W' : World} {t b g t2 b2 g2 n : Nat} {xs ys zs : List Int} (h : Tops w W t b g t2 b2 g2 n xs ys) (k : Mod [t2, b2, g2] W W') (hz : TopIs W' t2 b2 g2 n zs) : Tops w W' t b g t2 b2 g2 n xs zs :=
  ⟨h.one.mod k (by have := h.ap; simp; omega) (by have := h.ap; simp; omega) (by have := h.ap; simp; omega), hz, k.below h.bel (by have := h.new; simp; omega), h.new, h.ap⟩
theorem Tops.stays {w W W' : World} {t b g t2 b2 g2 n : Nat} {xs ys : List Int} (h : Tops w W t b g t2 b2 g2 n xs ys) (k : Below W.heap.size W W') : Tops w W' t b g t2 b2 g2 n xs ys :=
  ⟨h.one.below k, h.two.below k, h.bel.trans (k.mono h.bel.size), h.new, h.ap⟩
/-- Whether m is among the first d. -/
def anyEq (xs : List Int) (m : Int) (d : Nat) : Bool := (xs.take d).any fun x => x == m
theorem anyEq_step (xs : List Int) (m : Int) (d : Nat) (h : d < xs.length) : anyEq xs m (d + 1) = (anyEq xs m d || atL xs d == m) := by
  unfold anyEq atL
  rw [List.take_succ_eq_append_getElem h, List.any_append]
  simp [List.getD_eq_getElem?_getD, List.getElem?_eq_getElem h]
theorem anyEq_all (xs : List Int) (m : Int) (h : m ∈ xs) : anyEq xs m xs.length = true := by
  unfold anyEq
  rw [List.take_of_length_le (Nat.le_refl _), List.any_eq_true]
  exact ⟨m, h, by simp⟩
theorem ago_push (n : Nat) (zs : List Int) (d : Nat) (h : d < (pushL n [] zs).length) : atL (pushL n [] zs) d = zs.getD (zs.length - 1 - d) 0 := by
  rw [pushL_len] at h
  exact pushL_new n [] zs d (by simp at h; omega) (by omega)
end Go.Proofs.Ytgdijnmanhglnaa
