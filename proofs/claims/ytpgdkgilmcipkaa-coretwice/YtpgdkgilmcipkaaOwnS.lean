/- Rows of one's own: a store into an element. -/
import Derived.Test.YtpgdkgilmcipkaaOwnR
namespace Go.Proofs.Ytpgdkgilmcipkaa
open Go.RowKit
set_option linter.unusedVariables false
set_option maxRecDepth 100000

theorem cellsL_set {X : Type} {C : X → List Value} {c : Nat} (hC : ∀ x, (C x).length = c) (z : X) (l : List X) (k : Nat) (hk : k < l.length) (j : Nat) (hj : j < c) (u : Value) (y : X) (hy : C y = (C (l.getD k z)).set j u) : (cellsL C l).set (k * c + j) u = cellsL C (l.set k y) := by
  induction l generalizing k with
  | nil => simp at hk
  | cons x l ih =>
    cases k with
    | zero =>
      simp only [List.getD_cons_zero] at hy
      simp only [cellsL, List.flatMap_cons, Nat.zero_mul, Nat.zero_add, List.set_cons_zero]
      rw [hy, List.set_append_left _ _ (by rw [hC]; exact hj)]
    | succ k =>
      simp only [List.getD_cons_succ] at hy
      have h1 : (k + 1) * c + j = (C x).length + (k * c + j) := by rw [hC, Nat.succ_mul]; omega
      have := ih k (by simpa using hk) hy
      simp only [cellsL, List.flatMap_cons, List.set_cons_succ] at this ⊢
      rw [h1, List.set_append_right _ _ (by omega), Nat.add_sub_cancel_left, this]
/-- A store into cell j of element k. -/
theorem Own.store {X : Type} {C : X → List Value} {e : TypeId} {c : Nat} (hC : ∀ x, (C x).length = c) (z : X) {W : World} {B g n cap : Nat} {l : List X} (h : Own C e c W B (.slice (some ⟨g, 0, none⟩) n cap) l) (k : Nat) (hk : k < l.length) (j : Nat) (hj : j < c) (u : Value) (y : X) (hy : C y = (C (l.getD k z)).set j u) :
    Own C e c (W.setCell ⟨g, k * c + j, none⟩ u) B (.slice (some ⟨g, 0, none⟩) n cap) (l.set k y) := by
  have hn : n = l.length := by
    obtain ⟨a, cp, e', _⟩ := h.sl hC z
    simp only [Value.slice.injEq] at e'
    exact e'.2.1
  subst hn
  have q := World.ownsRow.stored h (k * c + j) u
  unfold Own
  rw [List.length_set, ← cellsL_set hC z l k hk j hj u y hy]; exact q.1
theorem Own.frz {X : Type} {C : X → List Value} {e : TypeId} {c : Nat} {W : World} {B g n cap : Nat} {l : List X} (h : Own C e c W B (.slice (some ⟨g, 0, none⟩) n cap) l) (j : Nat) : W.frozen? ⟨g, j, none⟩ = false := by
  rcases h.2 with ⟨e', _⟩ | ⟨g', cap', cur, e', _, hh, _⟩
  · cases e'
  · cases e'
    simp [World.frozen?, hh]
/-- A new row of nothing. -/
theorem Own.lit0 {X : Type} (C : X → List Value) (e : TypeId) (c : Nat) (W : World) (B : Nat) (hB : B ≤ W.heap.size) : Own C e c (W.alloc (.cells #[] e)) B (.slice (some ⟨W.heap.size, 0, none⟩) 0 0) [] :=
  ⟨by simp [cellsL], .inr ⟨W.heap.size, 0, #[], rfl, hB, heap_alloc_new W _, Nat.le_refl _, by unfold maxLen; omega, by simp, by simp [cellsL]⟩⟩
end Go.Proofs.Ytpgdkgilmcipkaa
