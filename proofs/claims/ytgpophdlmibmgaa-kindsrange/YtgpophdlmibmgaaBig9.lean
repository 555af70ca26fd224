/- The document's own sum, by numbers. Conditions: both below 2^191. -/
import Derived.Test.YtgpophdlmibmgaaBig8
namespace Go.Proofs.Ytgpophdlmibmgaa
open Go.RowKit
set_option linter.unusedVariables false
set_option maxRecDepth 100000

theorem sv_of {m : Bool} {d : Nat → Int} {x : Int} (hd : Dig d) (h : sv m d = x) (hs : m = true → x < 0) : (m = true ∧ valD d 6 = -x ∧ x < 0) ∨ (m = false ∧ valD d 6 = x ∧ 0 ≤ x) := by
  have := valD_nonneg hd 6 (by omega)
  cases m
  · simp [sv] at h; exact .inr ⟨rfl, h, by omega⟩
  · have h0 := hs rfl; simp [sv] at h; exact .inl ⟨rfl, by omega, h0⟩
theorem radd_big (v1 v2 : Value) (x y : Int) (w : World) (h1 : IsBig v1 x) (h2 : IsBig v2 y)
    (hx0 : -3138550867693340381917894711603833208051177722232017256448 < x) (hx1 : x < 3138550867693340381917894711603833208051177722232017256448)
    (hy0 : -3138550867693340381917894711603833208051177722232017256448 < y) (hy1 : y < 3138550867693340381917894711603833208051177722232017256448) :
    Calls Try.prog 20 #[v1, v2] w fun e w' => ∃ v', e = .returned v' ∧ IsBig v' (x + y) ∧ Below w.heap.size w w' := by
  obtain ⟨m, a, rfl, ha, hxa, hxs⟩ := h1
  obtain ⟨n, b, rfl, hb, hyb, hys⟩ := h2
  have X := sv_of ha hxa hxs
  have Y := sv_of hb hyb hys
  have va := valD_nonneg ha 6 (by omega)
  have vb := valD_nonneg hb 6 (by omega)
  have p6 : (4294967296 : Int) ^ 6 = 6277101735386680763835789423207666416102355444464034512896 := by decide
  by_cases hmn : (m == n) = true
  · have hmn' : m = n := by simpa using hmn
    have hv := valP_exact ha hb (by rw [p6]; subst hmn'; omega)
    refine Calls.mono (add_same m n a b w ha hb hmn) fun e w' t => ⟨_, t.1, ⟨m, dgP a b, rfl, dgP_dig ha hb, ?_, ?_⟩, t.2⟩
    · subst hmn'; unfold sv; rw [hv]; split <;> rename_i h <;> simp only [h] at X Y <;> simp at X Y <;> omega
    · intro h; have := hxs h; have := hys (hmn' ▸ h); omega
  · have hmn0 : (m == n) = false := by simpa using hmn
    have hmn' : m ≠ n := by simpa using hmn
    by_cases hs : sgnV a b < 0
    · have hlt : valD a 6 < valD b 6 := by
        by_cases h : valD a 6 < valD b 6
        · exact h
        · unfold sgnV at hs; rw [if_neg h] at hs; split at hs <;> omega
      have hv := valL_exact hb ha (by omega)
      cases hz : zB (dgL b a)
      · refine Calls.mono (add_diff_lt_n m n a b w ha hb hmn0 hs hz) fun e w' t => ⟨_, t.1, ⟨n, dgL b a, rfl, dgL_dig hb ha, ?_, ?_⟩, t.2⟩
        · unfold sv; rw [hv]; cases m <;> cases n <;> simp at hmn' X Y ⊢ <;> omega
        · intro h; subst h; cases m <;> simp at hmn' X Y ⊢; omega
      · have := (zB_val (dgL_dig hb ha)).1 hz
        omega
    · have hge : valD b 6 ≤ valD a 6 := by
        by_cases h : valD a 6 < valD b 6
        · unfold sgnV at hs; rw [if_pos h] at hs; omega
        · omega
      have hv := valL_exact ha hb hge
      cases hz : zB (dgL a b)
      · have hp := (zB_val (dgL_dig ha hb)).2 hz
        refine Calls.mono (add_diff_ge_n m n a b w ha hb hmn0 (by omega) hz) fun e w' t => ⟨_, t.1, ⟨m, dgL a b, rfl, dgL_dig ha hb, ?_, ?_⟩, t.2⟩
        · unfold sv; rw [hv]; cases m <;> cases n <;> simp at hmn' X Y ⊢ <;> omega
        · intro h; subst h; cases n <;> simp at hmn' X Y ⊢; omega
      · have hp := (zB_val (dgL_dig ha hb)).1 hz
        refine Calls.mono (add_diff_ge_z m n a b w ha hb hmn0 (by omega) hz) fun e w' t => ⟨_, t.1, ⟨false, dgL a b, rfl, dgL_dig ha hb, ?_, by simp⟩, t.2⟩
        unfold sv; rw [hv]; cases m <;> cases n <;> simp at hmn' X Y ⊢ <;> omega
end Go.Proofs.Ytgpophdlmibmgaa
