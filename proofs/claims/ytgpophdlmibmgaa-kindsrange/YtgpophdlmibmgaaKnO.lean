/- KindsFinds' walk. Conditions: names of at most 2^63 - 1 bytes. -/
import Derived.Test.YtgpophdlmibmgaaKnN
namespace Go.Proofs.Ytgpophdlmibmgaa
open Go.RowKit
set_option linter.unusedVariables false
set_option maxRecDepth 100000

theorem newE_each (l : List Sig) : ∀ (acc : List Sig), (newE acc l).1 = 0 → ∀ k, k < l.length → addE (acc ++ l.take k) (l.getD k sig0) = 0 := by
  induction l with
  | nil => intro acc _ k hk; simp at hk
  | cons x r ih =>
    intro acc h k hk
    simp only [newE] at h
    split at h
    · rename_i h0
      cases k with
      | zero => simpa using h0
      | succ k =>
        have := ih (acc ++ [x]) h k (by simpa using hk)
        simpa [List.append_assoc] using this
    · rename_i h0; exact absurd h h0
theorem names_ok {l : List Sig} (h : (namesE l).1 = 0) : l.length ≤ 16 ∧ ∀ k, k < l.length → addE (l.take k) (l.getD k sig0) = 0 := by
  unfold namesE at h
  split at h
  · simp at h
  · rename_i hl
    exact ⟨by omega, fun k hk => by have := newE_each l [] h k hk; simpa using this⟩
theorem addE_has {l : List Sig} {x : Sig} (h : addE l x = 0) : hasB l x.name = false := by
  cases q : hasB l x.name with
  | false => rfl
  | true => simp [addE, q] at h
theorem addE_name {l : List Sig} {x : Sig} (h : addE l x = 0) : isNameB x.name = true ∧ ¬ x.hi < x.lo := by
  unfold addE at h
  split at h
  · omega
  · rename_i h1
    split at h
    · omega
    · rename_i h2
      refine ⟨?_, h2⟩
      cases q : isNameB x.name with
      | true => rfl
      | false => exact absurd (Or.inl q) h1
theorem hasB_not {l : List Sig} {s : ByteArray} (h : hasB l s = false) (j : Nat) (hj : j < l.length) : eqS (l.getD j sig0).name s = false := by
  have h1 : ¬ idxN l s < l.length := by simpa [hasB] using h
  have h2 : idxN l s = l.length := by have := idxN_le l s; omega
  unfold idxN at h2
  rw [List.findIdx_eq_length] at h2
  have := h2 l[j] (List.getElem_mem hj)
  simpa [List.getD_eq_getElem?_getD, hj] using this
/-- Where all could be added each is found at its own number. -/
theorem idxN_own {l : List Sig} (h : (namesE l).1 = 0) (k : Nat) (hk : k < l.length) : idxN l (l.getD k sig0).name = k := by
  refine idxN_at l _ k hk (eqS_refl _) fun j hj => ?_
  have h1 := hasB_not (addE_has ((names_ok h).2 k hk)) j (by rw [List.length_take]; omega)
  rw [List.getD_eq_getElem?_getD, List.getElem?_take_of_lt hj, ← List.getD_eq_getElem?_getD] at h1
  exact h1
def isB (l : List Sig) (s : ByteArray) (k : Nat) : Bool := (l.take k).any fun x => eqS x.name s
theorem isB_succ (l : List Sig) (s : ByteArray) (k : Nat) (hk : k < l.length) : isB l s (k + 1) = (isB l s k || eqS (l.getD k sig0).name s) := any_take _ sig0 l k hk
theorem isB_all (l : List Sig) (s : ByteArray) : isB l s l.length = hasB l s := by
  unfold isB hasB
  rw [List.take_length]
  cases q : l.any fun x => eqS x.name s with
  | true =>
    rw [List.any_eq_true] at q
    obtain ⟨x, hx, he⟩ := q
    have : idxN l s < l.length := by unfold idxN; rw [List.findIdx_lt_length]; exact ⟨x, hx, he⟩
    simp [this]
  | false =>
    rw [List.any_eq_false] at q
    have : idxN l s = l.length := by unfold idxN; rw [List.findIdx_eq_length]; intro x hx; simpa using q x hx
    simp [this]
end Go.Proofs.Ytgpophdlmibmgaa
