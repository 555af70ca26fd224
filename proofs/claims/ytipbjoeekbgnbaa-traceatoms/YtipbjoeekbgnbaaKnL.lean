/- The contracts of kinds' Check, Range. Conditions: names of at most 2^63 - 1 bytes, few terms and nodes; at most 1000000 signals, with spans that are not empty. -/
import Derived.Test.YtipbjoeekbgnbaaBz5
namespace Go.Proofs.Ytipbjoeekbgnbaa
open Go.RowKit
set_option linter.unusedVariables false
set_option maxRecDepth 100000

/-- r is l less a beginning of parts that fit. -/
def Fitted (l r : List Nd) : Prop := ∃ k, r = l.drop k ∧ ∀ j, j < k → j < l.length → fitsB (l.getD j nd0) = true
theorem Fitted.refl (l : List Nd) : Fitted l l := ⟨0, rfl, fun j hj => by omega⟩
theorem Fitted.trans {l r s : List Nd} (h : Fitted l r) (k : Fitted r s) : Fitted l s := by
  obtain ⟨i, rfl, hi⟩ := h
  obtain ⟨j, rfl, hj⟩ := k
  refine ⟨i + j, by rw [List.drop_drop], fun q hq hl => ?_⟩
  by_cases e : q < i
  · exact hi q e hl
  · have := hj (q - i) (by omega) (by rw [List.length_drop]; omega)
    rw [List.getD_eq_getElem?_getD, List.getElem?_drop, show i + (q - i) = q by omega, ← List.getD_eq_getElem?_getD] at this
    exact this
theorem iterO_fitted {f : List Nd → Option (List Nd)} (hf : ∀ l r, f l = some r → Fitted l r) (n : Nat) : ∀ (l r : List Nd), iterO f n l = some r → Fitted l r := by
  induction n with
  | zero => intro l r h; cases h; exact Fitted.refl l
  | succ n ih =>
    intro l r h
    simp only [iterO] at h
    cases hq : f l with
    | none => rw [hq] at h; cases h
    | some s => rw [hq] at h; exact (hf l s hq).trans (ih s r h)
theorem restD_fitted (d : Nat) : ∀ (l r : List Nd), restD d l = some r → Fitted l r := by
  induction d with
  | zero => intro l r h; cases h
  | succ d ih =>
    intro l r h
    cases l with
    | nil => cases h
    | cons x l =>
      simp only [restD] at h
      split at h
      · rename_i hx
        refine Fitted.trans ⟨1, rfl, fun j hj _ => ?_⟩ (iterO_fitted ih _ l r h)
        obtain rfl : j = 0 := by omega
        exact hx
      · cases h
theorem valid_fits {l : List Nd} (h : validB l = true) (j : Nat) (hj : j < l.length) : fitsB (l.getD j nd0) = true := by
  unfold validB at h
  simp only [Bool.and_eq_true] at h
  have h2 := h.2
  split at h2
  · rename_i r hr
    obtain ⟨k, rfl, hk⟩ := restD_fitted 24 l r hr
    simp only [beq_iff_eq, List.length_drop] at h2
    exact hk j (by omega) hj
  · cases h2
theorem fits_atom {x : Nd} (h : fitsB x = true) (h2 : x.op = 2) : 0 < x.terms.length ∧ x.terms.length ≤ 16 := by
  unfold fitsB at h
  simp only [Bool.and_eq_true] at h
  have h3 := h.2
  unfold fitsAB at h3
  rw [if_pos h2] at h3
  simp only [Bool.and_eq_true, decide_eq_true_eq] at h3
  omega
theorem valid_head {l : List Nd} (h : validB l = true) : 0 < l.length := by
  cases l with
  | nil => simp [validB, restD] at h
  | cons x l => simp
/-- A sheet at q whose names lie at p. -/
def ShAt (W : World) (q p : Nat) (l : List Sig) : Prop := W.cell? ⟨q, 0, none⟩ = some (.pointer (some ⟨p, 0, none⟩)) ∧ NmAt W p l
theorem ShAt.below {W W' : World} {q p : Nat} {l : List Sig} (h : ShAt W q p l) (k : Below W.heap.size W W') : ShAt W' q p l := ⟨cell_up k h.1, h.2.below k⟩
/-- The first error of some parts. -/
def partsE (l : List Sig) : List Nd → Int
  | [] => 0
  | x :: r => if partE l x = 0 then partsE l r else partE l x
theorem partsE_go (l : List Sig) (n : List Nd) (k : Nat) (hk : k < n.length) (h : partE l (n.getD k nd0) = 0) (he : partsE l n = partsE l (n.drop k)) : partsE l n = partsE l (n.drop (k + 1)) := by
  rw [he, List.drop_eq_getElem_cons hk]
  have e : n.getD k nd0 = n[k] := by simp [List.getD_eq_getElem?_getD, hk]
  rw [e] at h
  simp only [partsE]
  rw [if_pos h]
theorem partsE_bad (l : List Sig) (n : List Nd) (k : Nat) (hk : k < n.length) (h : partE l (n.getD k nd0) ≠ 0) (he : partsE l n = partsE l (n.drop k)) : partsE l n = partE l (n.getD k nd0) := by
  rw [he, List.drop_eq_getElem_cons hk]
  have e : n.getD k nd0 = n[k] := by simp [List.getD_eq_getElem?_getD, hk]
  rw [e] at h ⊢
  simp only [partsE]
  rw [if_neg h]
def checkE (l : List Sig) (n : List Nd) : Int := if validB n = false then 31 else partsE l n
end Go.Proofs.Ytipbjoeekbgnbaa
