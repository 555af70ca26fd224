/- A region that draws its order, by an invariant: whatever may come up next keeps it. Conditions: each operation waits for earlier ones alone. -/
import Derived.Test.YthnhlgiibiephabKept2
namespace Go.Proofs.Ythnhlgiibiephab
open Go.RowKit
set_option linter.unusedVariables false
set_option maxRecDepth 100000

/-- A slot whose operation has come up or not. -/
def sel (b : Bool) (v : Value) : Value := if b = true then v else undef
theorem sel_true (v : Value) : sel true v = v := rfl
theorem sel_false (v : Value) : sel false v = undef := rfl
section
variable {P : Program} {ops : Array Oper} {Q : Exit → Act → World → Prop} {md : Region.Mode} {S : World → Prop}
theorem ready_dep {l : Array Bool} {i : Nat} {o : Oper} (hi : i ∈ Region.ready md ops l) (ho : ops[i]? = some o) :
    l.getD i true = false ∧ ∀ j ∈ (o.after.toList.filter fun e => Region.binds md e).map (·.on), l.getD j false = true := by
  unfold Region.ready at hi
  rw [List.mem_filter] at hi
  have h := hi.2
  rw [ho] at h
  simp only [Option.map_some, Option.getD_some, Bool.and_eq_true, Bool.not_eq_true'] at h
  refine ⟨h.1, fun j hj => ?_⟩
  rw [List.mem_map] at hj
  obtain ⟨e, he, rfl⟩ := hj
  rw [List.mem_filter] at he
  have h2 := h.2
  rw [Array.all_eq_true_iff_forall_mem] at h2
  have := h2 e (by simpa using he.1)
  simpa [he.2] using this
theorem ready_lt {l : Array Bool} {i : Nat} (hi : i ∈ Region.ready md ops l) : i < ops.size := by
  unfold Region.ready at hi
  rw [List.mem_filter, List.mem_range] at hi
  exact hi.1
/-- Each operation waits for earlier ones alone. -/
def Back (ops : Array Oper) : Bool := (List.range ops.size).all fun i => ((ops[i]?).map fun o => o.after.toList.all fun e => decide (e.on < i)).getD true
theorem ready_nil {l : Array Bool} (hb : Back ops = true) (h : Region.ready md ops l = []) (hs : l.size = ops.size) : ∀ i, i < ops.size → l.getD i true = true := by
  intro i
  induction i using Nat.strongRecOn with
  | ind i ih =>
    intro hi
    cases hl : l.getD i true with
    | true => rfl
    | false =>
      exfalso
      have hmem : i ∈ Region.ready md ops l := by
        unfold Region.ready
        rw [List.mem_filter, List.mem_range]
        refine ⟨hi, ?_⟩
        obtain ⟨o, ho⟩ : ∃ o, ops[i]? = some o := ⟨ops[i], by simp [hi]⟩
        rw [ho, hl]
        simp only [Option.map_some, Option.getD_some, Bool.not_false, Bool.true_and]
        rw [Array.all_eq_true_iff_forall_mem]
        intro e he
        have hlt : e.on < i := by
          unfold Back at hb
          rw [List.all_eq_true] at hb
          have h1 := hb i (List.mem_range.2 hi)
          rw [ho] at h1
          simp only [Option.map_some, Option.getD_some] at h1
          rw [List.all_eq_true] at h1
          have := h1 e (by simpa using he)
          simpa using this
        have h2 := ih e.on hlt (by omega)
        have h3 : l.getD e.on false = true := by
          rw [Array.getD_eq_getD_getElem?] at h2 ⊢
          have : e.on < l.size := by omega
          rw [Array.getElem?_eq_getElem this] at h2 ⊢
          simpa using h2
        simp [h3]
      rw [h] at hmem
      cases hmem
theorem count_set (l : List Bool) (i : Nat) (h : l.getD i true = false) : (l.set i true).count false + 1 = l.count false := by
  induction l generalizing i with
  | nil => simp at h
  | cons b l ih =>
    cases i with
    | zero =>
      have : b = false := by simpa using h
      subst this; simp
    | succ i =>
      have := ih i (by simpa using h)
      rw [List.set_cons_succ]
      cases b <;> simp <;> omega
theorem inv_any (Inv : Array Bool → Act → World → Prop) (hb : Back ops = true) (hS : ∀ l a w, Inv l a w → S w)
    (step : ∀ l a w, Inv l a w → ∀ i o, i ∈ Region.ready md ops l → ops[i]? = some o → ∀ K' : Act → World → Prop, Hid (∀ a w, Inv (l.setIfInBounds i true) a w → K' a w) → if Region.wanted o (yielded ops a.tmps) = true then Oper.wp P o a w K' Q else K' (a.put o.dst undef) w)
    (fin : ∀ l a w, Inv l a w → (∀ i, i < ops.size → l.getD i true = true) → Q .normal a w) :
    ∀ (fuel : Nat) (l : Array Bool) (a : Act) (w : World), l.size = ops.size → l.toList.count false ≤ fuel → Inv l a w → wpAnyH P md ops Q S fuel l a w := by
  intro fuel
  induction fuel with
  | zero =>
    intro l a w hs hc hi
    have hr : Region.ready md ops l = [] := by
      unfold Region.ready
      rw [List.filter_eq_nil_iff]
      intro i hi' h
      simp only [Bool.and_eq_true, Bool.not_eq_true'] at h
      have := count_set l.toList i (by have := h.1; rw [Array.getD_eq_getD_getElem?] at this; rw [List.getD_eq_getElem?_getD]; simpa using this)
      omega
    exact ⟨hr, fin l a w hi (ready_nil hb hr hs)⟩
  | succ fuel ih =>
    intro l a w hs hc hi
    refine ⟨fun hr => fin l a w hi (ready_nil hb hr hs), fun i hri => ?_⟩
    obtain ⟨o, ho⟩ : ∃ o, ops[i]? = some o := ⟨ops[i]'(ready_lt hri), by simp [ready_lt hri]⟩
    refine wpOp_step ho (fun K' hK => ?_)
    refine step l a w hi i o hri ho K' (fun a' w' h => hK a' w' ⟨hS _ _ _ h, ih _ _ _ (by simpa using hs) ?_ h⟩)
    have := count_set l.toList i (by have := (ready_dep hri ho).1; rw [Array.getD_eq_getD_getElem?] at this; rw [List.getD_eq_getElem?_getD]; simpa using this)
    simp only [Array.toList_setIfInBounds]
    omega
end
end Go.Proofs.Ythnhlgiibiephab
