/- TraceAtoms: the two sums are one; a node by value that came in. Conditions: there. -/
import Derived.Test.YtipbjoeekbgnbaaTeE
import Derived.Test.YtipbjoeekbgnbaaTdQ
import Derived.Test.YtipbjoeekbgnbaaTdL
import Derived.Test.YtipbjoeekbgnbaaBz10
import Derived.Test.YtipbjoeekbgnbaaKqA
namespace Go.Proofs.Ytipbjoeekbgnbaa
open Go.RowKit Go.Deep Go.ChangeShapes Go.WideShapes Go.ChangeAt
set_option linter.unusedVariables false
set_option maxRecDepth 100000

theorem lookN_idx (s : ByteArray) (ns : List ByteArray) (vs : List Int) : lookN s ns vs = if idxS ns s < ns.length then vs.getD (idxS ns s) 0 else 0 := by
  induction ns generalizing vs with
  | nil => simp [lookN]
  | cons n ns ih =>
    unfold lookN idxS
    rw [List.findIdx_cons]
    cases h : eqS n s with
    | true => cases vs <;> simp
    | false =>
      have := ih vs.tail
      unfold idxS at this
      simp only [cond_false, Bool.false_eq_true, if_false, List.length_cons, Nat.add_lt_add_iff_right]
      rw [this]
      cases vs <;> simp
theorem sum_same (ns : List ByteArray) (vs : List Int) (ts : List Tm) : ((ts.filterMap (pickT ns)).filterMap (pickW vs)).sum = sumA (fun s => lookN s ns vs) ts := by
  induction ts with
  | nil => rfl
  | cons t ts ih =>
    have e : sumA (fun s => lookN s ns vs) (t :: ts) = t.times * lookN t.name ns vs + sumA (fun s => lookN s ns vs) ts := by simp [sumA]
    rw [e, ← ih, lookN_idx]
    by_cases h : idxS ns t.name < ns.length
    · have p : pickT ns t = some ((idxS ns t.name : Int), t.times) := by simp [pickT, h]
      by_cases h2 : idxS ns t.name < vs.length
      · have q : pickW vs ((idxS ns t.name : Int), t.times) = some (t.times * vs.getD (idxS ns t.name) 0) := by simp [pickW, h2]
        simp [p, q, h]
      · have q : pickW vs ((idxS ns t.name : Int), t.times) = none := by simp [pickW]; omega
        have z : vs.getD (idxS ns t.name) 0 = 0 := by rw [List.getD_eq_getElem?_getD, List.getElem?_eq_none (by omega)]; rfl
        rw [z]
        simp [p, q, h]
    · have p : pickT ns t = none := by simp [pickT, h]
      simp [p, h]
theorem judge_same (ns : List ByteArray) (vs : List Int) (ts : List Tm) : judgeSum vs (wtsTo ns ts ts.length) = sumA (fun s => lookN s ns vs) ts := by
  unfold judgeSum wtsTo
  rw [List.take_length]
  exact sum_same ns vs ts
theorem lookN_b64 (s : ByteArray) (ns : List ByteArray) (vs : List Int) (h : ∀ z ∈ vs, B64 z) : B64 (lookN s ns vs) := by
  rw [lookN_idx]
  split
  · by_cases h2 : idxS ns s < vs.length
    · exact h _ (getD_mem 0 h2)
    · rw [List.getD_eq_getElem?_getD, List.getElem?_eq_none (by omega)]; unfold B64; simp
  · unfold B64; simp
theorem cells_nodeT : Try.prog.cellsOf 24 = 6 := by kernel_rfl
theorem open_node {H : Type} {enc : TypeId × Value → H} {W : World} {r : Reach} {b0 : Nat} {v : Value} {d : DataW H} {p : List MemPlace} (hv : Value.okWide Try.prog W r b0 24 v) (h : DataW.Trod enc Try.prog W 0 (fun _ => true) true 24 v d p) :
    ∃ y : NdV, v = .agg #[.int .i64 y.x.op, .int .i64 y.x.n, .int .i64 y.x.fr, .int .i64 y.x.to, .slice y.ta y.x.terms.length y.tc, .int .i64 y.x.num] ∧ NdKnown W y := by
  obtain ⟨cs, rfl, hsz⟩ := okWide_struct Try.underlying24 hv
  obtain ⟨fuel, hf⟩ := h
  have h' : DataW.trod enc Try.prog W 0 (fun _ => true) true fuel 24 cs.toList = some (d, p) := by simpa [Value.cells] using hf
  obtain ⟨y, e, k⟩ := node_in fuel cs.toList _ (by simpa using hsz.trans cells_nodeT) h'
  refine ⟨y, ?_, k⟩
  congr 1
  exact Array.toList_inj.1 (e.trans (by rfl))
end Go.Proofs.Ytipbjoeekbgnbaa
