/- Nodes that came in, with where their terms lie. Conditions: there. -/
import Derived.Test.YtipbjoeekbgnbaaBz6
namespace Go.Proofs.Ytipbjoeekbgnbaa
open Go.RowKit Go.Deep Go.ChangeShapes Go.WideShapes Go.ChangeAt
set_option linter.unusedVariables false
set_option maxRecDepth 100000

theorem nodeRow_of {W : World} {a : Option Addr} {ys : List NdV} (h : RowOf ndC 6 W a ys) (hk : ∀ y ∈ ys, NdKnown W y) : NodeRow W a (ys.map (·.x)) := by
  intro i hi
  have hi' : i < ys.length := by simpa using hi
  obtain ⟨b, off, e, hj⟩ := h i hi'
  have hd : (ys.map (·.x)).getD i nd0 = (ys.getD i default).x := by simp [List.getD_eq_getElem?_getD, hi']
  rw [hd]
  have hk := hk (ys.getD i default) (by rw [List.getD_eq_getElem?_getD, List.getElem?_eq_getElem hi']; exact List.getElem_mem hi')
  refine ⟨b, off, e, ?_, ?_, ?_, ?_, ⟨(ys.getD i default).ta, (ys.getD i default).tc, ?_, hk.1⟩, ?_⟩
  · have := hj 0 (by omega); simpa [ndC] using this
  · have := hj 1 (by omega); simpa [ndC] using this
  · have := hj 2 (by omega); simpa [ndC] using this
  · have := hj 3 (by omega); simpa [ndC] using this
  · have := hj 4 (by omega); simpa [ndC] using this
  · have := hj 5 (by omega); simpa [ndC] using this
/-- A slice of nodes that came in, with where their terms lie. -/
theorem open_nodesV {H : Type} {enc : TypeId × Value → H} {W : World} {fuel : Nat} {a : Option Addr} {len cap : Nat} {x : DataW H × List MemPlace} (h : DataW.trod enc Try.prog W 0 (fun _ => true) true fuel 28 [.slice a len cap] = some x) :
    ∃ ys : List NdV, ys.length = len ∧ RowOf ndC 6 W a ys ∧ (∀ y ∈ ys, NdKnown W y) ∧ len ≤ cap ∧ (len ≤ 9223372036854775807 ∧ (a = none → cap = 0)) := by
  obtain ⟨l, h1, h2, h3, h4, h5, h6⟩ := open_rows ndC _ (by omega) Try.underlying28 cells_node node_in h
  unfold maxLen at h5
  exact ⟨l, h1, h2, h3, h4, by omega, h6⟩
theorem known_fit {W : World} {ys : List NdV} (h : ∀ y ∈ ys, NdKnown W y) : NodesFit (ys.map (·.x)) := by
  intro z hz
  simp only [List.mem_map] at hz
  obtain ⟨y, hy, rfl⟩ := hz
  obtain ⟨_, k2, _, ⟨k4, k5, _⟩, _, k6, _⟩ := h y hy
  exact ⟨k2, by omega, k6.2⟩
/-- Nodes that came in, if they are few. -/
theorem known_at {W : World} {a : Option Addr} {cap : Nat} {ys : List NdV} (hr : RowOf ndC 6 W a ys) (h : ∀ y ∈ ys, NdKnown W y) (hc : ys.length ≤ cap) (hn : a = none → cap = 0) (hf : ys.length ≤ 1099511627776) (ht : ∀ y ∈ ys, y.x.terms.length ≤ 1099511627776) : NdsAt W a cap ys :=
  ⟨hr, hn, hc, hf, fun y hy => by
    obtain ⟨t1, _, _, ⟨t4, _, t6⟩, _⟩ := h y hy
    exact ⟨t1, t6, t4, ht y hy⟩⟩
end Go.Proofs.Ytipbjoeekbgnbaa
