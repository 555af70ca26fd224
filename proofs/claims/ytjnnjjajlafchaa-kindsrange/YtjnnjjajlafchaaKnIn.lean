/- A slice of signals that came in. -/
import Derived.Test.YtjnnjjajlafchaaBz5
import Derived.Test.YtjnnjjajlafchaaBz3
namespace Go.Proofs.Ytjnnjjajlafchaa
open Go.RowKit Go.Deep Go.ChangeShapes Go.WideShapes Go.ChangeAt
set_option linter.unusedVariables false
set_option maxRecDepth 100000

instance : Inhabited Sig := ⟨sig0⟩
theorem cells_signal : Try.prog.cellsOf 27 = 4 := by kernel_rfl
theorem cells_span1 : Try.prog.cellsOf 25 = 2 := by kernel_rfl
theorem cells_int1 : Try.prog.cellsOf 3 = 1 := by kernel_rfl
theorem cells_string1 : Try.prog.cellsOf 9 = 1 := by kernel_rfl
theorem sig_in {H : Type} {enc : TypeId × Value → H} {W : World} (fuel : Nat) (cs : List Value) (x : DataW H × List MemPlace) (hl : cs.length = 4) (h : DataW.trod enc Try.prog W 0 (fun _ => true) true fuel 27 cs = some x) :
    ∃ y : Sig, cs = sigC y ∧ (y.name.size ≤ 9223372036854775807 ∧ y.unit.size ≤ 9223372036854775807 ∧ B64 y.lo ∧ B64 y.hi) := by
  match cs, hl with
  | [c0, c1, c2, c3], _ =>
    obtain ⟨y0, y1, y2, n, hx, _, h0, h1, h2⟩ := trod_struct3 Try.underlying27 h
    simp [cells_string1, cells_span1] at h0 h1 h2
    obtain ⟨z0, z1, m, _, _, g0, g1⟩ := trod_struct2 Try.underlying25 h2
    simp [cells_int1] at g0 g1
    obtain ⟨s0, e0, _, w0⟩ := DataW.trod_string Try.underlying9 h0
    obtain ⟨s1, e1, _, w1⟩ := DataW.trod_string Try.underlying9 h1
    obtain ⟨lo, e2, _, w2⟩ := DataW.trod_int Try.underlying3 g0
    obtain ⟨hi, e3, _, w3⟩ := DataW.trod_int Try.underlying3 g1
    simp at e0 e1 e2 e3
    subst e0 e1 e2 e3
    have b2 : -9223372036854775808 ≤ lo ∧ lo ≤ 9223372036854775807 := by simpa [Lit.wf, IntKind.min, IntKind.max, IntKind.bits, IntKind.signed] using w2
    have b3 : -9223372036854775808 ≤ hi ∧ hi ≤ 9223372036854775807 := by simpa [Lit.wf, IntKind.min, IntKind.max, IntKind.bits, IntKind.signed] using w3
    unfold maxLen at w0 w1
    exact ⟨⟨s0, s1, lo, hi⟩, rfl, by simpa using w0, by simpa using w1, b2, b3⟩
theorem open_sigs {H : Type} {enc : TypeId × Value → H} {W : World} {fuel : Nat} {a : Option Addr} {len cap : Nat} {x : DataW H × List MemPlace} (h : DataW.trod enc Try.prog W 0 (fun _ => true) true fuel 22 [.slice a len cap] = some x) :
    ∃ l : List Sig, l.length = len ∧ SigRow W a l ∧ (∀ y ∈ l, y.name.size ≤ 9223372036854775807 ∧ y.unit.size ≤ 9223372036854775807 ∧ B64 y.lo ∧ B64 y.hi) ∧ len ≤ cap ∧ (len ≤ 9223372036854775807 ∧ (a = none → cap = 0)) := by
  obtain ⟨l, h1, h2, h3, h4, h5, h6⟩ := open_rows sigC _ (by omega) Try.underlying22 cells_signal sig_in h
  unfold maxLen at h5
  refine ⟨l, h1, fun i hi => ?_, h3, h4, by omega, h6⟩
  obtain ⟨b, off, e, hj⟩ := h2 i hi
  refine ⟨b, off, e, ?_, ?_, ?_, ?_⟩
  · have := hj 0 (by omega); rw [show (default : Sig) = sig0 from rfl] at this; simpa [sigC] using this
  · have := hj 1 (by omega); rw [show (default : Sig) = sig0 from rfl] at this; simpa [sigC] using this
  · have := hj 2 (by omega); rw [show (default : Sig) = sig0 from rfl] at this; simpa [sigC] using this
  · have := hj 3 (by omega); rw [show (default : Sig) = sig0 from rfl] at this; simpa [sigC] using this
end Go.Proofs.Ytjnnjjajlafchaa
