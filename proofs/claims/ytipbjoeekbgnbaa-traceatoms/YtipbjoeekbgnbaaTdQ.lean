/- Names and rows that came in. Conditions: there. -/
import Derived.Test.YtipbjoeekbgnbaaCtI
import Derived.Test.YtipbjoeekbgnbaaTcZ
namespace Go.Proofs.Ytipbjoeekbgnbaa
open Go.RowKit Go.Deep Go.ChangeShapes Go.WideShapes Go.ChangeAt
set_option linter.unusedVariables false
set_option maxRecDepth 100000

theorem cells_strN : Try.prog.cellsOf 9 = 1 := by kernel_rfl
theorem cells_intN : Try.prog.cellsOf 3 = 1 := by kernel_rfl
theorem cells_rowN : Try.prog.cellsOf 26 = 1 := by kernel_rfl
def nmC (s : ByteArray) : List Value := [.string s]
def rwC (r : RwV) : List Value := [.slice r.a r.zs.length r.c]
def itC (z : Int) : List Value := [.int .i64 z]
instance : Inhabited ByteArray := ⟨⟨#[]⟩⟩
theorem name_in {H : Type} {enc : TypeId × Value → H} {W : World} (fuel : Nat) (cs : List Value) (x : DataW H × List MemPlace) (hl : cs.length = 1) (h : DataW.trod enc Try.prog W 0 (fun _ => true) true fuel 9 cs = some x) : ∃ s : ByteArray, cs = nmC s ∧ s.size ≤ 9223372036854775807 := by
  obtain ⟨s, e, _, w⟩ := DataW.trod_string Try.underlying9 h
  unfold maxLen at w
  exact ⟨s, e, by simpa using w⟩
theorem int_in {H : Type} {enc : TypeId × Value → H} {W : World} (fuel : Nat) (cs : List Value) (x : DataW H × List MemPlace) (hl : cs.length = 1) (h : DataW.trod enc Try.prog W 0 (fun _ => true) true fuel 3 cs = some x) : ∃ z : Int, cs = itC z ∧ B64 z := by
  obtain ⟨z, e, _, w⟩ := DataW.trod_int Try.underlying3 h
  exact ⟨z, e, b64_of w⟩
theorem row_in {H : Type} {enc : TypeId × Value → H} {W : World} (fuel : Nat) (cs : List Value) (x : DataW H × List MemPlace) (hl : cs.length = 1) (h : DataW.trod enc Try.prog W 0 (fun _ => true) true fuel 26 cs = some x) : ∃ r : RwV, cs = rwC r ∧ (IRow W r.a r.zs ∧ ∀ z ∈ r.zs, B64 z) := by
  have hsl : ∃ ta tl tc, cs = [.slice ta tl tc] := by
    rcases open_slice Try.underlying26 h with ⟨hcs, _⟩ | ⟨ad, l, cp, _, _, _, _, hcs, _⟩
    · exact ⟨_, _, _, hcs⟩
    · exact ⟨_, _, _, hcs⟩
  obtain ⟨ta, tl, tc, rfl⟩ := hsl
  obtain ⟨zs, k1, k2, k3, k4, k5, k6⟩ := open_rows itC _ (by omega) Try.underlying26 cells_intN int_in h
  subst k1
  refine ⟨⟨zs, ta, tc⟩, rfl, fun i hi => ?_, k3⟩
  obtain ⟨b, off, e, hj⟩ := k2 i hi
  refine ⟨b, off, e, ?_⟩
  have := hj 0 (by omega)
  simpa [itC] using this
theorem open_names {H : Type} {enc : TypeId × Value → H} {W : World} {fuel : Nat} {a : Option Addr} {len cap : Nat} {x : DataW H × List MemPlace} (h : DataW.trod enc Try.prog W 0 (fun _ => true) true fuel 25 [.slice a len cap] = some x) :
    ∃ ys : List ByteArray, ys.length = len ∧ NamRow W a ys ∧ (∀ s ∈ ys, s.size ≤ 9223372036854775807) ∧ len ≤ cap ∧ (cap ≤ 9223372036854775807 ∧ (a = none → cap = 0)) := by
  obtain ⟨l, h1, h2, h3, h4, h5, h6⟩ := open_rows nmC _ (by omega) Try.underlying25 cells_strN name_in h
  unfold maxLen at h5
  refine ⟨l, h1, fun i hi => ?_, h3, h4, h5, h6⟩
  obtain ⟨b, off, e, hj⟩ := h2 i hi
  refine ⟨b, off, e, ?_⟩
  have := hj 0 (by omega)
  rw [show (default : ByteArray) = ⟨#[]⟩ from rfl] at this
  simpa [nmC] using this
theorem open_rws {H : Type} {enc : TypeId × Value → H} {W : World} {fuel : Nat} {a : Option Addr} {len cap : Nat} {x : DataW H × List MemPlace} (h : DataW.trod enc Try.prog W 0 (fun _ => true) true fuel 30 [.slice a len cap] = some x) :
    ∃ ys : List RwV, ys.length = len ∧ RoRow W a ys ∧ (∀ r ∈ ys, ∀ z ∈ r.zs, B64 z) ∧ len ≤ cap ∧ (cap ≤ 9223372036854775807 ∧ (a = none → cap = 0)) := by
  obtain ⟨l, h1, h2, h3, h4, h5, h6⟩ := open_rows rwC _ (by omega) Try.underlying30 cells_rowN row_in h
  unfold maxLen at h5
  refine ⟨l, h1, fun i hi => ?_, fun r hr => (h3 r hr).2, h4, h5, h6⟩
  obtain ⟨b, off, e, hj⟩ := h2 i hi
  refine ⟨b, off, e, ?_, (h3 _ (getD_mem default hi)).1⟩
  have := hj 0 (by omega)
  simpa [rwC] using this
end Go.Proofs.Ytipbjoeekbgnbaa
