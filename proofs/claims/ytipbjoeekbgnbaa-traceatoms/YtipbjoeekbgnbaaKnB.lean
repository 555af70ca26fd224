/- Signals in memory; the contracts of kinds' all, Len, Find and what they call. Conditions: at most 1000000 signals. -/
import Derived.Test.YtipbjoeekbgnbaaKnA
import Derived.Test.YtipbjoeekbgnbaaBz4
import Derived.BigRegion
import Derived.BigQuiet
import Derived.Deep.QuietTactic
namespace Go.Proofs.Ytipbjoeekbgnbaa
open Go.RowKit
set_option linter.unusedVariables false
set_option maxRecDepth 100000

/-- A signal. -/
structure Sig where
  name : ByteArray
  unit : ByteArray
  lo : Int
  hi : Int
def sig0 : Sig := ⟨⟨#[]⟩, ⟨#[]⟩, 0, 0⟩
def eqS (a b : ByteArray) : Bool := a.toList == b.toList
theorem eqS_iff (a b : ByteArray) : eqS a b = true ↔ a = b := by
  unfold eqS
  rw [bytes_toList, bytes_toList]
  simp only [beq_iff_eq]
  exact ⟨fun h => ByteArray.ext (Array.ext' h), fun h => by rw [h]⟩
theorem eqS_refl (a : ByteArray) : eqS a a = true := (eqS_iff a a).2 rfl
/-- What the walk is told of a slice of signals. -/
def SigRow (w : World) (a : Option Addr) (l : List Sig) : Prop := ∀ i, i < l.length → ∃ b off, a = some ⟨b, off, none⟩ ∧ w.cell? ⟨b, off + i * 4, none⟩ = some (.string (l.getD i sig0).name) ∧ w.cell? ⟨b, off + i * 4 + 1, none⟩ = some (.string (l.getD i sig0).unit) ∧ w.cell? ⟨b, off + i * 4 + 2, none⟩ = some (.int .i64 (l.getD i sig0).lo) ∧ w.cell? ⟨b, off + i * 4 + 3, none⟩ = some (.int .i64 (l.getD i sig0).hi)
theorem SigRow.below {w w' : World} {a : Option Addr} {l : List Sig} (h : SigRow w a l) (k : Below w.heap.size w w') : SigRow w' a l := by
  intro i hi
  obtain ⟨b, off, e, h0, h1, h2, h3⟩ := h i hi
  have up : ∀ {o : Nat} {v : Value}, w.cell? ⟨b, o, none⟩ = some v → w'.cell? ⟨b, o, none⟩ = some v := fun {o v} hv => by
    rw [k.cell (p := ⟨b, o, none⟩) (World.block_lt_of_cell? w ⟨b, o, none⟩ hv)]; exact hv
  exact ⟨b, off, e, up h0, up h1, up h2, up h3⟩
/-- The first signal of a name: its number, or how many there are. -/
def idxN (l : List Sig) (s : ByteArray) : Nat := l.findIdx fun x => eqS x.name s
def idxI (l : List Sig) (s : ByteArray) : Int := if idxN l s < l.length then (idxN l s : Int) else -1
theorem idxN_le (l : List Sig) (s : ByteArray) : idxN l s ≤ l.length := List.findIdx_le_length
theorem idxN_at (l : List Sig) (s : ByteArray) (k : Nat) (hk : k < l.length) (h : eqS (l.getD k sig0).name s = true) (hb : ∀ j, j < k → eqS (l.getD j sig0).name s = false) : idxN l s = k := by
  unfold idxN
  rw [List.findIdx_eq hk]
  refine ⟨by simpa [List.getD_eq_getElem?_getD, hk] using h, fun j hj => ?_⟩
  have := hb j hj
  have hj' : j < l.length := by omega
  simpa [List.getD_eq_getElem?_getD, hj'] using this
theorem idxN_none (l : List Sig) (s : ByteArray) (hb : ∀ j, j < l.length → eqS (l.getD j sig0).name s = false) : idxN l s = l.length := by
  unfold idxN
  rw [List.findIdx_eq_length]
  intro x hx
  obtain ⟨j, hj, rfl⟩ := List.getElem_of_mem hx
  have := hb j hj
  simpa [List.getD_eq_getElem?_getD, hj] using this

end Go.Proofs.Ytipbjoeekbgnbaa
