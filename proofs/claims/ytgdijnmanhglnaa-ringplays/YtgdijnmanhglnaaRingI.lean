/- A slice of ints that came in. -/
import Derived.Test.YtgdijnmanhglnaaRingA
import Derived.OpenShut
namespace Go.Proofs.Ytgdijnmanhglnaa
open Go.RowKit
set_option linter.unusedVariables false
set_option maxRecDepth 100000

/-- What the walk is told of a slice of ints that came in. -/
def IsInts (w : World) (a : Option Addr) (len cap : Nat) (zs : List Int) : Prop :=
  (a = none ∧ len = 0 ∧ cap = 0 ∧ zs = []) ∨
  ∃ x, a = some x ∧ len ≤ cap ∧ cap ≤ maxLen ∧ zs.length = cap ∧ (∀ i, i < zs.length → w.cell? (x.add i) = some (.int .i64 (zs.getD i 0))) ∧ ∀ n ∈ zs, (Lit.int .i64 n).wf = true
theorem addr_add (b off i : Nat) : (⟨b, off, none⟩ : Addr).add i = ⟨b, off + i, none⟩ := by
  unfold Addr.add; split
  · rename_i h; subst h; rfl
  · rfl
theorem IsInts.row {w : World} {a : Option Addr} {len cap : Nat} {zs : List Int} (h : IsInts w a len cap zs) : IntRow w a (zs.take len) ∧ (zs.take len).length = len ∧ (∀ z ∈ zs.take len, B64 z) ∧ len ≤ 9223372036854775807 := by
  rcases h with ⟨rfl, rfl, rfl, rfl⟩ | ⟨x, rfl, hl, hm, hz, hc, hw⟩
  · exact ⟨fun i hi => by simp at hi, rfl, fun x hx => by simp at hx, by omega⟩
  · have hlen : (zs.take len).length = len := by rw [List.length_take]; omega
    unfold maxLen at hm
    refine ⟨fun i hi => ?_, hlen, fun z hz => bounds_int (hw z (List.mem_of_mem_take hz)), by omega⟩
    have hi' : i < zs.length := by omega
    have h1 := hc i hi'
    have hspot : x.spot = none := by simpa [Addr.add] using World.cell?_spot (hc 0 (by omega))
    obtain ⟨b, off, sp⟩ := x
    simp only at hspot
    subst hspot
    refine ⟨b, off, rfl, ?_⟩
    rw [addr_add] at h1
    have : (zs.take len).getD i 0 = zs.getD i 0 := by
      rw [List.getD_eq_getElem?_getD, List.getD_eq_getElem?_getD, List.getElem?_take_of_lt (by omega)]
    rw [this]; exact h1
theorem b64_getD {l : List Int} (h : ∀ z ∈ l, B64 z) (k : Nat) : B64 (l.getD k 0) := by
  rw [List.getD_eq_getElem?_getD]
  by_cases hk : k < l.length
  · rw [List.getElem?_eq_getElem hk]; exact h _ (List.getElem_mem hk)
  · rw [List.getElem?_eq_none (by omega)]; exact ⟨by simp, by simp⟩
theorem IntRow.below {w w' : World} {a : Option Addr} {zs : List Int} (h : IntRow w a zs) (k : Below w.heap.size w w') : IntRow w' a zs :=
  h.mod (S := []) (Mod.of_below k) (fun x _ => by simp)
/-- A slice that came in lies in no block that was made since. -/
theorem IntRow.off {w : World} {a : Option Addr} {zs : List Int} (h : IntRow w a zs) (h0 : 0 < zs.length) (S : List Nat) (hS : ∀ i ∈ S, w.heap.size ≤ i) : Off a S := by
  intro x hx hm
  obtain ⟨b, off, e, hc⟩ := h 0 h0
  rw [e] at hx; cases hx
  have := World.block_lt_of_cell? w _ hc
  have := hS _ hm
  simp only at *
  omega
theorem off_at {w : World} {b off : Nat} (h : b < w.heap.size) (S : List Nat) (hS : ∀ i ∈ S, w.heap.size ≤ i) : Off (some ⟨b, off, none⟩) S := by
  intro x hx hm
  cases hx
  have := hS _ hm
  simp only at *
  omega
end Go.Proofs.Ytgdijnmanhglnaa
