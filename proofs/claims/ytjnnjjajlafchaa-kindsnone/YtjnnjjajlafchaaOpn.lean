/- Slices of structs that came in: each element's cells, and what is told of it. -/
import Derived.Test.YtjnnjjajlafchaaOwn
import Derived.Deep.Slices
import Derived.Deep.Strs
import Derived.ProofKit
namespace Go.Proofs.Ytjnnjjajlafchaa
open Go.RowKit Go.Deep Go.ChangeShapes Go.WideShapes Go.ChangeAt
set_option linter.unusedVariables false
set_option maxRecDepth 100000

/-- Elements of c cells each in memory. -/
def RowOf {X : Type} [Inhabited X] (C : X → List Value) (c : Nat) (w : World) (a : Option Addr) (l : List X) : Prop := ∀ i, i < l.length → ∃ b off, a = some ⟨b, off, none⟩ ∧ ∀ j, j < c → w.cell? ⟨b, off + i * c + j, none⟩ = (C (l.getD i default))[j]?
theorem addr_addO (b off i : Nat) : (⟨b, off, none⟩ : Addr).add i = ⟨b, off + i, none⟩ := by
  unfold Addr.add; split
  · rename_i e; rw [e]; rfl
  · rfl
/-- A slice whose elements are of c cells. -/
theorem open_rows {H : Type} {enc : TypeId × Value → H} {W : World} {t e : TypeId} {c : Nat} {X : Type} [Inhabited X] (C : X → List Value) (Q : X → Prop) (hc0 : 0 < c) (ht : Try.prog.underlying t = some (.slice e)) (hce : Try.prog.cellsOf e = c)
    (each : ∀ (fuel : Nat) (cs : List Value) (x : DataW H × List MemPlace), cs.length = c → DataW.trod enc Try.prog W 0 (fun _ => true) true fuel e cs = some x → ∃ y : X, cs = C y ∧ Q y)
    {fuel : Nat} {a : Option Addr} {len cap : Nat} {x : DataW H × List MemPlace} (h : DataW.trod enc Try.prog W 0 (fun _ => true) true fuel t [.slice a len cap] = some x) :
    ∃ l : List X, l.length = len ∧ RowOf C c W a l ∧ (∀ y ∈ l, Q y) ∧ len ≤ cap ∧ cap ≤ maxLen ∧ (a = none → cap = 0) := by
  rcases open_slice ht h with ⟨hcs, _⟩ | ⟨ad, l, cp, m, n, D, Pl, hcs, _, hl, hm, hmm, _, hx⟩
  · simp at hcs
    obtain ⟨rfl, rfl, rfl⟩ := hcs
    exact ⟨[], rfl, fun i hi => by simp at hi, fun y hy => by simp at hy, Nat.le_refl _, by unfold maxLen; omega, fun _ => rfl⟩
  · simp at hcs
    obtain ⟨rfl, rfl, rfl⟩ := hcs
    simp only [if_true] at hmm
    subst hmm
    rw [hce] at hx
    have key : ∀ i, i < len → ∃ y : X, (∀ j, j < c → W.cell? (ad.add (i * c + j)) = (C y)[j]?) ∧ (C y).length = c ∧ Q y := by
      intro i hi
      obtain ⟨cs', h1, h2⟩ := hx i (by omega)
      obtain ⟨_, hlen, hcell⟩ := World.cells?_some h1
      obtain ⟨y, rfl, hq⟩ := each _ _ _ hlen h2
      refine ⟨y, fun j hj => ?_, hlen, hq⟩
      have := hcell j hj
      rw [add_add] at this
      rw [this]
    obtain ⟨q, hq⟩ := choose_lt key
    refine ⟨(List.range len).map q, by simp, ?_, ?_, hl, hm, fun e => by cases e⟩
    · intro i hi
      have hi' : i < len := by simpa using hi
      have hd : ((List.range len).map q).getD i default = q i := by simp [List.getD_eq_getElem?_getD, hi']
      rw [hd]
      obtain ⟨c1, c2, c3⟩ := hq i hi'
      obtain ⟨k1, k2, _⟩ := hq 0 (by omega)
      have h0 := k1 0 hc0
      rw [List.getElem?_eq_getElem (by omega)] at h0
      have hspot : ad.spot = none := by simpa [Addr.add] using World.cell?_spot h0
      obtain ⟨b, off, sp⟩ := ad
      simp only at hspot
      subst hspot
      refine ⟨b, off, rfl, fun j hj => ?_⟩
      have := c1 j hj
      rw [addr_addO] at this
      rw [Nat.add_assoc]; exact this
    · intro y hy
      simp only [List.mem_map, List.mem_range] at hy
      obtain ⟨i, hi, rfl⟩ := hy
      exact (hq i hi).2.2
end Go.Proofs.Ytjnnjjajlafchaa
