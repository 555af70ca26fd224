/- Frames that came in, in a slice. -/
import Derived.Test.YtglkoedmonenoaaWrT
import Derived.Deep.Slices
import Derived.ProofKit
namespace Go.Proofs.Ytglkoedmonenoaa
open Go.RowKit Go.Deep Go.ChangeShapes Go.WideShapes Go.ChangeAt
set_option linter.unusedVariables false
set_option maxRecDepth 100000

theorem open_frames {H : Type} {enc : TypeId × Value → H} {W : World} {fuel : Nat} {a : Option Addr} {len cap : Nat} {x : DataW H × List MemPlace} (h : DataW.trod enc Try.prog W 0 (fun _ => true) true fuel 37 [.slice a len cap] = some x) :
    ∃ xs : List FIn, xs.length = len ∧ FrRow W a xs := by
  rcases open_slice Try.underlying37 h with ⟨hcs, _⟩ | ⟨ad, l, c, m, n, D, Pl, hcs, _, hl, hm, hmm, _, hx⟩
  · simp at hcs
    obtain ⟨rfl, rfl, rfl⟩ := hcs
    exact ⟨[], rfl, fun i hi => by simp at hi, fun i hi => by simp at hi⟩
  · simp at hcs
    obtain ⟨rfl, rfl, rfl⟩ := hcs
    unfold maxLen at hm
    simp only [if_true] at hmm
    subst hmm
    have each : ∀ i, i < len → ∃ o : FIn, W.cell? (ad.add (i * 5)) = some (.int .i64 o.f.k) ∧ W.cell? (ad.add (i * 5 + 1)) = some (.int .i64 o.f.fr) ∧ W.cell? (ad.add (i * 5 + 2)) = some (.int .i64 o.f.t) ∧ W.cell? (ad.add (i * 5 + 3)) = some (.slice o.a o.f.zs.length o.cap) ∧ W.cell? (ad.add (i * 5 + 4)) = some (.string ⟨o.f.d.toArray⟩) ∧ IntRow W o.a o.f.zs ∧ All64 o.f.zs ∧ o.f.zs.length ≤ 9223372036854775807 := by
      intro i hi
      obtain ⟨cs', h1, h2⟩ := hx i (by omega)
      rw [cells_frame] at h1
      obtain ⟨_, hlen, hcell⟩ := World.cells?_some h1
      match cs', hlen with
      | [v0, v1, v2, v3, v4], _ =>
        obtain ⟨f, fa, fc, _, rfl, rfl, rfl, rfl, rfl, q1, q2, q3, _⟩ := frame_cells h2
        have e0 := hcell 0 (by omega)
        have e1 := hcell 1 (by omega)
        have e2 := hcell 2 (by omega)
        have e3 := hcell 3 (by omega)
        have e4 := hcell 4 (by omega)
        rw [add_add] at e0 e1 e2 e3 e4
        exact ⟨⟨f, fa, fc⟩, by simpa using e0, by simpa using e1, by simpa using e2, by simpa using e3, by simpa using e4, q1, q2, by have := q3.1; have := q3.2; unfold maxLen at this; simp only; omega⟩
    obtain ⟨q, hq⟩ := choose_lt each
    have hd : ∀ i, i < len → ((List.range len).map q).getD i default = q i := fun i hi => by simp [List.getD_eq_getElem?_getD, hi]
    refine ⟨(List.range len).map q, by simp, fun i hi => ?_, fun i hi => ?_⟩
    · have hi' : i < len := by simpa using hi
      rw [hd i hi']
      obtain ⟨c0, c1, c2, c3, c4, _⟩ := hq i hi'
      have hspot : ad.spot = none := by simpa [Addr.add] using World.cell?_spot (hq 0 (by omega)).1
      obtain ⟨b, off, sp⟩ := ad
      simp only at hspot
      subst hspot
      rw [addr_add] at c0 c1 c2 c3 c4
      exact ⟨b, off, rfl, c0, by rw [Nat.add_assoc]; exact c1, by rw [Nat.add_assoc]; exact c2, by rw [Nat.add_assoc]; exact c3, by rw [Nat.add_assoc]; exact c4⟩
    · have hi' : i < len := by simpa using hi
      rw [hd i hi']
      obtain ⟨_, _, _, _, _, q1, q2, q3⟩ := hq i hi'
      exact ⟨q1, q2, q3⟩
end Go.Proofs.Ytglkoedmonenoaa
