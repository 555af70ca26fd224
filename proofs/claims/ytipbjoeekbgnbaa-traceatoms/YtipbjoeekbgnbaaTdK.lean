/- The first call whose answer the document fixes, of chapter 9: it answers true. Conditions: none. -/
import Derived.Test.YtipbjoeekbgnbaaBz9
namespace Go.Proofs.Ytipbjoeekbgnbaa
open Go.RowKit
set_option linter.unusedVariables false
set_option maxRecDepth 100000

def bsA : ByteArray := ⟨#[97]⟩
def xOnce : Nd := ⟨8, 1, 1, 2, [], 0⟩
def xAt : Nd := ⟨2, 0, 0, 0, [⟨bsA, 4294967296⟩], 4294967296⟩
def yOnce : NdV := ⟨xOnce, none, 0⟩
def yAt (t : Nat) : NdV := ⟨xAt, some ⟨t, 0, none⟩, 1⟩
def xPrev : Nd := ⟨7, 1, 0, 0, [], 0⟩
def yPrev : NdV := ⟨xPrev, none, 0⟩
def yTrue : NdV := ⟨⟨0, 0, 0, 0, [], 0⟩, none, 0⟩
def row9 (r : Nat) (z : Int) : RwV := ⟨[z], some ⟨r, 0, none⟩, 1⟩
def rows9 (r : Nat → Nat) : List RwV := [row9 (r 0) 0, row9 (r 1) 4294967296, row9 (r 2) 8589934592, row9 (r 3) 12884901888]
def r4 (a b c d : Nat) : Nat → Nat
  | 0 => a
  | 1 => b
  | 2 => c
  | _ => d
theorem fault_once (t : Nat) : faultE ([yOnce, yAt t].map (·.x)) = 0 := by
  show faultE [xOnce, xAt] = 0
  kernel_rfl
theorem fault_prev : faultE ([yPrev, yTrue].map (·.x)) = 0 := by kernel_rfl
theorem idx_a : idxS [bsA] bsA = 0 := by simp [idxS, List.findIdx_cons, eqS_refl]
theorem wts_a : wtsTo [bsA] xAt.terms xAt.terms.length = [(0, 4294967296)] := by
  show List.filterMap (pickT [bsA]) [⟨bsA, 4294967296⟩] = _
  simp [pickT, idx_a]
theorem at_a (r : Nat → Nat) (i : Nat) (hi : i < 4) : atO [bsA] (rows9 r) xAt i = false ∧ atH [bsA] (rows9 r) xAt i = decide (i ≤ 1) := by
  have : i = 0 ∨ i = 1 ∨ i = 2 ∨ i = 3 := by omega
  unfold atO atH atOver atHolds
  rw [wts_a]
  rcases this with rfl | rfl | rfl | rfl
  · show overB (judgeSum [0] [(0, 4294967296)]) = false ∧ holdsB (judgeSum [0] [(0, 4294967296)]) 4294967296 = decide (0 ≤ 1); decide
  · show overB (judgeSum [4294967296] [(0, 4294967296)]) = false ∧ holdsB (judgeSum [4294967296] [(0, 4294967296)]) 4294967296 = decide (1 ≤ 1); decide
  · show overB (judgeSum [8589934592] [(0, 4294967296)]) = false ∧ holdsB (judgeSum [8589934592] [(0, 4294967296)]) 4294967296 = decide (2 ≤ 1); decide
  · show overB (judgeSum [12884901888] [(0, 4294967296)]) = false ∧ holdsB (judgeSum [12884901888] [(0, 4294967296)]) 4294967296 = decide (3 ≤ 1); decide
theorem verd_at (names : List ByteArray) (rows : List RwV) (y : NdV) (k : Fo) (n i : Nat) (hi : i < n) : (verd names rows y k n).getD i 0 = vAt (exO names rows (y :: k.flat)) (combF names rows y.x (k.sem names rows)) i := by
  unfold verd
  rw [List.getD_eq_getElem?_getD, List.getElem?_map, List.getElem?_range hi]
  rfl
theorem verd_once (t : Nat) (r : Nat → Nat) : (verd [bsA] ((rows9 r).take 4) yOnce (Fo.cons (yAt t) .nil .nil) 4).getD 3 0 = 1 := by
  rw [verd_at _ _ _ _ _ _ (by omega), show (rows9 r).take 4 = rows9 r from rfl, vAt_else]
  · have hs : combF [bsA] (rows9 r) yOnce.x ((Fo.cons (yAt t) .nil .nil).sem [bsA] (rows9 r)) 3 = true := by
      show sinceF 1 2 (fun _ => true) (leafF [bsA] (rows9 r) xAt) 3 = true
      rw [sinceF_iff]
      refine ⟨1, by omega, by omega, .inr (by omega), ?_, fun _ _ _ => rfl⟩
      show atH [bsA] (rows9 r) xAt 1 = true
      rw [(at_a r 1 (by omega)).2]; rfl
    rw [hs]; rfl
  · rintro ⟨j, hj, z, hz, ho, hv⟩
    have : z = yOnce ∨ z = yAt t := by simpa [Fo.flat] using hz
    rcases this with rfl | rfl
    · exact absurd ho (by decide)
    · have := (at_a r j (by omega)).1
      rw [show (yAt t).x = xAt from rfl, this] at hv; cases hv
theorem verd_prev (rows : List RwV) (i : Nat) (hi : i < 3) : (verd [] rows yPrev (Fo.cons yTrue .nil .nil) 3).getD i 0 = if i = 0 then 0 else 1 := by
  rw [verd_at _ _ _ _ _ _ hi, vAt_else]
  · show (if prevF (leafF [] rows yTrue.x) i = true then (1 : Int) else 0) = _
    unfold prevF
    have hl : leafF [] rows yTrue.x (i - 1) = true := rfl
    rw [hl]
    by_cases h : i = 0
    · subst h; rfl
    · rw [if_neg h, if_pos]; simp; omega
  · rintro ⟨j, hj, z, hz, ho, hv⟩
    have : z = yPrev ∨ z = yTrue := by simpa [Fo.flat] using hz
    rcases this with rfl | rfl <;> exact absurd ho (by decide)
theorem good_once (t : Nat) : (Fo.cons yOnce (Fo.cons (yAt t) .nil .nil) .nil).ok := by
  refine ⟨rfl, ⟨fun z hz => (by cases hz), fun z hz => (by cases hz), by unfold B64; decide, by decide, fun _ => by decide, fun h => absurd h (by decide)⟩, ⟨rfl, ⟨fun z hz => ?_, fun z hz => ?_, (by show B64 4294967296; unfold B64; decide), (by show 1 ≤ 1073741824; omega), fun h => absurd h (by show ¬ ((2 : Int) = 8 ∨ (2 : Int) = 9 ∨ (2 : Int) = 10); decide), fun _ => rfl⟩, trivial, trivial⟩, trivial⟩
  · obtain rfl : z = ⟨bsA, 4294967296⟩ := by simpa [yAt, xAt] using hz
    show bsA.size ≤ 9223372036854775807
    decide
  · obtain rfl : z = ⟨bsA, 4294967296⟩ := by simpa [yAt, xAt] using hz
    unfold B64; decide
theorem good_prev : (Fo.cons yPrev (Fo.cons yTrue .nil .nil) .nil).ok :=
  ⟨rfl, ⟨fun z hz => (by cases hz), fun z hz => (by cases hz), by unfold B64; decide, by decide, fun h => absurd h (by decide), fun h => absurd h (by decide)⟩, ⟨rfl, ⟨fun z hz => (by cases hz), fun z hz => (by cases hz), by unfold B64; decide, by decide, fun h => absurd h (by decide), fun h => absurd h (by decide)⟩, trivial, trivial⟩, trivial⟩
/-- Nodes in memory that are few: a list of two. -/
theorem nds_two {X : World} {nd cap : Nat} {y z : NdV} (hc : 2 ≤ cap) (hy : ∀ j, j < 6 → X.cell? ⟨nd, j, none⟩ = (ndC y)[j]?) (hz : ∀ j, j < 6 → X.cell? ⟨nd, 6 + j, none⟩ = (ndC z)[j]?) (ty : TmsAt X y) (tz : TmsAt X z) : NdsAt X (some ⟨nd, 0, none⟩) cap [y, z] := by
  refine ⟨fun i hi => ?_, fun e => (by cases e), hc, by simp, fun w hw => ?_⟩
  · have : i = 0 ∨ i = 1 := by simp at hi; omega
    rcases this with rfl | rfl
    · exact ⟨nd, 0, rfl, fun j hj => by simpa using hy j hj⟩
    · exact ⟨nd, 0, rfl, fun j hj => by simpa using hz j hj⟩
  · have : w = y ∨ w = z := by simpa using hw
    rcases this with rfl | rfl
    · exact ty
    · exact tz
theorem tms_none (X : World) (x : Nd) (h : x.terms = []) : TmsAt X ⟨x, none, 0⟩ := ⟨fun i hi => by rw [h] at hi; simp at hi, fun _ => rfl, by rw [h]; simp, by rw [h]; simp⟩
end Go.Proofs.Ytipbjoeekbgnbaa
