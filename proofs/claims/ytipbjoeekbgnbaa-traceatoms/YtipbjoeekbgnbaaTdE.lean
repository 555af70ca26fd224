/- Formulas as trees, and what they mean; the contract of trace's part. Conditions: at most 1000 rows and names. -/
import Derived.Test.YtipbjoeekbgnbaaBz8
import Derived.Test.YtipbjoeekbgnbaaCoS
namespace Go.Proofs.Ytipbjoeekbgnbaa
open Go.RowKit Go.Maps Go.ChangeShapes
set_option linter.unusedVariables false
set_option maxRecDepth 100000

/-- A list of trees: a node, the trees within it, the trees behind it. -/
inductive Fo where
  | nil : Fo
  | cons : NdV → Fo → Fo → Fo
def Fo.flat : Fo → List NdV
  | .nil => []
  | .cons y k s => y :: (k.flat ++ s.flat)
def Fo.len : Fo → Nat
  | .nil => 0
  | .cons _ _ s => s.len + 1
/-- A node that a look can take. -/
def NodeGood (x : Nd) : Prop := NamesFit x.terms ∧ (∀ t ∈ x.terms, B64 t.times) ∧ B64 x.num ∧ x.terms.length ≤ 1073741824 ∧ ((x.op = 8 ∨ x.op = 9 ∨ x.op = 10) → 0 ≤ x.fr) ∧ (x.op = 2 → x.n = 0)
def Fo.ok : Fo → Prop
  | .nil => True
  | .cons y k s => y.x.n = (k.len : Int) ∧ NodeGood y.x ∧ k.ok ∧ s.ok
noncomputable def combF (names : List ByteArray) (rows : List RwV) (x : Nd) : List (Nat → Bool) → Nat → Bool
  | [] => leafF names rows x
  | [p] => oneF x p
  | p :: q :: l => (q :: l).foldl (twoF x) p
noncomputable def Fo.sem (names : List ByteArray) (rows : List RwV) : Fo → List (Nat → Bool)
  | .nil => []
  | .cons y k s => combF names rows y.x (k.sem names rows) :: s.sem names rows
theorem Fo.sem_len (names : List ByteArray) (rows : List RwV) : ∀ f : Fo, (f.sem names rows).length = f.len
  | .nil => rfl
  | .cons y k s => by simp [Fo.sem, Fo.len, Fo.sem_len names rows s]
/-- Some atom of these overflows at a place. -/
def exO (names : List ByteArray) (rows : List RwV) (l : List NdV) (j : Nat) : Prop := ∃ z ∈ l, z.x.op = 2 ∧ atO names rows z.x j = true
theorem exO_append (names : List ByteArray) (rows : List RwV) (l m : List NdV) (j : Nat) : exO names rows (l ++ m) j ↔ exO names rows l j ∨ exO names rows m j := by
  unfold exO
  simp only [List.mem_append, or_and_right, exists_or]
theorem exO_cons (names : List ByteArray) (rows : List RwV) (y : NdV) (l : List NdV) (j : Nat) : exO names rows (y :: l) j ↔ (y.x.op = 2 ∧ atO names rows y.x j = true) ∨ exO names rows l j := by
  unfold exO
  simp only [List.mem_cons, or_and_right, exists_or, exists_eq_left]
/-- What part tells. -/
def PartTells (W0 w : World) (g b : Nat) (names : List ByteArray) (ra : Option Addr) (rc : Nat) (rows : List RwV) (Q : Nat → Prop) (f : Nat → Bool) (rest : List NdV) (e : Ending) (W' : World) : Prop :=
  ∃ r o a c, e = .returned (.tuple #[.slice (some ⟨r, 0, none⟩) rows.length rows.length, .slice a rest.length c]) ∧ NdsAt W0 a c rest ∧ w.heap.size ≤ r ∧ BoRow W' (some ⟨r, 0, none⟩) rows.length f ∧ LookAt W0 W' g b names ra rc rows o ∧ OvIs rows.length Q o ∧ Mod [g] w W'
theorem PartTells.of {W0 w X : World} {g b : Nat} {names : List ByteArray} {ra : Option Addr} {rc : Nat} {rows : List RwV} {Q Q' : Nat → Prop} {f : Nat → Bool} {rest : List NdV} {r : Nat} {a : Option Addr} {c : Nat} {W' : World} (h : LookTells W0 X g b names ra rc rows Q f (.returned (.slice (some ⟨r, 0, none⟩) rows.length rows.length)) W') (k : Mod [g] w X) (hr : NdsAt W0 a c rest) (hQ : ∀ j, j < rows.length → (Q j ↔ Q' j)) : PartTells W0 w g b names ra rc rows Q' f rest (.returned (.tuple #[.slice (some ⟨r, 0, none⟩) rows.length rows.length, .slice a rest.length c])) W' := by
  obtain ⟨r', o, e, h2, h3, h4, h5, h6⟩ := h
  cases e
  exact ⟨r, o, a, c, rfl, hr, Nat.le_trans k.size h2, h3, h4, h5.congr hQ, k.trans h6⟩
end Go.Proofs.Ytipbjoeekbgnbaa
