/- The contracts of fix's small inner functions: note, end, sizeOf, signed, product. Conditions: none but the numbers' own ranges. -/
import Derived.Test.YtipbjoeekbgnbaaChecked
import Derived.Test.YtipbjoeekbgnbaaMath
import Derived.WalkKit
import Derived.WalkSpells
import Derived.WalkLawsBesides
import Derived.Below
import Derived.Laws.BitsAllLaws
namespace Go.Proofs.Ytipbjoeekbgnbaa
open Go.RowKit
set_option linter.unusedVariables false
set_option maxRecDepth 100000

theorem ret_int {k : IntKind} {a b : Int} (h : a = b) : Ending.returned (.int k a) = .returned (.int k b) := by rw [h]

/-! What a pointer to an Acc says: nil, or a cell that holds a bool and may be written. -/
def AccIs (w : World) (p : Option Addr) (o : Bool) : Prop := ∀ a, p = some a → a.spot = none ∧ w.cell? a = some (.bool o) ∧ w.frozen? a = false
def accSet (w : World) (p : Option Addr) (o : Bool) : World := match p with | none => w | some a => w.setCell a (.bool o)
theorem setCell_self (w : World) (a : Addr) (v : Value) (h : w.cell? a = some v) : w.setCell a v = w := by
  obtain ⟨heap, tape, drawn, os, output⟩ := w
  simp only [World.setCell, World.mk.injEq, and_true]
  apply Array.ext_getElem?
  intro i
  rw [Array.getElem?_modify]
  by_cases hi : a.block = i
  · subst hi
    rw [if_pos rfl]
    unfold World.cell? at h
    simp only at h
    cases hb : heap[a.block]? with
    | none => rfl
    | some ob =>
      rw [hb] at h
      cases ob with
      | cells c t fr =>
        simp only at h
        by_cases hs : a.spot.isSome = true
        · simp [hs]
        · simp only [hs, Bool.false_eq_true, if_false] at h
          simp only [Option.map_some, hs, Bool.false_eq_true, if_false]
          have : c.setIfInBounds a.off v = c := by
            apply Array.ext_getElem?
            intro k
            rw [Array.getElem?_setIfInBounds]
            by_cases hk : a.off = k
            · subst hk
              rw [h]; simp
              exact (Array.getElem?_eq_some_iff.mp h).1
            · simp [hk]
          rw [this]
      | _ => rfl
  · rw [if_neg hi]
theorem accSet_self {w : World} {p : Option Addr} {o : Bool} (h : AccIs w p o) : accSet w p o = w := by
  cases p with
  | none => rfl
  | some a => exact setCell_self w a _ (h a rfl).2.1
theorem accIs_none (w : World) (o : Bool) : AccIs w none o := fun a h => by cases h
theorem accIs_some {w : World} {b k : Nat} {o : Bool} (hc : w.cell? ⟨b, k, none⟩ = some (.bool o)) (hf : w.frozen? ⟨b, k, none⟩ = false) : AccIs w (some ⟨b, k, none⟩) o := by
  intro a h; cases h; exact ⟨rfl, hc, hf⟩

/-- The end at which a number stays. -/
def endF (below : Bool) : Int := if below then -9223372036854775808 else 9223372036854775807
theorem neg_size (x : Int) (h1 : -9223372036854775808 ≤ x) (h : x < 0) : IntKind.u64.wrap (-IntKind.u64.wrap x) = (x.natAbs : Int) := by
  simp only [IntKind.wrap_u64]; omega
/-- A number's size, by a name that the walk leaves alone. -/
def absF (x : Int) : Int := (x.natAbs : Int)
theorem absF_bd (x : Int) (h1 : -9223372036854775808 ≤ x) (h2 : x ≤ 9223372036854775807) : 0 ≤ absF x ∧ absF x ≤ 9223372036854775808 := by unfold absF; omega
theorem neg_back (x : Int) (h1 : 0 ≤ x) (h2 : x ≤ 9223372036854775808) : wrap64 (IntKind.u64.wrap (-x)) = -x := by
  simp only [IntKind.wrap_u64, wrap64]; omega
theorem ret_two {k : IntKind} {a b : Int} {v : Value} (h : a = b) : Ending.returned (.tuple #[.int k a, v]) = .returned (.tuple #[.int k b, v]) := by rw [h]
theorem ret_twos {k j : IntKind} {a b c d : Int} (h : a = b) (h' : c = d) : Ending.returned (.tuple #[.int k a, .int j c]) = .returned (.tuple #[.int k b, .int j d]) := by rw [h, h']
end Go.Proofs.Ytipbjoeekbgnbaa
