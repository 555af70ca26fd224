/- The contracts of span's Of, Join, Meet, Wide. Conditions: at most 400000 spans; the numbers' own ranges. -/
import Derived.Test.YtjnnjjajlafchaaSpanL
import Derived.Test.YtjnnjjajlafchaaPickB
import Derived.Deep.RegionHeld3
namespace Go.Proofs.Ytjnnjjajlafchaa
open Go.RowKit
set_option linter.unusedVariables false
set_option maxRecDepth 100000

/-- The least span of some numbers. -/
def ofLo (zs : List Int) : Int := if zs.length = 0 then 0 else Lib.minOf zs
def ofHi (zs : List Int) : Int := if zs.length = 0 then -1 else Lib.maxOf zs
theorem own_any {W : World} {B : Nat} {v : Value} {xs : List Int} (h : W.ownsRow B 3 1 v xs.length (intCells xs)) : ∃ a cap, v = .slice a xs.length cap ∧ IntRow W a xs := by
  by_cases h0 : xs.length = 0
  · rcases h.2 with ⟨rfl, h2⟩ | ⟨g, cap, cur, rfl, _⟩
    · exact ⟨none, 0, by rw [h0], fun i hi => by omega⟩
    · exact ⟨_, cap, rfl, fun i hi => by omega⟩
  · obtain ⟨g, cap, rfl, _, _, hr⟩ := own_slice h (by omega)
    exact ⟨_, cap, rfl, hr⟩
/-- The ends of those that are not empty. -/
def endsL (ss : List (Int × Int)) : List Int := ss.flatMap fun s => if s.2 < s.1 then [] else [s.1, s.2]
theorem endsL_take (ss : List (Int × Int)) (k : Nat) (h : k < ss.length) : endsL (ss.take (k + 1)) = endsL (ss.take k) ++ (if (ss.getD k (0, 0)).2 < (ss.getD k (0, 0)).1 then [] else [(ss.getD k (0, 0)).1, (ss.getD k (0, 0)).2]) := by
  unfold endsL
  rw [List.take_succ_eq_append_getElem h, List.flatMap_append]
  simp [List.getD_eq_getElem?_getD, List.getElem?_eq_getElem h]
theorem endsL_len (ss : List (Int × Int)) : (endsL ss).length ≤ 2 * ss.length := by
  induction ss with
  | nil => simp [endsL]
  | cons s ss ih =>
    unfold endsL at *
    rw [List.flatMap_cons, List.length_append, List.length_cons]
    split <;> simp only [List.length_nil, List.length_cons] <;> omega
/-- What is in all. -/
def meetLo (ss : List (Int × Int)) : Int := Lib.maxOf (ss.map Prod.fst ++ [-9223372036854775808])
def meetHi (ss : List (Int × Int)) : Int := Lib.minOf (ss.map Prod.snd ++ [9223372036854775807])
end Go.Proofs.Ytjnnjjajlafchaa
