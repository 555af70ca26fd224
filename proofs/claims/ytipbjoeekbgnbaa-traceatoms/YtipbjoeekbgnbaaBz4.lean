/- The contracts of span's Of, Join, Meet, Wide. Conditions: at most 400000 spans; the numbers' own ranges. -/
import Derived.Test.YtipbjoeekbgnbaaSpanL
import Derived.Test.YtipbjoeekbgnbaaPickB
import Derived.Deep.RegionHeld3
namespace Go.Proofs.Ytipbjoeekbgnbaa
open Go.RowKit
set_option linter.unusedVariables false
set_option maxRecDepth 100000

/-- The least span of some numbers. -/
def ofLo (zs : List Int) : Int := if zs.length = 0 then 0 else Lib.minOf zs
def ofHi (zs : List Int) : Int := if zs.length = 0 then -1 else Lib.maxOf zs
theorem own_any {W : World} {B : Nat} {v : Value} {xs : List Int} (h : W.ownsRow B 3 1 v xs.length (intCells xs)) : ∃ a cap, v = .slice a xs.length cap ∧ IntRow W a xs := by
  by_cases h0 : xs.length = 0
  · rcases h.2 with ⟨rfl, h2⟩ | ⟨g, cap, cur, rfl, _⟩
    · exact ⟨none, 0, by rw [h0], fun i hi => by omega⟩
    · exact ⟨_, cap, rfl, fun i hi => by omega⟩
  · obtain ⟨g, cap, rfl, _, _, hr⟩ := own_slice h (by omega)
    exact ⟨_, cap, rfl, hr⟩
/-- The ends of those that are not empty. -/
def endsL (ss : List (Int × Int)) : List Int := ss.flatMap fun s => if s.2 < s.1 then [] else [s.1, s.2]
theorem endsL_take (ss : List (Int × Int)) (k : Nat) (h : k < ss.length) : endsL (ss.take (k + 1)) = endsL (ss.take k) ++ (if (ss.getD k (0, 0)).2 < (ss.getD k (0, 0)).1 then [] else [(ss.getD k (0, 0)).1, (ss.getD k (0, 0)).2]) := by
  unfold endsL
  rw [List.take_succ_eq_append_getElem h, List.flatMap_append]
  simp [List.getD_eq_getElem?_getD, List.getElem?_eq_getElem h]
theorem endsL_len (ss : List (Int × Int)) : (endsL ss).length ≤ 2 * ss.length := by
  induction ss with
  | nil => simp [endsL]
  | cons s ss ih =>
    unfold endsL at *
    rw [List.flatMap_cons, List.length_append, List.length_cons]
    split <;> simp only [List.length_nil, List.length_cons] <;> omega
/-- What is in all. -/
def meetLo (ss : List (Int × Int)) : Int := Lib.maxOf (ss.map Prod.fst ++ [-9223372036854775808])
def meetHi (ss : List (Int × Int)) : Int := Lib.minOf (ss.map Prod.snd ++ [9223372036854775807])
end Go.Proofs.Ytipbjoeekbgnbaa

namespace Go.Proofs.Ytipbjoeekbgnbaa
open Go.RowKit
set_option linter.unusedVariables false
set_option maxRecDepth 100000

/-- An int. -/
def B64 (p : Int) : Prop := -9223372036854775808 ≤ p ∧ p ≤ 9223372036854775807
/-- How a method that tells a span ends. -/
def SpanSays (w : World) (b : Nat) (o : Bool) (W : World) (lo hi : Int) (ov : Bool) (e : Ending) (W' : World) : Prop := e = .returned ((.agg #[.int .i64 lo, .int .i64 hi])) ∧ Live w b W' (o || ov) ∧ Kept b W W'
theorem Kept.below {b : Nat} {x y z : World} (h : Kept b x y) (k : Below y.heap.size y z) : Kept b x z := h.trans (Kept.of_below k)
theorem Kept.cell {b : Nat} {x y : World} (h : Kept b x y) {g i : Nat} {v : Value} (hv : x.cell? ⟨g, i, none⟩ = some v) (hg : g ≠ b) : y.cell? ⟨g, i, none⟩ = some v := by
  have hlt : g < x.heap.size := World.block_lt_of_cell? x ⟨g, i, none⟩ hv
  rw [World.cell?_of_block (w := x) (a := ⟨g, i, none⟩) (h.block g hlt hg)]; exact hv
theorem Kept.frz {b : Nat} {x y : World} (h : Kept b x y) {g i : Nat} (hlt : g < x.heap.size) (hg : g ≠ b) : y.frozen? ⟨g, i, none⟩ = x.frozen? ⟨g, i, none⟩ :=
  World.frozen?_of_block (w := x) (a := ⟨g, i, none⟩) (h.block g hlt hg)
theorem Kept.set {b : Nat} {x y : World} (h : Kept b x y) (g i : Nat) (v : Value) (hg : x.heap.size ≤ g) : Kept b x (y.setCell ⟨g, i, none⟩ v) :=
  ⟨h.os, h.tape, h.output, by have := h.size; simpa using this, fun k hk hb => (Below.heap_setCell _ _ _ _ (by show k ≠ g; omega)).trans (h.block k hk hb)⟩
theorem Live.setOther {w W : World} {b : Nat} {o : Bool} (h : Live w b W o) (g i : Nat) (v : Value) (hg : b < g) : Live w b (W.setCell ⟨g, i, none⟩ v) o :=
  h.kept (Kept.setCell g W i v) (by omega) (by have := h.new; omega)
theorem says_set {w W W2 : World} {v : Nat} {o : Bool} (l : Live w v W2 o) (k : Kept v W W2) (g : Nat) (hg : W.heap.size ≤ g) (x y : Value) (hv : v < W.heap.size) :
    Live w v ((W2.setCell ⟨g, 0, none⟩ x).setCell ⟨g, 1, none⟩ y) o ∧ Kept v W ((W2.setCell ⟨g, 0, none⟩ x).setCell ⟨g, 1, none⟩ y) :=
  ⟨(l.setOther g 0 x (by omega)).setOther g 1 y (by omega), (k.set g 0 x hg).set g 1 y hg⟩

end Go.Proofs.Ytipbjoeekbgnbaa

namespace Go.Proofs.Ytipbjoeekbgnbaa
open Go.RowKit
set_option linter.unusedVariables false
set_option maxRecDepth 100000

theorem or_assoc4 (o p q r s : Bool) : ((((o || p) || q) || r) || s) = (o || (p || q || r || s)) := by cases o <;> simp
theorem row_four (W : World) (p q r s : Int) (g : Nat) (hg : g = W.heap.size) : IntRow (W.alloc (.cells #[.int .i64 p, .int .i64 q, .int .i64 r, .int .i64 s] 3)) (some ⟨g, 0, none⟩) [p, q, r, s] := by
  subst hg
  intro i hi
  refine ⟨W.heap.size, 0, rfl, ?_⟩
  match i, hi with
  | 0, _ => simp
  | 1, _ => simp
  | 2, _ => simp
  | 3, _ => simp
/-- The four products of ends. -/
def prods (a b c d : Int) (up : Bool) : List Int := [clampF (mulF a c up), clampF (mulF a d up), clampF (mulF b c up), clampF (mulF b d up)]
end Go.Proofs.Ytipbjoeekbgnbaa

namespace Go.Proofs.Ytipbjoeekbgnbaa
open Go.RowKit
set_option linter.unusedVariables false
set_option maxRecDepth 100000
theorem min_prods (a b c d : Int) : Lib.minOf (prods a b c d false) = crossLo a b c d := by simp [Lib.minOf, prods, crossLo, min4]
theorem max_prods (a b c d : Int) : Lib.maxOf (prods a b c d true) = crossHi a b c d := by simp [Lib.maxOf, prods, crossHi, max4]
end Go.Proofs.Ytipbjoeekbgnbaa

namespace Go.Proofs.Ytipbjoeekbgnbaa
open Go.RowKit
set_option linter.unusedVariables false
set_option maxRecDepth 100000

theorem SpanRow.kept {w w' : World} {a : Option Addr} {ss : List (Int × Int)} {v : Nat} (h : SpanRow w a ss) (k : Kept v w w') (ha : ∀ x, a = some x → x.block ≠ v) : SpanRow w' a ss := by
  intro i hi
  obtain ⟨b, off, rfl, hc, hd⟩ := h i hi
  have hb := ha _ rfl
  exact ⟨b, off, rfl, k.cell hc hb, k.cell hd hb⟩
/-- All ends are ints. -/
def FitsS (ss : List (Int × Int)) : Prop := Fits (ss.map Prod.fst) ∧ Fits (ss.map Prod.snd)
end Go.Proofs.Ytipbjoeekbgnbaa
