/- The contracts of kinds' addProp and New. Conditions: what came in; names of at most 2^63 - 1 bytes. -/
import Derived.Test.YtjnnjjajlafchaaNwA
import Derived.Test.YtjnnjjajlafchaaKnN
import Derived.Test.YtjnnjjajlafchaaCtI
namespace Go.Proofs.Ytjnnjjajlafchaa
open Go.RowKit
set_option linter.unusedVariables false
set_option maxRecDepth 100000

/-- What is known of a property that came in. -/
structure PrKnown (W : World) (x : PrV) : Prop where
  name : x.name.size ≤ 9223372036854775807
  row : RowOf ndC 6 W x.a x.ys
  none' : x.a = none → x.cap = 0
  cap : x.ys.length ≤ x.cap
  plain : Plain x.a
  most : x.ys.length ≤ 9223372036854775807
  nodes : ∀ y ∈ x.ys, NdKnown W y ∧ Plain y.ta
theorem NdKnown.below {W W' : World} {y : NdV} (h : NdKnown W y) (k : Below W.heap.size W W') : NdKnown W' y := ⟨h.1.below k, h.2⟩
theorem PrKnown.below {W W' : World} {x : PrV} (h : PrKnown W x) (k : Below W.heap.size W W') : PrKnown W' x :=
  ⟨h.name, h.row.below ndC_len k, h.none', h.cap, h.plain, h.most, fun y hy => ⟨(h.nodes y hy).1.below k, (h.nodes y hy).2⟩⟩
theorem PrKnown.nodeRow {W : World} {x : PrV} (h : PrKnown W x) : NodeRow W x.a x.body := nodeRow_of h.row fun y hy => (h.nodes y hy).1
theorem PrKnown.fit {W : World} {x : PrV} (h : PrKnown W x) : NodesFit x.body := by
  intro z hz
  simp only [PrV.body, List.mem_map] at hz
  obtain ⟨y, hy, rfl⟩ := hz
  obtain ⟨_, k2, _, ⟨k4, k5, _⟩, _, k6, _⟩ := (h.nodes y hy).1
  exact ⟨k2, by omega, k6.2⟩
def addPE (l : List Sig) (ps : List PrV) (x : PrV) : Int := if isNameB x.name = false ∨ hasB l x.name = true ∨ hasP ps x.name = true then 40 else checkE l x.body
/-- A sheet at q that is being made: its properties lie from block q on; the names lie ahead of it. -/
structure ShInv (W1 : World) (q p : Nat) (l : List Sig) (hd : Nat → Value) (wr : World) (pv : Value) (ps : List PrV) : Prop where
  bel : Below q W1 wr
  le : q = W1.heap.size
  names : NmAt W1 p l
  c0 : wr.cell? ⟨q, 0, none⟩ = some (.pointer (some ⟨p, 0, none⟩))
  hdr : ∀ j, 1 ≤ j → j < 5 → wr.cell? ⟨q, j, none⟩ = some (hd j)
  c5 : wr.cell? ⟨q, 5, none⟩ = some pv
  frz : wr.frozen? ⟨q, 5, none⟩ = false
  own : Own prC 78 2 wr q pv ps
  ne : pv.ownBlock ≠ some q
theorem ShInv.stays {W1 wr wr' : World} {q p : Nat} {l : List Sig} {hd : Nat → Value} {pv : Value} {ps : List PrV} (h : ShInv W1 q p l hd wr pv ps) (b : Below wr.heap.size wr wr') : ShInv W1 q p l hd wr' pv ps :=
  ⟨h.bel.trans (b.mono (by have := h.bel.size; have := h.le; omega)), h.le, h.names, cell_up b h.c0, fun j h1 h2 => cell_up b (h.hdr j h1 h2), cell_up b h.c5, by rw [b.frozen (p := ⟨q, 5, none⟩) (World.block_lt_of_cell? wr _ h.c5)]; exact h.frz, h.own.below b, h.ne⟩
theorem ShInv.sh {W1 wr : World} {q p : Nat} {l : List Sig} {hd : Nat → Value} {pv : Value} {ps : List PrV} (h : ShInv W1 q p l hd wr pv ps) : ShAt wr q p l :=
  ⟨h.c0, h.names.below (by rw [← h.le]; exact h.bel)⟩
end Go.Proofs.Ytjnnjjajlafchaa
