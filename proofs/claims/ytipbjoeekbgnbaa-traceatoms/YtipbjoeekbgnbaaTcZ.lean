/- What trace's look has in memory; where an atom overflowed first. Conditions: there. -/
import Derived.Test.YtipbjoeekbgnbaaTcY
import Derived.Test.YtipbjoeekbgnbaaTcS
namespace Go.Proofs.Ytipbjoeekbgnbaa
open Go.RowKit Go.Maps Go.ChangeShapes
set_option linter.unusedVariables false
set_option maxRecDepth 100000

/-- A row of numbers with where it lies. -/
structure RwV where
  zs : List Int
  a : Option Addr
  c : Nat
instance : Inhabited RwV := ⟨⟨[], none, 0⟩⟩
/-- Rows in memory. -/
def RoRow (w : World) (a : Option Addr) (rows : List RwV) : Prop := ∀ i, i < rows.length → ∃ b off, a = some ⟨b, off, none⟩ ∧ w.cell? ⟨b, off + i, none⟩ = some (.slice (rows.getD i default).a (rows.getD i default).zs.length (rows.getD i default).c) ∧ IRow w (rows.getD i default).a (rows.getD i default).zs
theorem RoRow.below {w w' : World} {a : Option Addr} {rows : List RwV} (h : RoRow w a rows) (k : Below w.heap.size w w') : RoRow w' a rows := fun i hi => by
  obtain ⟨b, off, e, h1, h2⟩ := h i hi
  exact ⟨b, off, e, cell_up k h1, h2.below k⟩
/-- Where Q held first. -/
def OvIs (L : Nat) (Q : Nat → Prop) (o : Nat) : Prop := o ≤ L ∧ ∀ i, i < L → (o ≤ i ↔ ∃ j, j ≤ i ∧ Q j)
theorem OvIs.congr {L : Nat} {Q Q' : Nat → Prop} {o : Nat} (h : OvIs L Q o) (k : ∀ j, j < L → (Q j ↔ Q' j)) : OvIs L Q' o :=
  ⟨h.1, fun i hi => by rw [h.2 i hi]; exact ⟨fun ⟨j, h1, h2⟩ => ⟨j, h1, (k j (by omega)).1 h2⟩, fun ⟨j, h1, h2⟩ => ⟨j, h1, (k j (by omega)).2 h2⟩⟩⟩
theorem OvIs.none (L : Nat) : OvIs L (fun _ => False) L := ⟨Nat.le_refl _, fun i hi => ⟨fun h => by omega, fun ⟨_, _, h⟩ => h.elim⟩⟩
theorem OvIs.yes {L : Nat} {Q : Nat → Prop} {O : Nat → Bool} {o k : Nat} (h : OvIs L (fun j => Q j ∨ (j < k ∧ O j = true)) o) (hk : k < L) (hO : O k = true) : OvIs L (fun j => Q j ∨ (j < k + 1 ∧ O j = true)) (min o k) := by
  refine ⟨by have := h.1; omega, fun i hi => ?_⟩
  have e := h.2 i hi
  constructor
  · intro hm
    by_cases h1 : o ≤ i
    · obtain ⟨j, h2, h3⟩ := e.1 h1
      exact ⟨j, h2, h3.imp id fun ⟨h4, h5⟩ => ⟨by omega, h5⟩⟩
    · exact ⟨k, by omega, .inr ⟨by omega, hO⟩⟩
  · rintro ⟨j, h1, h2 | ⟨h2, h3⟩⟩
    · have := e.2 ⟨j, h1, .inl h2⟩; omega
    · by_cases hj : j = k
      · omega
      · have := e.2 ⟨j, h1, .inr ⟨by omega, h3⟩⟩; omega
theorem OvIs.no {L : Nat} {Q : Nat → Prop} {O : Nat → Bool} {o k : Nat} (h : OvIs L (fun j => Q j ∨ (j < k ∧ O j = true)) o) (hO : O k = false) : OvIs L (fun j => Q j ∨ (j < k + 1 ∧ O j = true)) o :=
  h.congr fun j hj => or_congr Iff.rfl ⟨fun ⟨h1, h2⟩ => ⟨by omega, h2⟩, fun ⟨h1, h2⟩ => ⟨by
    have : j ≠ k := fun e => by subst e; rw [hO] at h2; cases h2
    omega, h2⟩⟩
/-- A look at block g: its columns at block b, its rows, where an atom overflowed first. -/
structure LookAt (W0 w : World) (g b : Nat) (names : List ByteArray) (ra : Option Addr) (rc : Nat) (rows : List RwV) (o : Nat) : Prop where
  bel : Below W0.heap.size W0 w
  ge : W0.heap.size ≤ g
  c0 : w.cell? ⟨g, 0, none⟩ = some (.map (some b))
  c1 : w.cell? ⟨g, 1, none⟩ = some (.slice ra rows.length rc)
  c2 : w.cell? ⟨g, 2, none⟩ = some (.int .i64 o)
  f : ∀ i, w.frozen? ⟨g, i, none⟩ = false
  cols : ColsAt w b names
  ne : b ≠ g
  rows : RoRow W0 ra rows
theorem LookAt.lt {W0 w : World} {g b : Nat} {names : List ByteArray} {ra : Option Addr} {rc : Nat} {rows : List RwV} {o : Nat} (h : LookAt W0 w g b names ra rc rows o) : g < w.heap.size := World.block_lt_of_cell? _ _ h.c0
theorem LookAt.below {W0 w w' : World} {g b : Nat} {names : List ByteArray} {ra : Option Addr} {rc : Nat} {rows : List RwV} {o : Nat} (h : LookAt W0 w g b names ra rc rows o) (k : Below w.heap.size w w') : LookAt W0 w' g b names ra rc rows o :=
  ⟨h.bel.trans (k.mono h.bel.size), h.ge, cell_up k h.c0, cell_up k h.c1, cell_up k h.c2, fun i => by rw [k.frozen (p := ⟨g, i, none⟩) (show g < w.heap.size from h.lt)]; exact h.f i, h.cols.below k, h.ne, h.rows⟩
/-- A store into another block that is none of these. -/
theorem LookAt.oth {W0 w : World} {g b : Nat} {names : List ByteArray} {ra : Option Addr} {rc : Nat} {rows : List RwV} {o : Nat} (h : LookAt W0 w g b names ra rc rows o) (c i : Nat) (v : Value) (hc : W0.heap.size ≤ c) (h1 : g ≠ c) (h2 : b ≠ c) : LookAt W0 (w.setCell ⟨c, i, none⟩ v) g b names ra rc rows o :=
  ⟨h.bel.setCell hc _, h.ge, by rw [cellB _ _ _ _ _ _ h1]; exact h.c0, by rw [cellB _ _ _ _ _ _ h1]; exact h.c1, by rw [cellB _ _ _ _ _ _ h1]; exact h.c2, fun i => by simp [h.f], h.cols.kept (S := [c]) ((Mod.refl _ _).setCell _ _ _ (by simp)) (by simpa using h2), h.ne, h.rows⟩
/-- A store of where an atom overflowed first. -/
theorem LookAt.store {W0 w : World} {g b : Nat} {names : List ByteArray} {ra : Option Addr} {rc : Nat} {rows : List RwV} {o : Nat} (h : LookAt W0 w g b names ra rc rows o) (o' : Nat) : LookAt W0 (w.setCell ⟨g, 2, none⟩ (.int .i64 o')) g b names ra rc rows o' :=
  ⟨h.bel.setCell h.ge _, h.ge, by rw [cellO _ _ _ _ _ _ (by omega)]; exact h.c0, by rw [cellO _ _ _ _ _ _ (by omega)]; exact h.c1, World.cell?_setCell_same _ _ _ h.c2, fun i => by simp [h.f], h.cols.kept (S := [g]) ((Mod.refl _ _).setCell _ _ _ (by simp)) (by simpa using h.ne), h.ne, h.rows⟩
/-- What an atom's weights say of a row. -/
def atHolds (names : List ByteArray) (x : Nd) (zs : List Int) : Bool := holdsB (judgeSum zs (wtsTo names x.terms x.terms.length)) x.num
def atOver (names : List ByteArray) (x : Nd) (zs : List Int) : Bool := overB (judgeSum zs (wtsTo names x.terms x.terms.length))
def atH (names : List ByteArray) (rows : List RwV) (x : Nd) (i : Nat) : Bool := atHolds names x (rows.getD i default).zs
def atO (names : List ByteArray) (rows : List RwV) (x : Nd) (i : Nat) : Bool := atOver names x (rows.getD i default).zs
theorem wts_times {names : List ByteArray} {ts : List Tm} (h : ∀ t ∈ ts, B64 t.times) (k : Nat) : ∀ p ∈ wtsTo names ts k, B64 p.2 := fun p hp => by
  unfold wtsTo at hp
  obtain ⟨t, ht, he⟩ := List.mem_filterMap.1 hp
  unfold pickT at he
  split at he
  · simp only [Option.some.injEq] at he
    subst he
    exact h t (List.mem_of_mem_take ht)
  · cases he
/-- What a look's method leaves. -/
def LookTells (W0 w : World) (g b : Nat) (names : List ByteArray) (ra : Option Addr) (rc : Nat) (rows : List RwV) (Q : Nat → Prop) (f : Nat → Bool) (e : Ending) (W' : World) : Prop :=
  ∃ r o, e = .returned (.slice (some ⟨r, 0, none⟩) rows.length rows.length) ∧ w.heap.size ≤ r ∧ BoRow W' (some ⟨r, 0, none⟩) rows.length f ∧ LookAt W0 W' g b names ra rc rows o ∧ OvIs rows.length Q o ∧ Mod [g] w W'
end Go.Proofs.Ytipbjoeekbgnbaa
