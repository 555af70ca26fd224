/- Slices of nodes, and of slices of nodes, in memory: what can be read of them, their pieces. Conditions: at most 2^40 nodes, each of at most 2^40 terms. -/
import Derived.Test.YtjnnjjajlafchaaCln
import Derived.Test.YtjnnjjajlafchaaTrM
namespace Go.Proofs.Ytjnnjjajlafchaa
open Go.RowKit
set_option linter.unusedVariables false
set_option maxRecDepth 100000

/-- A node whose terms lie in a row of its own. -/
def OwnT (W : World) (B : Nat) (y : NdV) : Prop := Own tmC 74 2 W B (.slice y.ta y.x.terms.length y.tc) y.x.terms
/-- Nodes in a row of one's own, their terms too, none of them in the nodes' row. -/
structure OwnN (W : World) (B : Nat) (v : Value) (zs : List NdV) : Prop where
  row : Own ndC 67 6 W B v zs
  terms : ∀ z ∈ zs, OwnT W B z
  apart : ∀ z ∈ zs, ∀ g, v.ownBlock = some g → (Value.slice z.ta z.x.terms.length z.tc).ownBlock ≠ some g
theorem RowOf.below {X : Type} [Inhabited X] {C : X → List Value} {c : Nat} (hC : ∀ x, (C x).length = c) {w w' : World} {a : Option Addr} {l : List X} (h : RowOf C c w a l) (k : Below w.heap.size w w') : RowOf C c w' a l := by
  intro i hi
  obtain ⟨b, off, e, hj⟩ := h i hi
  refine ⟨b, off, e, fun j hjj => ?_⟩
  have h1 := hj j hjj
  rw [List.getElem?_eq_getElem (by rw [hC]; exact hjj)] at h1 ⊢
  exact cell_up k h1
theorem RowOf.take {X : Type} [Inhabited X] {C : X → List Value} {c : Nat} {w : World} {a : Option Addr} {l : List X} (h : RowOf C c w a l) (k : Nat) : RowOf C c w a (l.take k) := by
  intro i hi
  rw [List.length_take] at hi
  obtain ⟨b, off, e, hj⟩ := h i (by omega)
  refine ⟨b, off, e, fun j hjj => ?_⟩
  rw [hj j hjj, List.getD_eq_getElem?_getD, List.getD_eq_getElem?_getD, List.getElem?_take_of_lt (by omega)]
theorem RowOf.drop {X : Type} [Inhabited X] {C : X → List Value} {c : Nat} {w : World} {b off : Nat} {l : List X} (h : RowOf C c w (some ⟨b, off, none⟩) l) (k : Nat) : RowOf C c w (some ⟨b, off + k * c, none⟩) (l.drop k) := by
  intro i hi
  rw [List.length_drop] at hi
  obtain ⟨b', off', e, hj⟩ := h (k + i) (by omega)
  cases e
  refine ⟨b, off + k * c, rfl, fun j hjj => ?_⟩
  have e1 : off + k * c + i * c + j = off + (k + i) * c + j := by rw [Nat.add_mul]; omega
  rw [e1, hj j hjj, List.getD_eq_getElem?_getD, List.getD_eq_getElem?_getD, List.getElem?_drop]
theorem TermRow.rowOf {W : World} {a : Option Addr} {l : List Tm} (h : TermRow W a l) : RowOf tmC 2 W a l := by
  intro i hi
  obtain ⟨b, off, e, h0, h1⟩ := h i hi
  refine ⟨b, off, e, fun j hj => ?_⟩
  rw [show (default : Tm) = tm0 from rfl]
  have : j = 0 ∨ j = 1 := by omega
  rcases this with rfl | rfl
  · simpa [tmC] using h0
  · simpa [tmC] using h1
theorem rowOf_term {W : World} {a : Option Addr} {l : List Tm} (h : RowOf tmC 2 W a l) : TermRow W a l := by
  intro i hi
  obtain ⟨b, off, e, hj⟩ := h i hi
  have h0 := hj 0 (by omega)
  have h1 := hj 1 (by omega)
  rw [show (default : Tm) = tm0 from rfl] at h0 h1
  exact ⟨b, off, e, by simpa [tmC] using h0, by simpa [tmC] using h1⟩
/-- Terms that a node has. -/
structure TmsAt (W : World) (y : NdV) : Prop where
  row : TermRow W y.ta y.x.terms
  nil : y.ta = none → y.tc = 0
  le : y.x.terms.length ≤ y.tc
  few : y.x.terms.length ≤ 1099511627776
theorem TmsAt.below {W W' : World} {y : NdV} (h : TmsAt W y) (k : Below W.heap.size W W') : TmsAt W' y := ⟨h.row.below k, h.nil, h.le, h.few⟩
/-- A slice of nodes. -/
structure NdsAt (W : World) (a : Option Addr) (cap : Nat) (ys : List NdV) : Prop where
  row : RowOf ndC 6 W a ys
  nil : a = none → cap = 0
  le : ys.length ≤ cap
  few : ys.length ≤ 1099511627776
  terms : ∀ y ∈ ys, TmsAt W y
theorem NdsAt.below {W W' : World} {a : Option Addr} {cap : Nat} {ys : List NdV} (h : NdsAt W a cap ys) (k : Below W.heap.size W W') : NdsAt W' a cap ys :=
  ⟨h.row.below ndC_len k, h.nil, h.le, h.few, fun y hy => (h.terms y hy).below k⟩
theorem NdsAt.take {W : World} {a : Option Addr} {cap : Nat} {ys : List NdV} (h : NdsAt W a cap ys) (k : Nat) : NdsAt W a cap (ys.take k) :=
  ⟨h.row.take k, h.nil, by have := h.le; rw [List.length_take]; omega, by have := h.few; rw [List.length_take]; omega, fun y hy => h.terms y (List.mem_of_mem_take hy)⟩
/-- As the law's other contracts say it. -/
theorem NdsAt.nodes {W : World} {a : Option Addr} {cap : Nat} {ys : List NdV} (h : NdsAt W a cap ys) : NodeRow W a (ys.map (·.x)) := by
  intro i hi
  have hi' : i < ys.length := by simpa using hi
  obtain ⟨b, off, e, hj⟩ := h.row i hi'
  have hd : (ys.map (·.x)).getD i nd0 = (ys.getD i default).x := by simp [List.getD_eq_getElem?_getD, hi']
  rw [hd]
  have hk := h.terms (ys.getD i default) (by rw [List.getD_eq_getElem?_getD, List.getElem?_eq_getElem hi']; exact List.getElem_mem hi')
  refine ⟨b, off, e, ?_, ?_, ?_, ?_, ⟨(ys.getD i default).ta, (ys.getD i default).tc, ?_, hk.row⟩, ?_⟩
  · have := hj 0 (by omega); simpa [ndC] using this
  · have := hj 1 (by omega); simpa [ndC] using this
  · have := hj 2 (by omega); simpa [ndC] using this
  · have := hj 3 (by omega); simpa [ndC] using this
  · have := hj 4 (by omega); simpa [ndC] using this
  · have := hj 5 (by omega); simpa [ndC] using this
theorem Own.room {X : Type} {C : X → List Value} {e : TypeId} {c : Nat} {W : World} {B : Nat} {a : Option Addr} {n cap : Nat} {l : List X} (hC : ∀ x, (C x).length = c) (z : X) (h : Own C e c W B (.slice a n cap) l) : n = l.length ∧ (a = none → cap = 0) ∧ l.length ≤ cap ∧ cap ≤ maxLen := by
  obtain ⟨a', cap', e', h1, _, _⟩ := h.sl hC z
  cases e'
  refine ⟨rfl, fun q => (h1 q).2, ?_⟩
  rcases h.2 with ⟨e2, h0⟩ | ⟨g, cp, cur, e2, _, _, h3, h4, _⟩
  · simp only [Value.slice.injEq] at e2; unfold maxLen; omega
  · simp only [Value.slice.injEq] at e2; obtain ⟨_, _, rfl⟩ := e2; exact ⟨h3, h4⟩
theorem Own.rows {X : Type} [Inhabited X] {C : X → List Value} {e : TypeId} {c : Nat} {W : World} {B : Nat} {a : Option Addr} {n cap : Nat} {l : List X} (hC : ∀ x, (C x).length = c) (h : Own C e c W B (.slice a n cap) l) : RowOf C c W a l := by
  obtain ⟨a', cap', e', _, _, h3⟩ := h.sl hC default
  cases e'
  intro i hi
  obtain ⟨g, e1, _, _, hj⟩ := h3 i hi
  exact ⟨g, 0, e1, fun j hjj => by rw [Nat.zero_add]; exact hj j hjj⟩
/-- Nodes of one's own can be read. -/
theorem OwnN.at {W : World} {B : Nat} {a : Option Addr} {n cap : Nat} {zs : List NdV} (h : OwnN W B (.slice a n cap) zs) (hl : zs.length ≤ 1099511627776) (hk : ∀ z ∈ zs, z.x.terms.length ≤ 1099511627776) : n = zs.length ∧ NdsAt W a cap zs := by
  obtain ⟨h1, h2, h3, h4⟩ := Own.room ndC_len default h.row
  refine ⟨h1, h.row.rows ndC_len, h2, h3, hl, fun z hz => ?_⟩
  have ht := h.terms z hz
  obtain ⟨_, k2, k3, _⟩ := Own.room tmC_len tm0 ht
  exact ⟨rowOf_term (Own.rows tmC_len ht), k2, k3, hk z hz⟩
/-- A list of nodes with where it lies. -/
structure LsV where
  ys : List NdV
  a : Option Addr
  cap : Nat
instance : Inhabited LsV := ⟨⟨[], none, 0⟩⟩
def lsC (y : LsV) : List Value := [.slice y.a y.ys.length y.cap]
theorem lsC_len (y : LsV) : (lsC y).length = 1 := rfl
theorem lsC_one (y : LsV) : ∀ u ∈ lsC y, u.oneCell' = true := by
  intro u hu
  simp only [lsC, List.mem_cons, List.not_mem_nil, or_false] at hu
  subst hu; rfl
theorem infoNodes : (Try.prog.info? 53).map (fun i => (i.zero, i.size, i.bytes)) = some (some (.slice none 0 0), 1, 24) := by kernel_rfl
/-- The nodes that a list of lists says. -/
def LsV.nds (y : LsV) : List Nd := y.ys.map (·.x)
/-- A slice of slices of nodes. -/
structure LssAt (W : World) (a : Option Addr) (cap : Nat) (L : List LsV) : Prop where
  row : RowOf lsC 1 W a L
  nil : a = none → cap = 0
  le : L.length ≤ cap
  few : L.length ≤ 1099511627776
  each : ∀ y ∈ L, NdsAt W y.a y.cap y.ys
theorem LssAt.below {W W' : World} {a : Option Addr} {cap : Nat} {L : List LsV} (h : LssAt W a cap L) (k : Below W.heap.size W W') : LssAt W' a cap L :=
  ⟨h.row.below lsC_len k, h.nil, h.le, h.few, fun y hy => (h.each y hy).below k⟩
theorem LssAt.cell {W : World} {a : Option Addr} {cap : Nat} {L : List LsV} (h : LssAt W a cap L) (k : Nat) (hk : k < L.length) : ∃ b off, a = some ⟨b, off, none⟩ ∧ W.cell? ⟨b, off + k, none⟩ = some (.slice (L.getD k default).a (L.getD k default).ys.length (L.getD k default).cap) := by
  obtain ⟨b, off, e, hj⟩ := h.row k hk
  refine ⟨b, off, e, ?_⟩
  have := hj 0 (by omega)
  simpa [lsC] using this
theorem getD_mem {X : Type} (d : X) {l : List X} {k : Nat} (h : k < l.length) : l.getD k d ∈ l := by
  rw [List.getD_eq_getElem?_getD, List.getElem?_eq_getElem h]; exact List.getElem_mem h
theorem map_getD {X Y : Type} (f : X → Y) (d : X) (z : Y) {l : List X} {k : Nat} (h : k < l.length) : (l.map f).getD k z = f (l.getD k d) := by
  simp [List.getD_eq_getElem?_getD, h]
theorem getD_set {X : Type} (d : X) (l : List X) (k i : Nat) (y : X) (hk : k < l.length) : (l.set k y).getD i d = if i = k then y else l.getD i d := by
  rw [List.getD_eq_getElem?_getD, List.getD_eq_getElem?_getD, List.getElem?_set]
  by_cases e : k = i
  · subst e; simp [hk]
  · rw [if_neg e, if_neg (fun q => e q.symm)]
/-- 'n[k:]'. -/
theorem nds_drop {W : World} {a : Option Addr} {cap : Nat} {ys : List NdV} (h : NdsAt W a cap ys) (k : Nat) (hk : k ≤ ys.length) :
    ∃ a2, (∀ X, (Instr.slice 53 (.slice a ys.length cap) (some (.int .i64 k)) none none).run Try.prog X = .ok (.slice a2 (ys.length - k) (cap - k)) X) ∧ NdsAt W a2 (cap - k) (ys.drop k) := by
  have hle := h.le
  refine ⟨if cap = k then a else a.map (·.add (k * 6)), fun X => ?_, ?_⟩
  · rw [run_slice_l X 53 _ ys.length cap (by kernel_rfl) .i64 k (by omega) (by omega), size_node]
    rfl
  · refine ⟨?_, ?_, by rw [List.length_drop]; omega, by rw [List.length_drop]; have := h.few; omega, fun y hy => h.terms y (List.mem_of_mem_drop hy)⟩
    · by_cases e : cap = k
      · intro i hi
        rw [List.length_drop] at hi; omega
      · rw [if_neg e]
        cases a with
        | none => have := h.nil rfl; omega
        | some ad =>
          intro i hi
          have hi0 : i < ys.length - k := by rw [List.length_drop] at hi; exact hi
          obtain ⟨b, off, e1, _⟩ := h.row 0 (by omega)
          cases e1
          have := h.row.drop k i hi
          rw [Option.map_some, addr_addO]; exact this
    · intro e
      split at e
      · omega
      · cases a with
        | none => have := h.nil rfl; omega
        | some ad => cases e
/-- 'n[:k]'. -/
theorem nds_take {W : World} {a : Option Addr} {cap : Nat} {ys : List NdV} (h : NdsAt W a cap ys) (k : Nat) (hk : k ≤ ys.length) (X : World) :
    (Instr.slice 53 (.slice a ys.length cap) none (some (.int .i64 k)) none).run Try.prog X = .ok (.slice a k cap) X := by
  have hle := h.le
  rw [run_slice_h X 53 a ys.length cap (by kernel_rfl) .i64 k (by omega) (by omega), size_node]
  show Result.ok (sliced a 0 k cap 6) X = _
  unfold sliced
  rw [show a.map (·.add (0 * 6)) = a by cases a <;> simp [Addr.add]]
  simp
end Go.Proofs.Ytjnnjjajlafchaa
