/- A slice of nodes that came in. -/
import Derived.Test.YtipbjoeekbgnbaaBz5
import Derived.Test.YtipbjoeekbgnbaaKnIn
namespace Go.Proofs.Ytipbjoeekbgnbaa
open Go.RowKit Go.Deep Go.ChangeShapes Go.WideShapes Go.ChangeAt
set_option linter.unusedVariables false
set_option maxRecDepth 100000

instance : Inhabited Tm := ⟨tm0⟩
/-- A node with where its terms lie. -/
structure NdV where
  x : Nd
  ta : Option Addr
  tc : Nat
instance : Inhabited NdV := ⟨⟨nd0, none, 0⟩⟩
def tmC (t : Tm) : List Value := [.string t.name, .int .i64 t.times]
def ndC (y : NdV) : List Value := [.int .i64 y.x.op, .int .i64 y.x.n, .int .i64 y.x.fr, .int .i64 y.x.to, .slice y.ta y.x.terms.length y.tc, .int .i64 y.x.num]
theorem cells_term : Try.prog.cellsOf 36 = 2 := by kernel_rfl
theorem cells_node : Try.prog.cellsOf 24 = 6 := by kernel_rfl
theorem cells_terms : Try.prog.cellsOf 22 = 1 := by kernel_rfl
theorem b64_of {z : Int} (h : (Lit.int .i64 z).wf = true) : B64 z := by
  unfold B64; simpa [Lit.wf, IntKind.min, IntKind.max, IntKind.bits, IntKind.signed] using h
theorem term_in {H : Type} {enc : TypeId × Value → H} {W : World} (fuel : Nat) (cs : List Value) (x : DataW H × List MemPlace) (hl : cs.length = 2) (h : DataW.trod enc Try.prog W 0 (fun _ => true) true fuel 36 cs = some x) :
    ∃ y : Tm, cs = tmC y ∧ (y.name.size ≤ 9223372036854775807 ∧ B64 y.times) := by
  match cs, hl with
  | [c0, c1], _ =>
    obtain ⟨y0, y1, n, hx, _, h0, h1⟩ := trod_struct2 Try.underlying36 h
    simp [cells_string1, cells_int1] at h0 h1
    obtain ⟨s0, e0, _, w0⟩ := DataW.trod_string Try.underlying9 h0
    obtain ⟨t, e1, _, w1⟩ := DataW.trod_int Try.underlying3 h1
    simp at e0 e1
    subst e0 e1
    unfold maxLen at w0
    exact ⟨⟨s0, t⟩, rfl, by simpa using w0, b64_of w1⟩
/-- What is known of a node that came in. -/
def NdKnown (W : World) (y : NdV) : Prop := TermRow W y.ta y.x.terms ∧ NamesFit y.x.terms ∧ TimesFit y.x.terms ∧ (y.x.terms.length ≤ y.tc ∧ y.tc ≤ 9223372036854775807 ∧ (y.ta = none → y.tc = 0)) ∧ B64 y.x.op ∧ B64 y.x.n ∧ B64 y.x.fr ∧ B64 y.x.to ∧ B64 y.x.num
theorem node_in {H : Type} {enc : TypeId × Value → H} {W : World} (fuel : Nat) (cs : List Value) (x : DataW H × List MemPlace) (hl : cs.length = 6) (h : DataW.trod enc Try.prog W 0 (fun _ => true) true fuel 24 cs = some x) :
    ∃ y : NdV, cs = ndC y ∧ NdKnown W y := by
  match cs, hl with
  | [c0, c1, c2, c3, c4, c5], _ =>
    obtain ⟨xs, n, hx, hxy, hlen, hxl, hf⟩ := DataW.trod_struct Try.underlying24 h
    match xs, hxl with
    | [y0, y1, y2, y3, y4, y5], _ =>
      have g0 := hf 0 _ rfl
      have g1 := hf 1 _ rfl
      have g2 := hf 2 _ rfl
      have g3 := hf 3 _ rfl
      have g4 := hf 4 _ rfl
      have g5 := hf 5 _ rfl
      simp [cells_int1, cells_terms] at g0 g1 g2 g3 g4 g5
      obtain ⟨op, e0, _, w0⟩ := DataW.trod_int Try.underlying3 g0
      obtain ⟨nn, e1, _, w1⟩ := DataW.trod_int Try.underlying3 g1
      obtain ⟨fr, e2, _, w2⟩ := DataW.trod_int Try.underlying3 g2
      obtain ⟨to, e3, _, w3⟩ := DataW.trod_int Try.underlying3 g3
      obtain ⟨num, e5, _, w5⟩ := DataW.trod_int Try.underlying3 g5
      have hsl : ∃ ta tl tc, c4 = .slice ta tl tc := by
        rcases open_slice Try.underlying22 g4 with ⟨hcs, _⟩ | ⟨ad, l, cp, _, _, _, _, hcs, _⟩
        · simp at hcs; exact ⟨_, _, _, hcs⟩
        · simp at hcs; exact ⟨_, _, _, hcs⟩
      obtain ⟨ta, tl, tc, rfl⟩ := hsl
      obtain ⟨ts, k1, k2, k3, k4, k5, k6⟩ := open_rows tmC _ (by omega) Try.underlying22 cells_term term_in g4
      subst k1
      simp at e0 e1 e2 e3 e5
      subst e0 e1 e2 e3 e5
      unfold maxLen at k5
      refine ⟨⟨⟨op, nn, fr, to, ts, num⟩, ta, tc⟩, rfl, fun i hi => ?_, fun t ht => (k3 t ht).1, fun t ht => (k3 t ht).2, ⟨k4, k5, k6⟩, b64_of w0, b64_of w1, b64_of w2, b64_of w3, b64_of w5⟩
      obtain ⟨b, off, e, hj⟩ := k2 i hi
      refine ⟨b, off, e, ?_, ?_⟩
      · have := hj 0 (by omega); rw [show (default : Tm) = tm0 from rfl] at this; simpa [tmC] using this
      · have := hj 1 (by omega); rw [show (default : Tm) = tm0 from rfl] at this; simpa [tmC] using this
/-- What is known of the nodes that came in. -/
def NodesKnown (l : List Nd) : Prop := NodesFit l ∧ (∀ x ∈ l, TimesFit x.terms ∧ B64 x.op ∧ B64 x.n ∧ B64 x.fr ∧ B64 x.to ∧ B64 x.num)
theorem open_nodes {H : Type} {enc : TypeId × Value → H} {W : World} {fuel : Nat} {a : Option Addr} {len cap : Nat} {x : DataW H × List MemPlace} (h : DataW.trod enc Try.prog W 0 (fun _ => true) true fuel 28 [.slice a len cap] = some x) :
    ∃ l : List Nd, l.length = len ∧ NodeRow W a l ∧ NodesKnown l ∧ len ≤ cap ∧ (len ≤ 9223372036854775807 ∧ (a = none → cap = 0)) := by
  obtain ⟨l, h1, h2, h3, h4, h5, h6⟩ := open_rows ndC _ (by omega) Try.underlying28 cells_node node_in h
  unfold maxLen at h5
  refine ⟨l.map (·.x), by simpa using h1, fun i hi => ?_, ⟨fun y hy => ?_, fun y hy => ?_⟩, h4, by omega, h6⟩
  · have hi' : i < l.length := by simpa using hi
    obtain ⟨b, off, e, hj⟩ := h2 i hi'
    have hd : (l.map (·.x)).getD i nd0 = (l.getD i default).x := by simp [List.getD_eq_getElem?_getD, hi']
    rw [hd]
    have hk := h3 (l.getD i default) (by rw [List.getD_eq_getElem?_getD, List.getElem?_eq_getElem hi']; exact List.getElem_mem hi')
    refine ⟨b, off, e, ?_, ?_, ?_, ?_, ⟨(l.getD i default).ta, (l.getD i default).tc, ?_, hk.1⟩, ?_⟩
    · have := hj 0 (by omega); simpa [ndC] using this
    · have := hj 1 (by omega); simpa [ndC] using this
    · have := hj 2 (by omega); simpa [ndC] using this
    · have := hj 3 (by omega); simpa [ndC] using this
    · have := hj 4 (by omega); simpa [ndC] using this
    · have := hj 5 (by omega); simpa [ndC] using this
  · simp only [List.mem_map] at hy
    obtain ⟨z, hz, rfl⟩ := hy
    obtain ⟨_, k2, _, ⟨k4, k5, _⟩, _, k6, _⟩ := h3 z hz
    exact ⟨k2, by omega, k6.2⟩
  · simp only [List.mem_map] at hy
    obtain ⟨z, hz, rfl⟩ := hy
    obtain ⟨_, _, k3, _, q⟩ := h3 z hz
    exact ⟨k3, q⟩
end Go.Proofs.Ytipbjoeekbgnbaa
