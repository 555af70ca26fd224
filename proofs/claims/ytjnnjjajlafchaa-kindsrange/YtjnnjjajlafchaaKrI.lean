/- A specification that came in. Conditions: none. -/
import Derived.Test.YtjnnjjajlafchaaNwB
import Derived.Test.YtjnnjjajlafchaaKnIn
import Derived.Test.YtjnnjjajlafchaaNdIn
import Derived.WideShapes
import Derived.ChangeSame
import Derived.Deep.Slices
import Derived.Deep.Strs
import Derived.Lib.SmallJoins
import Derived.ProofKit
namespace Go.Proofs.Ytjnnjjajlafchaa
open Go.RowKit Go.Deep Go.ChangeShapes Go.WideShapes Go.ChangeAt
set_option linter.unusedVariables false
set_option maxRecDepth 100000

theorem array5 {α : Type} {cs : Array α} (h : cs.size = 5) : ∃ c0 c1 c2 c3 c4, cs = #[c0, c1, c2, c3, c4] := by
  obtain ⟨l⟩ := cs
  match l, h with
  | [c0, c1, c2, c3, c4], _ => exact ⟨c0, c1, c2, c3, c4, rfl⟩
theorem cells_prop : Try.prog.cellsOf 78 = 2 := by kernel_rfl
theorem cells_nodes : Try.prog.cellsOf 53 = 1 := by kernel_rfl
theorem cells_sigs : Try.prog.cellsOf 22 = 1 := by kernel_rfl
theorem cells_props : Try.prog.cellsOf 40 = 1 := by kernel_rfl
theorem cells_limits : Try.prog.cellsOf 39 = 2 := by kernel_rfl
theorem cells_spec : Try.prog.cellsOf 42 = 5 := by kernel_rfl
theorem prop_in {H : Type} {enc : TypeId × Value → H} {W : World} (fuel : Nat) (cs : List Value) (x : DataW H × List MemPlace) (hl : cs.length = 2) (h : DataW.trod enc Try.prog W 0 (fun _ => true) true fuel 78 cs = some x) :
    ∃ y : PrV, cs = prC y ∧ PrKnown W y := by
  match cs, hl with
  | [c0, c1], _ =>
    obtain ⟨y0, y1, n, hx, _, h0, h1⟩ := trod_struct2 Try.underlying78 h
    simp [cells_string1, cells_nodes] at h0 h1
    obtain ⟨s0, e0, _, w0⟩ := DataW.trod_string Try.underlying9 h0
    simp at e0
    subst e0
    unfold maxLen at w0
    have hsl : ∃ ta tl tc, c1 = .slice ta tl tc := by
      rcases open_slice Try.underlying53 h1 with ⟨hcs, _⟩ | ⟨ad, l, cp, _, _, _, _, hcs, _⟩
      · simp at hcs; exact ⟨_, _, _, hcs⟩
      · simp at hcs; exact ⟨_, _, _, hcs⟩
    obtain ⟨ta, tl, tc, rfl⟩ := hsl
    obtain ⟨ys, k1, k2, k3, k4, k5, k6⟩ := open_rows ndC _ (by omega) Try.underlying53 cells_node node_in h1
    subst k1
    unfold maxLen at k5
    exact ⟨⟨s0, ta, tc, ys⟩, rfl, by simpa using w0, k2, k6, k4, trivial, by show ys.length ≤ _; omega, fun y hy => ⟨k3 y hy, trivial⟩⟩
theorem open_props {H : Type} {enc : TypeId × Value → H} {W : World} {fuel : Nat} {a : Option Addr} {len cap : Nat} {x : DataW H × List MemPlace} (h : DataW.trod enc Try.prog W 0 (fun _ => true) true fuel 40 [.slice a len cap] = some x) :
    ∃ l : List PrV, l.length = len ∧ RowOf prC 2 W a l ∧ (∀ y ∈ l, PrKnown W y) ∧ len ≤ 9223372036854775807 := by
  obtain ⟨l, h1, h2, h3, h4, h5, h6⟩ := open_rows prC _ (by omega) Try.underlying40 cells_prop prop_in h
  unfold maxLen at h5
  exact ⟨l, h1, h2, h3, by omega⟩
theorem open_spec {H : Type} {enc : TypeId × Value → H} {W : World} {r : Reach} {b0 : Nat} {v : Value} {d : DataW H} {p : List MemPlace} (hv : Value.okWide Try.prog W r b0 42 v) (h : DataW.Trod enc Try.prog W 0 (fun _ => true) true 42 v d p) :
    ∃ (nm : ByteArray) (c s : Int) (a : Option Addr) (cap : Nat) (l : List Sig) (pa : Option Addr) (pc : Nat) (ps : List PrV), v = .agg #[.string nm, .int .i64 c, .int .i64 s, .slice a l.length cap, .slice pa ps.length pc] ∧
      SigRow W a l ∧ (∀ y ∈ l, y.name.size ≤ 9223372036854775807 ∧ y.unit.size ≤ 9223372036854775807 ∧ B64 y.lo ∧ B64 y.hi) ∧ l.length ≤ 9223372036854775807 ∧ RowOf prC 2 W pa ps ∧ (∀ y ∈ ps, PrKnown W y) ∧ ps.length ≤ 9223372036854775807 := by
  obtain ⟨cs, rfl, hsz⟩ := okWide_struct Try.underlying42 hv
  obtain ⟨c0, c1, c2, c3, c4, rfl⟩ := array5 (hsz.trans cells_spec)
  obtain ⟨fuel, hf⟩ := h
  have h' : DataW.trod enc Try.prog W 0 (fun _ => true) true fuel 42 [c0, c1, c2, c3, c4] = some (d, p) := by simpa [Value.cells] using hf
  obtain ⟨xs, n, hx, hxy, hlen, hxl, hfl⟩ := DataW.trod_struct Try.underlying42 h'
  match xs, hxl with
  | [y0, y1, y2, y3], _ =>
    have g0 := hfl 0 _ rfl
    have g1 := hfl 1 _ rfl
    have g2 := hfl 2 _ rfl
    have g3 := hfl 3 _ rfl
    simp [cells_string1, cells_limits, cells_sigs, cells_props] at g0 g1 g2 g3
    obtain ⟨z0, z1, m, _, _, q0, q1⟩ := trod_struct2 Try.underlying39 g1
    simp [cells_int1] at q0 q1
    obtain ⟨nm, e0, _, w0⟩ := DataW.trod_string Try.underlying9 g0
    obtain ⟨c, e1, _, w1⟩ := DataW.trod_int Try.underlying3 q0
    obtain ⟨s, e2, _, w2⟩ := DataW.trod_int Try.underlying3 q1
    simp at e0 e1 e2
    subst e0 e1 e2
    have hs3 : ∃ ta tl tc, c3 = .slice ta tl tc := by
      rcases open_slice Try.underlying22 g2 with ⟨hcs, _⟩ | ⟨ad, l, cp, _, _, _, _, hcs, _⟩
      · simp at hcs; exact ⟨_, _, _, hcs⟩
      · simp at hcs; exact ⟨_, _, _, hcs⟩
    have hs4 : ∃ ta tl tc, c4 = .slice ta tl tc := by
      rcases open_slice Try.underlying40 g3 with ⟨hcs, _⟩ | ⟨ad, l, cp, _, _, _, _, hcs, _⟩
      · simp at hcs; exact ⟨_, _, _, hcs⟩
      · simp at hcs; exact ⟨_, _, _, hcs⟩
    obtain ⟨a, al, ac, rfl⟩ := hs3
    obtain ⟨pa, pl, pc, rfl⟩ := hs4
    obtain ⟨l, k1, k2, k3, k4, k5, _⟩ := open_sigs g2
    obtain ⟨ps, j1, j2, j3, j4⟩ := open_props g3
    subst k1 j1
    exact ⟨nm, c, s, a, ac, l, pa, pc, ps, rfl, k2, k3, k5, j2, j3, j4⟩
end Go.Proofs.Ytjnnjjajlafchaa
