/- A slice of the law's Ops that came in: their numbers, their lists. -/
import Derived.Test.YtgdijnmanhglnaaRingI
import Derived.Deep.Slices
import Derived.ProofKit
namespace Go.Proofs.Ytgdijnmanhglnaa
open Go.RowKit Go.Deep Go.ChangeShapes Go.WideShapes Go.ChangeAt
set_option linter.unusedVariables false
set_option maxRecDepth 100000

/-- One Op: its kind, its number, its list (a slice). -/
structure OpV where
  kind : Int
  n : Int
  a : Option Addr
  len : Nat
  cap : Nat
  zs : List Int
instance : Inhabited OpV := ⟨⟨0, 0, none, 0, 0, []⟩⟩
def OpV.l (o : OpV) : List Int := o.zs.take o.len
/-- What the walk is told of a slice of Ops that came in. -/
def OpRow (w : World) (a : Option Addr) (os : List OpV) : Prop := ∀ i, i < os.length → ∃ b off, a = some ⟨b, off, none⟩ ∧ w.cell? ⟨b, off + i * 3, none⟩ = some (.int .i64 (os.getD i default).kind) ∧ w.cell? ⟨b, off + i * 3 + 1, none⟩ = some (.int .i64 (os.getD i default).n) ∧ w.cell? ⟨b, off + i * 3 + 2, none⟩ = some (.slice (os.getD i default).a (os.getD i default).len (os.getD i default).cap) ∧ IsInts w (os.getD i default).a (os.getD i default).len (os.getD i default).cap (os.getD i default).zs
theorem OpRow.below {w w' : World} {a : Option Addr} {os : List OpV} (h : OpRow w a os) (k : Below w.heap.size w w') (i : Nat) (hi : i < os.length) : ∃ b off, a = some ⟨b, off, none⟩ ∧ w'.cell? ⟨b, off + i * 3, none⟩ = some (.int .i64 (os.getD i default).kind) ∧ w'.cell? ⟨b, off + i * 3 + 1, none⟩ = some (.int .i64 (os.getD i default).n) ∧ w'.cell? ⟨b, off + i * 3 + 2, none⟩ = some (.slice (os.getD i default).a (os.getD i default).len (os.getD i default).cap) := by
  obtain ⟨b, off, e, h1, h2, h3, _⟩ := h i hi
  have m : Mod [] w w' := Mod.of_below k
  exact ⟨b, off, e, m.cell h1 (by simp), m.cell h2 (by simp), m.cell h3 (by simp)⟩
theorem cells_op : Try.prog.cellsOf 36 = 3 := by kernel_rfl
theorem cells_int : Try.prog.cellsOf 3 = 1 := by kernel_rfl
theorem cells_ints : Try.prog.cellsOf 32 = 1 := by kernel_rfl
theorem ints_of {H : Type} {enc : TypeId × Value → H} {W : World} {fuel : Nat} {v : Value} {x : DataW H × List MemPlace} (h : DataW.trod enc Try.prog W 0 (fun _ => true) true fuel 32 [v] = some x) :
    ∃ a len cap zs, v = .slice a len cap ∧ IsInts W a len cap zs := by
  rcases open_ints Try.underlying32 Try.underlying3 (by kernel_rfl) h with ⟨hcs, _⟩ | ⟨x, l, c, zs, hcs, _, hl, hm, hz, _, hcell, hwz⟩
  · simp at hcs
    exact ⟨none, 0, 0, [], hcs, .inl ⟨rfl, rfl, rfl, rfl⟩⟩
  · simp at hcs
    exact ⟨_, l, c, zs, hcs, .inr ⟨_, rfl, hl, hm, by simpa using hz, hcell, hwz⟩⟩
theorem open_ops {H : Type} {enc : TypeId × Value → H} {W : World} {fuel : Nat} {a : Option Addr} {len cap : Nat} {x : DataW H × List MemPlace} (h : DataW.trod enc Try.prog W 0 (fun _ => true) true fuel 22 [.slice a len cap] = some x) :
    ∃ os : List OpV, os.length = len ∧ OpRow W a os ∧ len ≤ 9223372036854775807 := by
  rcases open_slice Try.underlying22 h with ⟨hcs, _⟩ | ⟨ad, l, c, m, n, D, Pl, hcs, _, hl, hm, hmm, _, hx⟩
  · simp at hcs
    obtain ⟨rfl, rfl, rfl⟩ := hcs
    exact ⟨[], rfl, fun i hi => by simp at hi, by omega⟩
  · simp at hcs
    obtain ⟨rfl, rfl, rfl⟩ := hcs
    unfold maxLen at hm
    simp only [if_true] at hmm
    subst hmm
    have each : ∀ i, i < len → ∃ o : OpV, W.cell? (ad.add (i * 3)) = some (.int .i64 o.kind) ∧ W.cell? (ad.add (i * 3 + 1)) = some (.int .i64 o.n) ∧ W.cell? (ad.add (i * 3 + 2)) = some (.slice o.a o.len o.cap) ∧ IsInts W o.a o.len o.cap o.zs := by
      intro i hi
      obtain ⟨cs', h1, h2⟩ := hx i (by omega)
      rw [cells_op] at h1
      obtain ⟨_, hlen, hcell⟩ := World.cells?_some h1
      obtain ⟨xs, k, hk, hxy, _, hxl, hf⟩ := DataW.trod_struct Try.underlying36 h2
      match xs, hxl, cs', hlen with
      | [y0, y1, y2], _, [v0, v1, v2], _ =>
        have g0 := hf 0 _ rfl
        have g1 := hf 1 _ rfl
        have g2 := hf 2 _ rfl
        simp [cells_int, cells_ints] at g0 g1 g2
        have e0 := hcell 0 (by omega)
        have e1 := hcell 1 (by omega)
        have e2 := hcell 2 (by omega)
        rw [add_add] at e0 e1 e2
        obtain ⟨z0, q0, _, _⟩ := DataW.trod_int Try.underlying3 g0
        obtain ⟨z1, q1, _, _⟩ := DataW.trod_int Try.underlying3 g1
        obtain ⟨a2, l2, c2, zs2, q2, hi2⟩ := ints_of g2
        simp at q0 q1
        subst q0 q1 q2
        exact ⟨⟨z0, z1, a2, l2, c2, zs2⟩, by simpa using e0, by simpa using e1, by simpa using e2, hi2⟩
    obtain ⟨q, hq⟩ := choose_lt each
    refine ⟨(List.range len).map q, by simp, ?_, by omega⟩
    intro i hi
    have hi' : i < len := by simpa using hi
    have hd : ((List.range len).map q).getD i default = q i := by simp [List.getD_eq_getElem?_getD, hi']
    rw [hd]
    obtain ⟨c1, c2, c3, c4⟩ := hq i hi'
    have hspot : ad.spot = none := by simpa [Addr.add] using World.cell?_spot (hq 0 (by omega)).1
    obtain ⟨b, off, sp⟩ := ad
    simp only at hspot
    subst hspot
    rw [addr_add] at c1 c2 c3
    exact ⟨b, off, rfl, c1, by rw [Nat.add_assoc]; exact c2, by rw [Nat.add_assoc]; exact c3, c4⟩
end Go.Proofs.Ytgdijnmanhglnaa
