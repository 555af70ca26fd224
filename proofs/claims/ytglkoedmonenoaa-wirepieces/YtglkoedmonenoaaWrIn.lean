/- A frame that came in. -/
import Derived.Test.YtglkoedmonenoaaWrL
import Derived.Deep.Slices
import Derived.Deep.Strs
import Derived.Lib.SmallJoins
import Derived.ProofKit
import Derived.SizedLaws
namespace Go.Proofs.Ytglkoedmonenoaa
open Go.RowKit Go.Deep Go.ChangeShapes Go.WideShapes Go.ChangeAt Go.Joins
set_option linter.unusedVariables false
set_option maxRecDepth 100000

theorem cells_frame : Try.prog.cellsOf 26 = 5 := by kernel_rfl
theorem cells_head : Try.prog.cellsOf 23 = 3 := by kernel_rfl
theorem cells_int : Try.prog.cellsOf 3 = 1 := by kernel_rfl
theorem cells_ints : Try.prog.cellsOf 24 = 1 := by kernel_rfl
theorem cells_string : Try.prog.cellsOf 9 = 1 := by kernel_rfl
theorem array5 {α : Type} {cs : Array α} (h : cs.size = 5) : ∃ c0 c1 c2 c3 c4, cs = #[c0, c1, c2, c3, c4] := by
  obtain ⟨l⟩ := cs
  match l, h with
  | [c0, c1, c2, c3, c4], _ => exact ⟨c0, c1, c2, c3, c4, rfl⟩
/-- A slice of numbers that came in. -/
theorem ints_in {H : Type} {enc : TypeId × Value → H} {W : World} {fuel : Nat} {v : Value} {x : DataW H × List MemPlace} (h : DataW.trod enc Try.prog W 0 (fun _ => true) true fuel 24 [v] = some x) :
    ∃ (zs : List Int) (a : Option Addr) (cap : Nat), v = .slice a zs.length cap ∧ IntRow W a zs ∧ All64 zs ∧ zs.length ≤ cap ∧ cap ≤ maxLen ∧ (a = none → cap = 0) := by
  rcases open_ints Try.underlying24 Try.underlying3 (by kernel_rfl) h with ⟨hcs, _⟩ | ⟨x, l, c, zs, hcs, _, hl, hm, hz, _, hcell, hwz⟩
  · simp at hcs
    exact ⟨[], none, 0, hcs, fun i hi => by simp at hi, fun z hz => by simp at hz, Nat.le_refl _, by unfold maxLen; omega, fun _ => rfl⟩
  · simp at hcs
    have hz : zs.length = c := by simpa using hz
    have hlen : (zs.take l).length = l := by rw [List.length_take]; omega
    refine ⟨zs.take l, some x, c, by rw [hlen]; exact hcs, fun i hi => ?_, fun z hz => bounds_int (hwz z (List.mem_of_mem_take hz)), by omega, hm, fun e => by cases e⟩
    have hi' : i < zs.length := by omega
    have h1 := hcell i hi'
    have hspot : x.spot = none := by simpa [Addr.add] using World.cell?_spot (hcell 0 (by omega))
    obtain ⟨b, off, sp⟩ := x
    simp only at hspot
    subst hspot
    refine ⟨b, off, rfl, ?_⟩
    rw [addr_add] at h1
    have : (zs.take l).getD i 0 = zs.getD i 0 := by
      rw [List.getD_eq_getElem?_getD, List.getD_eq_getElem?_getD, List.getElem?_take_of_lt (by omega)]
    rw [this]; exact h1
theorem text_of (s : ByteArray) : (⟨s.data.toList.toArray⟩ : ByteArray) = s := by cases s; simp
theorem frame_cells {H : Type} {enc : TypeId × Value → H} {W : World} {fuel : Nat} {c0 c1 c2 c3 c4 : Value} {x : DataW H × List MemPlace} (h : DataW.trod enc Try.prog W 0 (fun _ => true) true fuel 26 [c0, c1, c2, c3, c4] = some x) :
    ∃ (f : FrV) (a : Option Addr) (cap : Nat), (∃ y0 y1, x.1 = .agg [y0, y1, .lit (.string f.d)]) ∧ c0 = .int .i64 f.k ∧ c1 = .int .i64 f.fr ∧ c2 = .int .i64 f.t ∧ c3 = .slice a f.zs.length cap ∧ c4 = .string ⟨f.d.toArray⟩ ∧ IntRow W a f.zs ∧ All64 f.zs ∧ (f.zs.length ≤ cap ∧ cap ≤ maxLen) ∧ f.d.length ≤ maxLen ∧ (B64 f.k ∧ B64 f.fr ∧ B64 f.t) := by
  obtain ⟨y0, y1, y2, n, hx, _, h0, h1, h2⟩ := trod_struct3 Try.underlying26 h
  simp [cells_head, cells_ints, cells_string] at h0 h1 h2
  obtain ⟨z0, z1, z2, m, _, _, g0, g1, g2⟩ := trod_struct3 Try.underlying23 h0
  simp [cells_int] at g0 g1 g2
  obtain ⟨k, e0, _, w0⟩ := DataW.trod_int Try.underlying3 g0
  obtain ⟨fr, e1, _, w1⟩ := DataW.trod_int Try.underlying3 g1
  obtain ⟨t, e2, _, w2⟩ := DataW.trod_int Try.underlying3 g2
  obtain ⟨zs, a, cap, e3, q1, q2, q3, q4, _⟩ := ints_in h1
  obtain ⟨s, e4, hy2, hs⟩ := DataW.trod_string Try.underlying9 h2
  simp at e0 e1 e2 e4
  exact ⟨⟨k, fr, t, zs, s.data.toList⟩, a, cap, ⟨y0.1, y1.1, by rw [hx, hy2]⟩, e0, e1, e2, e3, by rw [text_of]; exact e4, q1, q2, ⟨q3, q4⟩, by simpa using hs, bounds_int w0, bounds_int w1, bounds_int w2⟩
theorem open_frame {H : Type} {enc : TypeId × Value → H} {W : World} {r : Reach} {b0 : Nat} {v : Value} {d : DataW H} {p : List MemPlace} (hv : Value.okWide Try.prog W r b0 26 v) (h : DataW.Trod enc Try.prog W 0 (fun _ => true) true 26 v d p) :
    ∃ (f : FrV) (a : Option Addr) (cap : Nat) (y0 y1 : DataW H), d = .agg [y0, y1, .lit (.string f.d)] ∧ v = frOf f (.slice a f.zs.length cap) ∧ IntRow W a f.zs ∧ All64 f.zs ∧ (f.zs.length ≤ cap ∧ cap ≤ maxLen) ∧ f.d.length ≤ maxLen ∧ (B64 f.k ∧ B64 f.fr ∧ B64 f.t) := by
  obtain ⟨cs, rfl, hsz⟩ := okWide_struct Try.underlying26 hv
  obtain ⟨c0, c1, c2, c3, c4, rfl⟩ := array5 (hsz.trans cells_frame)
  obtain ⟨fuel, hf⟩ := h
  obtain ⟨f, a, cap, ⟨y0, y1, hd⟩, rfl, rfl, rfl, rfl, rfl, q⟩ := frame_cells (by simpa [Value.cells] using hf)
  exact ⟨f, a, cap, y0, y1, hd, rfl, q⟩
theorem sized_frame {H : Type} {ts : List TypeId} {ds : List (DataW H)} {j : Nat} {y0 y1 : DataW H} {b : List UInt8} (h : (DataW.weightsEach Try.prog ts ds).all (· ≤ reachBytes) = true) (ht : ts[j]? = some 26) (hd : ds[j]? = some (.agg [y0, y1, .lit (.string b)])) : b.length ≤ 140737488351232 := by
  have := List.all_eq_true.1 h _ (DataW.weights_mem_each ht hd b.length (by simp [DataW.weights, Try.underlying26, DataW.weightsEach]))
  exact of_decide_eq_true this
end Go.Proofs.Ytglkoedmonenoaa
