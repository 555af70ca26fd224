/- Two Accs of the law's own: nothing that was there has turned but their two blocks. -/
import Derived.Test.YthnhlgiibiephabSpanG
namespace Go.Proofs.Ythnhlgiibiephab
open Go.RowKit
set_option linter.unusedVariables false
set_option maxRecDepth 100000

structure Kept2 (b c : Nat) (W W' : World) : Prop where
  os : W'.os = W.os
  tape : W'.tape = W.tape
  output : W'.output = W.output
  size : W.heap.size ≤ W'.heap.size
  block : ∀ k, k < W.heap.size → k ≠ b → k ≠ c → W'.heap[k]? = W.heap[k]?
theorem Kept2.refl (b c : Nat) (W : World) : Kept2 b c W W := ⟨rfl, rfl, rfl, Nat.le_refl _, fun _ _ _ _ => rfl⟩
theorem Kept2.drew (b c : Nat) (W : World) : Kept2 b c W W.drew := ⟨rfl, rfl, rfl, Nat.le_refl _, fun _ _ _ _ => rfl⟩
theorem Kept2.left {b c : Nat} {x y z : World} (h : Kept2 b c x y) (k : Kept b y z) : Kept2 b c x z :=
  ⟨k.os.trans h.os, k.tape.trans h.tape, k.output.trans h.output, Nat.le_trans h.size k.size, fun i hi hb hc => (k.block i (Nat.lt_of_lt_of_le hi h.size) hb).trans (h.block i hi hb hc)⟩
theorem Kept2.right {b c : Nat} {x y z : World} (h : Kept2 b c x y) (k : Kept c y z) : Kept2 b c x z :=
  ⟨k.os.trans h.os, k.tape.trans h.tape, k.output.trans h.output, Nat.le_trans h.size k.size, fun i hi hb hc => (k.block i (Nat.lt_of_lt_of_le hi h.size) hc).trans (h.block i hi hb hc)⟩
theorem Kept2.below {b c : Nat} {x y z : World} (h : Kept2 b c x y) (k : Below y.heap.size y z) : Kept2 b c x z :=
  ⟨k.os.trans h.os, k.tape.trans h.tape, k.output.trans h.output, Nat.le_trans h.size k.size, fun i hi hb hc => (k.block i (Nat.lt_of_lt_of_le hi h.size)).trans (h.block i hi hb hc)⟩
theorem Kept2.cell {b c : Nat} {x y : World} (h : Kept2 b c x y) {g i : Nat} {v : Value} (hv : x.cell? ⟨g, i, none⟩ = some v) (hg : g ≠ b) (hg2 : g ≠ c) : y.cell? ⟨g, i, none⟩ = some v := by
  have hlt : g < x.heap.size := World.block_lt_of_cell? x ⟨g, i, none⟩ hv
  rw [World.cell?_of_block (w := x) (a := ⟨g, i, none⟩) (h.block g hlt hg hg2)]; exact hv
theorem IntRow.kept {w w' : World} {a : Option Addr} {zs : List Int} {v : Nat} (h : IntRow w a zs) (k : Kept v w w') (ha : ∀ x, a = some x → x.block ≠ v) : IntRow w' a zs := by
  intro i hi
  obtain ⟨b, off, rfl, hc⟩ := h i hi
  exact ⟨b, off, rfl, k.cell hc (ha _ rfl)⟩
/-- A row of two ints that was just laid. -/
theorem row_ints (W : World) (a b : Int) (g : Nat) (hg : g = W.heap.size) : IntRow (W.alloc (.cells #[.int .i64 a, .int .i64 b] 3)) (some ⟨g, 0, none⟩) [a, b] := by
  subst hg
  intro i hi
  refine ⟨W.heap.size, 0, rfl, ?_⟩
  match i, hi with
  | 0, _ => simp
  | 1, _ => simp
theorem blk_ne {g v : Nat} (h : g ≠ v) : ∀ x : Addr, some (⟨g, 0, none⟩ : Addr) = some x → x.block ≠ v := fun x hx => by cases hx; exact h
/-- Plus of a row of two spans, wherever it lies. -/
theorem plus_at {w W : World} {v : Nat} {o : Bool} (L : Live w v W o) (a b c d : Int) (h1 : a ≤ b) (h2 : c ≤ d) (ha : B64 a) (hb : B64 b) (hc : B64 c) (hd : B64 d) (g : Nat) (hr : SpanRow W (some ⟨g, 0, none⟩) [(a, b), (c, d)]) (hg : g ≠ v) :
    Calls Try.prog 14 #[.pointer (some ⟨v, 0, none⟩), .slice (some ⟨g, 0, none⟩) 2 2] W (SpanSays w v o W (clampF (a + c)) (clampF (b + d)) (overF (a + c) || overF (b + d))) := by
  have t := splus_some L (some ⟨g, 0, none⟩) [(a, b), (c, d)] 2 hr (blk_ne hg)
    ⟨fun x hx => by simp at hx; rcases hx with rfl | rfl; exact ha; exact hc, fun x hx => by simp at hx; rcases hx with rfl | rfl; exact hb; exact hd⟩ (by simp) (by simp [anyE]; omega)
  have e1 : sumL ([(a, b), (c, d)].map Prod.fst) = a + c := by simp [sumL]
  have e2 : sumL ([(a, b), (c, d)].map Prod.snd) = b + d := by simp [sumL]
  rw [e1, e2] at t
  exact t
theorem plus_at_none {w W : World} {v : Nat} {o : Bool} (L : Live w v W o) (a b c d : Int) (h : b < a ∨ d < c) (g : Nat) (hr : SpanRow W (some ⟨g, 0, none⟩) [(a, b), (c, d)]) :
    Calls Try.prog 14 #[.pointer (some ⟨v, 0, none⟩), .slice (some ⟨g, 0, none⟩) 2 2] W (SpanSays w v o W 0 (-1) false) :=
  splus_none L (some ⟨g, 0, none⟩) [(a, b), (c, d)] 2 hr (by simp) (by simp [anyE]; omega)
theorem plus_at1 {w W : World} {v : Nat} {o : Bool} (L : Live w v W o) (a b : Int) (h1 : a ≤ b) (ha : B64 a) (hb : B64 b) (g : Nat) (hr : SpanRow W (some ⟨g, 0, none⟩) [(a, b)]) (hg : g ≠ v) :
    Calls Try.prog 14 #[.pointer (some ⟨v, 0, none⟩), .slice (some ⟨g, 0, none⟩) 1 1] W (SpanSays w v o W (clampF a) (clampF b) (overF a || overF b)) := by
  have t := splus_some L (some ⟨g, 0, none⟩) [(a, b)] 1 hr (blk_ne hg)
    ⟨fun x hx => by simp at hx; rcases hx with rfl; exact ha, fun x hx => by simp at hx; rcases hx with rfl; exact hb⟩ (by simp) (by simp [anyE]; omega)
  have e1 : sumL ([(a, b)].map Prod.fst) = a := by simp [sumL]
  have e2 : sumL ([(a, b)].map Prod.snd) = b := by simp [sumL]
  rw [e1, e2] at t
  exact t
/-- Add of a row of two ints, wherever it lies. -/
theorem add_at {w W : World} {v : Nat} {o : Bool} (L : Live w v W o) (x y : Int) (hx : B64 x) (hy : B64 y) (g : Nat) (hr : IntRow W (some ⟨g, 0, none⟩) [x, y]) :
    Calls Try.prog 19 #[.pointer (some ⟨v, 0, none⟩), .slice (some ⟨g, 0, none⟩) 2 2] W (Says w v o W (x + y)) := by
  have e : sumL [x, y] = x + y := by simp [sumL]
  rw [← e]
  refine add_live L (some ⟨g, 0, none⟩) [x, y] 2 hr ?_ (by simp)
  intro z hz; simp at hz; rcases hz with rfl | rfl; exact hx; exact hy
end Go.Proofs.Ythnhlgiibiephab
