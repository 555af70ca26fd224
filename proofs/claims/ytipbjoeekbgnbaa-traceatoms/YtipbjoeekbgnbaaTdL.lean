/- Chapter 9's alive answers true. Conditions: none. -/
import Derived.Test.YtipbjoeekbgnbaaTdK
namespace Go.Proofs.Ytipbjoeekbgnbaa
open Go.RowKit
set_option linter.unusedVariables false
set_option maxRecDepth 100000

/-- The four rows in memory. -/
structure Rows9 (X : World) (p q u v rs : Nat) : Prop where
  a0 : X.cell? ⟨p, 0, none⟩ = some (.int .i64 0)
  a1 : X.cell? ⟨q, 0, none⟩ = some (.int .i64 4294967296)
  a2 : X.cell? ⟨u, 0, none⟩ = some (.int .i64 8589934592)
  a3 : X.cell? ⟨v, 0, none⟩ = some (.int .i64 12884901888)
  b0 : X.cell? ⟨rs, 0, none⟩ = some (.slice (some ⟨p, 0, none⟩) 1 1)
  b1 : X.cell? ⟨rs, 1, none⟩ = some (.slice (some ⟨q, 0, none⟩) 1 1)
  b2 : X.cell? ⟨rs, 2, none⟩ = some (.slice (some ⟨u, 0, none⟩) 1 1)
  b3 : X.cell? ⟨rs, 3, none⟩ = some (.slice (some ⟨v, 0, none⟩) 1 1)
theorem Rows9.below {X Y : World} {p q u v rs : Nat} (h : Rows9 X p q u v rs) (k : Below X.heap.size X Y) : Rows9 Y p q u v rs :=
  ⟨cell_up k h.a0, cell_up k h.a1, cell_up k h.a2, cell_up k h.a3, cell_up k h.b0, cell_up k h.b1, cell_up k h.b2, cell_up k h.b3⟩
theorem irow_one {X : World} {r : Nat} {z : Int} (h : X.cell? ⟨r, 0, none⟩ = some (.int .i64 z)) : IRow X (some ⟨r, 0, none⟩) [z] := fun i hi => by
  obtain rfl : i = 0 := by simpa using hi
  exact ⟨r, 0, rfl, by simpa using h⟩
theorem Rows9.ro {X : World} {p q u v rs : Nat} (h : Rows9 X p q u v rs) : RoRow X (some ⟨rs, 0, none⟩) (rows9 (r4 p q u v)) := fun i hi => by
  have : i = 0 ∨ i = 1 ∨ i = 2 ∨ i = 3 := by simp [rows9] at hi; omega
  rcases this with rfl | rfl | rfl | rfl
  · exact ⟨rs, 0, rfl, h.b0, irow_one h.a0⟩
  · exact ⟨rs, 0, rfl, h.b1, irow_one h.a1⟩
  · exact ⟨rs, 0, rfl, h.b2, irow_one h.a2⟩
  · exact ⟨rs, 0, rfl, h.b3, irow_one h.a3⟩
theorem rows9_b64 (r : Nat → Nat) : ∀ x ∈ rows9 r, ∀ z ∈ x.zs, B64 z := fun x hx z hz => by
  simp only [rows9, List.mem_cons, List.mem_nil_iff, or_false] at hx
  rcases hx with rfl | rfl | rfl | rfl <;> (simp only [row9, List.mem_cons, List.mem_nil_iff, or_false] at hz; subst hz; unfold B64; omega)
theorem once_calls (X : World) (t p q u v rs nd nm : Nat) (h : Rows9 X p q u v rs) (t0 : X.cell? ⟨t, 0, none⟩ = some (.string bsA)) (t1 : X.cell? ⟨t, 1, none⟩ = some (.int .i64 4294967296)) (n0 : X.cell? ⟨nm, 0, none⟩ = some (.string bsA)) (hy : ∀ j, j < 6 → X.cell? ⟨nd, j, none⟩ = (ndC yOnce)[j]?) (hz : ∀ j, j < 6 → X.cell? ⟨nd, 6 + j, none⟩ = (ndC (yAt t))[j]?) :
    Calls Try.prog 9 #[.slice (some ⟨nd, 0, none⟩) 2 2, .slice (some ⟨nm, 0, none⟩) 1 1, .slice (some ⟨rs, 0, none⟩) 4 4, .int .i64 3] X fun e W' => e = .returned (.tuple #[.int .i64 1, .int .i64 0]) ∧ Below X.heap.size X W' ∧ Rows9 W' p q u v rs := by
  have ht : TmsAt X (yAt t) := ⟨fun i hi => by
    obtain rfl : i = 0 := by simpa [yAt, xAt] using hi
    exact ⟨t, 0, rfl, by simpa [yAt, xAt] using t0, by simpa [yAt, xAt] using t1⟩, fun e => (by cases e), Nat.le_refl _, by show 1 ≤ _; omega⟩
  have := holds_good9 (some ⟨nd, 0, none⟩) 2 yOnce (Fo.cons (yAt t) .nil .nil) (some ⟨nm, 0, none⟩) 1 [bsA] (some ⟨rs, 0, none⟩) 4 (rows9 (r4 p q u v)) 3 X (nds_two (by omega) hy hz (tms_none X xOnce rfl) ht)
    (fun x hx => by
      simp only [Fo.flat, List.map_cons, List.map_nil, List.append_nil, List.mem_cons, List.mem_nil_iff, or_false] at hx
      rcases hx with rfl | rfl
      · exact ⟨fun z hz => (by cases hz), by decide, by decide⟩
      · refine ⟨fun z hz => ?_, by show 1 ≤ 9223372036854775807; omega, by show (0 : Int) ≤ 9223372036854775807; omega⟩
        obtain rfl : z = ⟨bsA, 4294967296⟩ := by simpa [yAt, xAt] using hz
        show bsA.size ≤ 9223372036854775807
        decide)
    (good_once t) ⟨fun i hi => by
      obtain rfl : i = 0 := by simpa using hi
      exact ⟨nm, 0, rfl, by simpa using n0⟩, fun s hs => by
      obtain rfl : s = bsA := by simpa using hs
      decide, h.ro, rows9_b64 _, by simp, by simp [rows9]⟩ (fault_once t) (by simp [rows9]) (by simp [rows9]) (by unfold maxLen; omega)
  refine this.mono ?_
  rintro e W' ⟨rfl, hb⟩
  exact ⟨by rw [show (3 + 1 : Nat) = 4 from rfl, verd_once], hb, h.below hb⟩
theorem verd_prev3 (rows : List RwV) : verd [] rows yPrev (Fo.cons yTrue .nil .nil) 3 = [0, 1, 1] := by
  apply List.ext_getElem
  · simp [verd]
  · intro i h1 h2
    have hi : i < 3 := by simpa [verd] using h1
    have e := verd_prev rows i hi
    rw [List.getD_eq_getElem?_getD, List.getElem?_eq_getElem h1] at e
    have : i = 0 ∨ i = 1 ∨ i = 2 := by omega
    rcases this with rfl | rfl | rfl <;> simpa using e
theorem prev_calls (X : World) (p q u v rs nd : Nat) (h : Rows9 X p q u v rs) (hy : ∀ j, j < 6 → X.cell? ⟨nd, j, none⟩ = (ndC yPrev)[j]?) (hz : ∀ j, j < 6 → X.cell? ⟨nd, 6 + j, none⟩ = (ndC yTrue)[j]?) :
    Calls Try.prog 10 #[.slice (some ⟨nd, 0, none⟩) 2 2, .slice none 0 0, .slice (some ⟨rs, 0, none⟩) 3 4] X (AllTells X [0, 1, 1]) := by
  have := all_good9 (some ⟨nd, 0, none⟩) 2 yPrev (Fo.cons yTrue .nil .nil) none 0 [] (some ⟨rs, 0, none⟩) 4 ((rows9 (r4 p q u v)).take 3) X (nds_two (by omega) hy hz (tms_none X xPrev rfl) (tms_none X _ rfl))
    (fun x hx => by
      simp only [Fo.flat, List.map_cons, List.map_nil, List.append_nil, List.mem_cons, List.mem_nil_iff, or_false] at hx
      rcases hx with rfl | rfl <;> exact ⟨fun z hz => (by cases hz), by decide, by decide⟩)
    good_prev ⟨fun i hi => by simp at hi, fun s hs => (by cases hs), h.ro.take 3 (by simp [rows9]), fun x hx => rows9_b64 _ x (List.mem_of_mem_take hx), by simp, by simp [rows9]⟩ fault_prev
  have e : ((rows9 (r4 p q u v)).take 3).length = 3 := rfl
  rw [e, verd_prev3] at this
  exact this
set_option maxHeartbeats 8000000 in
theorem alive9_any (W : World) : Calls Try.prog 6 #[] W fun e W' => e = .returned (.bool true) ∧ Below W.heap.size W W' := by
  go_enter Try.func6, Try.ntmps6
  go_wp2_with fail
  refine Calls.mono (once_calls _ W.heap.size (W.heap.size + 1 + 1) (W.heap.size + 1 + 1 + 1) (W.heap.size + 1 + 1 + 1 + 1) (W.heap.size + 1 + 1 + 1 + 1 + 1) (W.heap.size + 1 + 1 + 1 + 1 + 1 + 1) (W.heap.size + 1 + 1 + 1 + 1 + 1 + 1 + 1) (W.heap.size + 1 + 1 + 1 + 1 + 1 + 1 + 1 + 1) ⟨?_, ?_, ?_, ?_, ?_, ?_, ?_, ?_⟩ ?_ ?_ ?_ ?_ ?_) ?_
  · iterate 6 rw [cell_alloc_lt _ _ _ _ (by simp <;> omega)]
    simp [go_sem]
  · iterate 5 rw [cell_alloc_lt _ _ _ _ (by simp <;> omega)]
    simp [go_sem]
  · iterate 4 rw [cell_alloc_lt _ _ _ _ (by simp <;> omega)]
    simp [go_sem]
  · iterate 3 rw [cell_alloc_lt _ _ _ _ (by simp <;> omega)]
    simp [go_sem]
  · iterate 2 rw [cell_alloc_lt _ _ _ _ (by simp <;> omega)]
    simp [go_sem]
  · iterate 2 rw [cell_alloc_lt _ _ _ _ (by simp <;> omega)]
    simp [go_sem]
  · iterate 2 rw [cell_alloc_lt _ _ _ _ (by simp <;> omega)]
    simp [go_sem]
  · iterate 2 rw [cell_alloc_lt _ _ _ _ (by simp <;> omega)]
    simp [go_sem]
  · iterate 8 rw [cell_alloc_lt _ _ _ _ (by simp <;> omega)]
    simp [go_sem, bsA]
  · iterate 8 rw [cell_alloc_lt _ _ _ _ (by simp <;> omega)]
    simp [go_sem]
  · simp [go_sem, bsA]
  · intro j hj
    rw [cell_alloc_lt _ _ _ _ (by simp <;> omega)]
    have : j = 0 ∨ j = 1 ∨ j = 2 ∨ j = 3 ∨ j = 4 ∨ j = 5 := by omega
    rcases this with rfl | rfl | rfl | rfl | rfl | rfl <;> simp [go_sem, ndC, yOnce, xOnce]
  · intro j hj
    rw [cell_alloc_lt _ _ _ _ (by simp <;> omega)]
    have : j = 0 ∨ j = 1 ∨ j = 2 ∨ j = 3 ∨ j = 4 ∨ j = 5 := by omega
    rcases this with rfl | rfl | rfl | rfl | rfl | rfl <;> simp [go_sem, ndC, yAt, xAt]
  rintro e W2 ⟨rfl, hb2, hr2⟩
  have HB2 : Hid (Below W.heap.size W W2) := ((((((((((Below.refl _ W).alloc (Nat.le_refl _) _).alloc (by simp <;> omega) _).alloc (by simp <;> omega) _).alloc (by simp <;> omega) _).alloc (by simp <;> omega) _).alloc (by simp <;> omega) _).alloc (by simp <;> omega) _).alloc (by simp <;> omega) _).alloc (by simp <;> omega) _).trans (hb2.mono (by simp <;> omega))
  have HR2 : Hid (Rows9 W2 (W.heap.size + 1 + 1) (W.heap.size + 1 + 1 + 1) (W.heap.size + 1 + 1 + 1 + 1) (W.heap.size + 1 + 1 + 1 + 1 + 1) (W.heap.size + 1 + 1 + 1 + 1 + 1 + 1)) := hr2
  have hsl : ∀ X, (Instr.slice 30 (.slice (some ⟨(W.heap.size + 1 + 1 + 1 + 1 + 1 + 1), 0, none⟩) 4 4) none (some (.int .i64 3)) none).run Try.prog X = .ok (.slice (some ⟨(W.heap.size + 1 + 1 + 1 + 1 + 1 + 1), 0, none⟩) 3 4) X := fun X => rows_head X _ 4 4 3 (by omega) (by unfold maxLen; omega)
  clear hb2 hr2
  go_wp2_with fail
  refine Calls.mono (prev_calls _ _ _ _ _ _ W2.heap.size (HR2.out.below ((Below.refl _ _).alloc (Nat.le_refl _) _)) ?_ ?_) ?_
  · intro j hj
    have : j = 0 ∨ j = 1 ∨ j = 2 ∨ j = 3 ∨ j = 4 ∨ j = 5 := by omega
    rcases this with rfl | rfl | rfl | rfl | rfl | rfl <;> simp [go_sem, ndC, yPrev, xPrev]
  · intro j hj
    have : j = 0 ∨ j = 1 ∨ j = 2 ∨ j = 3 ∨ j = 4 ∨ j = 5 := by omega
    rcases this with rfl | rfl | rfl | rfl | rfl | rfl <;> simp [go_sem, ndC, yTrue]
  rintro e W3 ⟨va, c, rfl, ho, hb3⟩
  have HB3 : Hid (Below W.heap.size W W3) := (HB2.out.alloc HB2.out.size _).trans (hb3.mono (by have := HB2.out.size; simp; omega))
  obtain ⟨_, _, e3, _, _, hrow⟩ := ho.sl inC_len 0
  simp only [Value.slice.injEq] at e3
  obtain ⟨rfl, _, rfl⟩ := e3
  obtain ⟨g0, rfl, _, _, hc⟩ := hrow 0 (by simp)
  obtain ⟨g1, e1, _, _, hd⟩ := hrow 1 (by simp)
  cases e1
  have hc0 := hc 0 (by omega)
  have hd0 := hd 0 (by omega)
  have l0 : W3.cell? ⟨g0, 0, none⟩ = some (.int .i64 0) := by simpa [inC] using hc0
  have l1 : W3.cell? ⟨g0, 1, none⟩ = some (.int .i64 1) := by simpa [inC] using hd0
  clear hc hd hc0 hd0 hrow ho hb3
  go_wp2
  go_ret
  exact ⟨rfl, HB3.out⟩
end Go.Proofs.Ytipbjoeekbgnbaa
