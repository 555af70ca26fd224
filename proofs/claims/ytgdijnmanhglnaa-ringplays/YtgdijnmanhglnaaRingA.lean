/- The statements' first call: alive. Conditions: none. -/
import Derived.Test.YtgdijnmanhglnaaRingU
namespace Go.Proofs.Ytgdijnmanhglnaa
open Go.RowKit
set_option linter.unusedVariables false
set_option maxRecDepth 100000

/-- A row of numbers that was just laid. -/
theorem row_lit (W : World) (zs : List Int) (c : Array Value) (t : TypeId) (hc : c.toList = zs.map fun z => Value.int .i64 z) : IntRow (W.alloc (.cells c t)) (some ⟨W.heap.size, 0, none⟩) zs := by
  intro i hi
  refine ⟨W.heap.size, 0, rfl, ?_⟩
  have h := (W.rowIs_alloc c t (fun i => .int .i64 (zs.getD i 0)) (fun j hj => by
    have hj' : j < zs.length := by have := congrArg List.length hc; simp at this; omega
    rw [← Array.getElem?_toList, hc]; simp [List.getD_eq_getElem?_getD, List.getElem?_eq_getElem hj']))
  have hs : c.size = zs.length := by have := congrArg List.length hc; simpa using this
  have := h.cell (i := i) (by omega)
  rw [Nat.zero_add]; exact this
theorem push_example : pushL 3 [] [9, 1, 2, 3] = [3, 2, 1] := by decide
theorem top_example : topV true [3, 2, 1] = 3 := by decide
theorem ago_example : agoV [3, 2, 1] 2 = 1 ∧ agoE [3, 2, 1] 2 = 0 := by decide
set_option maxHeartbeats 8000000 in
theorem alive_any (w : World) : Calls Try.prog 9 #[] w fun e w' => e = .returned (.bool true) ∧ Below w.heap.size w w' := by
  go_enter Try.func9, Try.ntmps9
  go_wp2_with fail
  refine Calls.mono (newtop_ok 3 w (by omega) (by omega)) ?_
  rintro e w1 ⟨t, b, g, rfl, ht, hb, hg, hT, hB⟩
  have H1 : Hid (TopIs w1 t b g 3 [] ∧ Below w.heap.size w w1 ∧ w.heap.size ≤ t ∧ w.heap.size ≤ b ∧ w.heap.size ≤ g) := ⟨hT, hB, ht, hb, hg⟩
  clear hT hB ht hb hg
  go_wp2_with fail
  refine Calls.mono (tpush_any (xs := []) (H1.out.1.below ((Below.refl _ _).alloc (Nat.le_refl _) _)) (by omega) (some ⟨w1.heap.size, 0, none⟩) [9, 1, 2, 3] 4 (row_lit w1 [9, 1, 2, 3] _ _ rfl) (fun _ => off_new _ _ (by have := H1.out.1.lt; simp; omega)) (by simp)) ?_
  rintro e w2 ⟨rfl, hT, hM⟩
  have H2 : Hid (TopIs w2 t b g 3 [3, 2, 1] ∧ Below w.heap.size w w2) := by
    rw [push_example] at hT
    exact ⟨hT, hM.below (H1.out.2.1.alloc H1.out.2.1.size _) (by have := H1.out.2.2; simp; omega)⟩
  clear hT hM H1
  go_wp2_with fail
  have hx := tmax_any H2.out.1 (by omega)
  rw [top_example] at hx
  refine Calls.mono hx ?_
  rintro e w3 ⟨rfl, hB⟩
  have H3 : Hid (TopIs w3 t b g 3 [3, 2, 1] ∧ Below w.heap.size w w3) := ⟨H2.out.1.below hB, H2.out.2.trans (hB.mono H2.out.2.size)⟩
  have c3 := H3.out.1.c0
  clear hB H2 hx
  rw [show topE [3, 2, 1] = 0 from rfl]
  go_wp2_with fail
  have hx := ago_any H3.out.1.ring (by omega) 2
  rw [ago_example.1, ago_example.2] at hx
  refine Calls.mono hx ?_
  rintro e w' ⟨rfl, hw⟩
  have hw' := hw.symm; subst hw'; clear hw hx
  go_wp2_with fail
  refine Calls.mono (newcount_ok 5 _ (by omega) (by omega)) ?_
  rintro e w4 ⟨c, rfl, hc, hC, hB⟩
  have H4 : Hid (TopIs w4 t b g 3 [3, 2, 1] ∧ CountAt w4 c 5 0 ∧ Below w.heap.size w w4 ∧ c ≠ t ∧ c ≠ b ∧ c ≠ g ∧ w.heap.size ≤ c) := ⟨H3.out.1.below hB, hC, H3.out.2.trans (hB.mono H3.out.2.size), by have := H3.out.1.lt; have := H3.out.2.size; omega⟩
  clear hB hC hc H3 c3
  go_wp2_with fail
  refine Calls.mono (up_any H4.out.2.1 none [] 0 (fun i hi => by simp at hi) (fun _ x hx => by cases hx) (by simp)) ?_
  rintro e w5 ⟨rfl, hC, hM⟩
  have H5 : Hid (TopIs w5 t b g 3 [3, 2, 1] ∧ CountAt w5 c 5 1 ∧ Below w.heap.size w w5 ∧ c ≠ t ∧ c ≠ b ∧ c ≠ g ∧ w.heap.size ≤ c) := by
    obtain ⟨h1, h2, h3, h4, h5, h6, h7⟩ := H4.out
    exact ⟨h1.mod hM (by simp; omega) (by simp; omega) (by simp; omega), hC, hM.below h3 (by simp; omega), h4, h5, h6, h7⟩
  clear hC hM H4
  rw [show upL 5 0 (upsOf []) = 1 by decide]
  go_wp2_with fail
  refine Calls.mono (up_any (H5.out.2.1.below ((Below.refl _ _).alloc (Nat.le_refl _) _)) (some ⟨w5.heap.size, 0, none⟩) [3, 9] 2 (row_lit w5 [3, 9] _ _ rfl) (fun _ => off_new _ _ (by have := H5.out.2.1.lt; simp; omega)) (by simp)) ?_
  rintro e w6 ⟨rfl, hC, hM⟩
  have H6 : Hid (TopIs w6 t b g 3 [3, 2, 1] ∧ Below w.heap.size w w6) := by
    obtain ⟨h1, h2, h3, h4, h5, h6, h7⟩ := H5.out
    exact ⟨(h1.below ((Below.refl _ _).alloc (Nat.le_refl _) _)).mod hM (by simp; omega) (by simp; omega) (by simp; omega), hM.below (h3.alloc h3.size _) (by simp; omega)⟩
  have c6 := H6.out.1.c0
  clear hC hM H5
  rw [show upL 5 1 (upsOf [3, 9]) = 5 by decide]
  go_wp2_with fail
  refine Calls.mono (len_any H6.out.1.ring) ?_
  rintro e w' ⟨rfl, hw⟩
  have hw' := hw.symm; subst hw'; clear hw
  go_wp2_with fail
  refine Calls.mono (size_any H6.out.1.ring) ?_
  rintro e w' ⟨rfl, hw⟩
  have hw' := hw.symm; subst hw'; clear hw
  go_wp2
  go_ret
  exact ⟨rfl, H6.out.2⟩
end Go.Proofs.Ytgdijnmanhglnaa
