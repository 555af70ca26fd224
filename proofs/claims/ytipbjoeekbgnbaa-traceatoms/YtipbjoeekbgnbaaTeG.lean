/- TraceAtoms: the law's walk. Conditions: none. -/
import Derived.Test.YtipbjoeekbgnbaaTeF
namespace Go.Proofs.Ytipbjoeekbgnbaa
open Go.RowKit
set_option linter.unusedVariables false
set_option maxRecDepth 100000

set_option maxHeartbeats 8000000 in
theorem ta_walk (y : NdV) (na : Option Addr) (nc : Nat) (names : List ByteArray) (ra : Option Addr) (rc : Nat) (row : List Int) (W : World) (hk : NdKnown W y) (hN : NamRow W na names) (hs : ∀ s ∈ names, s.size ≤ 9223372036854775807) (hr : IRow W ra row) (hrow : ∀ z ∈ row, B64 z) :
    Calls Try.prog 3 #[.agg #[.int .i64 y.x.op, .int .i64 y.x.n, .int .i64 y.x.fr, .int .i64 y.x.to, .slice y.ta y.x.terms.length y.tc, .int .i64 y.x.num], .slice na names.length nc, .slice ra row.length rc] W fun e W' => e = .returned (.bool true) ∧ Below W.heap.size W W' := by
  obtain ⟨hT, hF, hTF, _, _, _, _, _, hnum⟩ := hk
  obtain ⟨x, ta, tc⟩ := y
  simp only at hT hF hTF hnum ⊢
  have HL : Hid (∀ X a, NodeRow X a [x] → Calls Try.prog 4 #[.slice a 1 1] X fun e W' => e = .returned (.bool (lightB [x])) ∧ W' = X) := fun X a h => light_any a 1 [x] X h (by simp)
  have HRS : Hid (∀ X a b c, X.cell? ⟨b, 0, none⟩ = some (.slice ra row.length rc) → a = some ⟨b, 0, none⟩ → Below W.heap.size W X → Calls Try.prog 5 #[.slice a 1 c, .slice na names.length nc] X fun e W' => e = .returned (.bool (rowsB [⟨row, ra, rc⟩] names.length)) ∧ W' = X) := fun X a b c h e hb => rows_any a na c nc names.length [⟨row, ra, rc⟩] X (fun i hi => by
    obtain rfl : i = 0 := by simpa using hi
    exact ⟨b, 0, e, by simpa using h, by simpa using hr.below hb⟩)
  have HAL : Hid (∀ X, Calls Try.prog 6 #[] X fun e W' => e = .returned (.bool true) ∧ Below X.heap.size X W') := fun X => alive9_any X
  have HA : Hid (lightB [x] = true → rowsB [⟨row, ra, rc⟩] names.length = true → ∀ X, Below W.heap.size W X → Calls Try.prog 7 #[.agg #[.int .i64 x.op, .int .i64 x.n, .int .i64 x.fr, .int .i64 x.to, .slice ta x.terms.length tc, .int .i64 x.num], .slice na names.length nc, .slice ra row.length rc] X fun e W' => e = .returned (.tuple #[.bool (holdsB (judgeSum row (wtsTo names x.terms x.terms.length)) x.num), .bool (overB (judgeSum row (wtsTo names x.terms x.terms.length)))]) ∧ Below X.heap.size X W') := fun h1 h2 X hX => by
    have l1 : x.terms.length ≤ 20 := by simp [lightB, lightN] at h1; omega
    have l2 : names.length ≤ 30 := by simp [rowsB] at h2; omega
    exact atomT_any x ta tc na nc names ra rc row X (hT.below hX) (hN.below hX) (hr.below hX) hF hTF hnum hrow (by omega) hs (by omega)
  have HB : Hid (lightB [x] = true → rowsB [⟨row, ra, rc⟩] names.length = true → ∀ X, Below W.heap.size W X → Calls Try.prog 8 #[.agg #[.int .i64 x.op, .int .i64 x.n, .int .i64 x.fr, .int .i64 x.to, .slice ta x.terms.length tc, .int .i64 x.num], .slice na names.length nc, .slice ra row.length rc] X fun e W' => e = .returned (.tuple #[.bool (holdsB (judgeSum row (wtsTo names x.terms x.terms.length)) x.num), .bool (overB (judgeSum row (wtsTo names x.terms x.terms.length)))]) ∧ Below X.heap.size X W') := fun h1 h2 X hX => by
    have l1 : x.terms.length ≤ 20 := by simp [lightB, lightN] at h1; omega
    have l2 : names.length ≤ 30 := by simp [rowsB] at h2; omega
    rw [judge_same]
    exact ratom_any x.op x.n x.fr x.to x.num ta tc x.terms na nc names ra rc row X (hT.below hX) (by omega) hTF (hN.below hX) (fun i hi => (hr.below hX) i hi) (by omega) (fun s => lookN_b64 s names row hrow) hnum
  have HNX : Hid (∀ X b, X.cell? ⟨b, 0, none⟩ = some (.int .i64 x.op) → X.cell? ⟨b, 1, none⟩ = some (.int .i64 x.n) → X.cell? ⟨b, 2, none⟩ = some (.int .i64 x.fr) → X.cell? ⟨b, 3, none⟩ = some (.int .i64 x.to) → X.cell? ⟨b, 4, none⟩ = some (.slice ta x.terms.length tc) → X.cell? ⟨b, 5, none⟩ = some (.int .i64 x.num) → Below W.heap.size W X → NodeRow X (some ⟨b, 0, none⟩) [x]) := fun X b c0 c1 c2 c3 c4 c5 hb i hi => by
    obtain rfl : i = 0 := by simpa using hi
    exact ⟨b, 0, rfl, by simpa using c0, by simpa using c1, by simpa using c2, by simpa using c3, ⟨ta, tc, by simpa using c4, by simpa using hT.below hb⟩, by simpa using c5⟩
  clear hT hF hTF hnum hN hs hr hrow
  generalize lightB [x] = lb at *
  generalize rowsB [⟨row, ra, rc⟩] names.length = rb at *
  generalize overB (judgeSum row (wtsTo names x.terms x.terms.length)) = bo at *
  generalize holdsB (judgeSum row (wtsTo names x.terms x.terms.length)) x.num = bh at *
  obtain ⟨op, n, fr, to, ts, num⟩ := x
  simp only at *
  go_enter Try.func3, Try.ntmps3
  go_wp2_with fail
  have s0 : (W.alloc (.cells #[.int .i64 op, .int .i64 n, .int .i64 fr, .int .i64 to, .slice ta ts.length tc, .int .i64 num] 24)).heap.size = W.heap.size + 1 := by simp
  obtain ⟨Y, hY⟩ : ∃ Z, (W.alloc (.cells #[.int .i64 op, .int .i64 n, .int .i64 fr, .int .i64 to, .slice ta ts.length tc, .int .i64 num] 24)).alloc (.cells #[.int .i64 op, .int .i64 n, .int .i64 fr, .int .i64 to, .slice ta ts.length tc, .int .i64 num] 24) = Z := ⟨_, rfl⟩
  have HBY : Hid (Below W.heap.size W Y) := by rw [← hY]; exact ((Below.refl _ _).alloc (Nat.le_refl _) _).alloc (by simp) _
  have HCY : Hid (∀ X, Below Y.heap.size Y X → X.cell? ⟨W.heap.size, 0, none⟩ = some (.int .i64 op) ∧ X.cell? ⟨W.heap.size, 1, none⟩ = some (.int .i64 n) ∧ X.cell? ⟨W.heap.size, 2, none⟩ = some (.int .i64 fr) ∧ X.cell? ⟨W.heap.size, 3, none⟩ = some (.int .i64 to) ∧ X.cell? ⟨W.heap.size, 4, none⟩ = some (.slice ta ts.length tc) ∧ X.cell? ⟨W.heap.size, 5, none⟩ = some (.int .i64 num)) := fun X hX => by
    refine ⟨?_, ?_, ?_, ?_, ?_, ?_⟩ <;> exact cell_up hX (by rw [← hY]; rw [cell_alloc_lt _ _ _ _ (by simp)]; simp [go_sem])
  have HNR : Hid (NodeRow Y (some ⟨W.heap.size + 1, 0, none⟩) [⟨op, n, fr, to, ts, num⟩]) := HNX.out Y _ (by rw [← hY]; simp [go_sem]) (by rw [← hY]; simp [go_sem]) (by rw [← hY]; simp [go_sem]) (by rw [← hY]; simp [go_sem]) (by rw [← hY]; simp [go_sem]) (by rw [← hY]; simp [go_sem]) HBY.out
  rw [hY]
  clear hY s0
  refine Calls.mono (HL.out Y _ HNR.out) ?_
  rintro e Y2 ⟨rfl, rfl⟩
  cases lb with
  | false =>
    go_wp2_with fail
    refine Calls.mono (HAL.out _) ?_
    rintro e W8 ⟨rfl, hb8⟩
    go_wp2
    go_ret
    exact ⟨rfl, HBY.out.trans (hb8.mono HBY.out.size)⟩
  | true =>
    go_wp2_with fail
    refine Calls.mono (HRS.out _ _ _ _ (by simp [go_sem]) rfl (HBY.out.alloc HBY.out.size _)) ?_
    rintro e Y3 ⟨rfl, rfl⟩
    have HBZ : Hid (Below Y2.heap.size Y2 (Y2.alloc (.cells #[.slice ra row.length rc] 26))) := (Below.refl _ _).alloc (Nat.le_refl _) _
    obtain ⟨Z, hZ⟩ : ∃ Z, Y2.alloc (.cells #[.slice ra row.length rc] 26) = Z := ⟨_, rfl⟩
    rw [hZ] at HBZ ⊢
    clear hZ
    have HBWZ : Hid (Below W.heap.size W Z) := HBY.out.trans (HBZ.out.mono HBY.out.size)
    cases rb with
    | false =>
      go_wp2_with fail
      refine Calls.mono (HAL.out _) ?_
      rintro e W8 ⟨rfl, hb8⟩
      go_wp2
      go_ret
      exact ⟨rfl, HBWZ.out.trans (hb8.mono HBWZ.out.size)⟩
    | true =>
      obtain ⟨c0, c1, c2, c3, c4, c5⟩ := HCY.out _ HBZ.out
      go_wp2_with fail
      refine Calls.mono (HA.out (by first | trivial | rfl) (by first | trivial | rfl) _ HBWZ.out) ?_
      rintro e V ⟨rfl, hb1⟩
      have HBV : Hid (Below Y2.heap.size Y2 V) := HBZ.out.trans (hb1.mono HBZ.out.size)
      clear hb1 c0 c1 c2 c3 c4 c5
      obtain ⟨c0, c1, c2, c3, c4, c5⟩ := HCY.out _ HBV.out
      have HBWV : Hid (Below W.heap.size W V) := HBY.out.trans (HBV.out.mono HBY.out.size)
      go_wp2_with fail
      refine Calls.mono (HB.out (by first | trivial | rfl) (by first | trivial | rfl) _ HBWV.out) ?_
      rintro e V2 ⟨rfl, hb2⟩
      have HBW2 : Hid (Below W.heap.size W V2) := HBWV.out.trans (hb2.mono HBWV.out.size)
      clear hb2 c0 c1 c2 c3 c4 c5
      go_wp2_with fail
      refine Calls.mono (HAL.out _) ?_
      rintro e W8 ⟨rfl, hb8⟩
      cases bh <;> cases bo <;> (go_wp2; go_ret; exact ⟨rfl, HBW2.out.trans (hb8.mono HBW2.out.size)⟩)
end Go.Proofs.Ytipbjoeekbgnbaa
