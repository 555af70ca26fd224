/- The contracts of span's small functions: Empty, Has, In, none, told, middle, Halves. Conditions: the numbers' own ranges. -/
import Derived.Test.YthnhlgiibiephabLiveB
import Derived.Test.YthnhlgiibiephabSpanM
import Derived.Outline
namespace Go.Proofs.Ythnhlgiibiephab
open Go.RowKit
set_option linter.unusedVariables false
set_option maxRecDepth 100000

theorem bcell {W w1 : World} (hb : Below W.heap.size W w1) : (∀ b o, b < W.heap.size → w1.cell? ⟨b, o, none⟩ = W.cell? ⟨b, o, none⟩) ∧ (∀ b o, b < W.heap.size → w1.frozen? ⟨b, o, none⟩ = W.frozen? ⟨b, o, none⟩) :=
  ⟨fun b o h => hb.cell (p := ⟨b, o, none⟩) h, fun b o h => hb.frozen (p := ⟨b, o, none⟩) h⟩

theorem below_set {B : Nat} {w W : World} (h : Below B w W) (b o : Nat) (v : Value) (hb : B ≤ b) : Below B w (W.setCell ⟨b, o, none⟩ v) := h.setCell hb v
set_option maxHeartbeats 400000 in
theorem sempty_any (lo hi : Int) (b : Bool) (w : World) (h : decide (hi < lo) = b) :
    Calls Try.prog 9 #[(.agg #[.int .i64 lo, .int .i64 hi])] w fun e w' => e = .returned (.bool b) ∧ Below w.heap.size w w' := by
  go_enter Try.func9, Try.ntmps9
  go_wp2
  go_ret
  exact ⟨rfl, (Below.refl _ _).alloc (Nat.le_refl _) _⟩
set_option maxHeartbeats 400000 in
theorem shas_any (lo hi x : Int) (b : Bool) (w : World) (h : (decide (lo ≤ x) && decide (x ≤ hi)) = b) :
    Calls Try.prog 12 #[(.agg #[.int .i64 lo, .int .i64 hi]), .int .i64 x] w fun e w' => e = .returned (.bool b) ∧ Below w.heap.size w w' := by
  by_cases h1 : lo ≤ x <;> by_cases h2 : x ≤ hi
  · have hb : true = b := by simpa [h1, h2] using h
    subst hb; clear h
    go_enter Try.func12, Try.ntmps12
    go_wp2
    go_ret
    exact ⟨rfl, (Below.refl _ _).alloc (Nat.le_refl _) _⟩
  · have hb : false = b := by simpa [h1, h2] using h
    subst hb; clear h
    have h2' : decide (x ≤ hi) = false := by simpa using h2
    go_enter Try.func12, Try.ntmps12
    go_wp2
    go_ret
    exact ⟨rfl, (Below.refl _ _).alloc (Nat.le_refl _) _⟩
  · have hb : false = b := by simpa [h1, h2] using h
    subst hb; clear h
    have h1' : decide (lo ≤ x) = false := by simpa using h1
    go_enter Try.func12, Try.ntmps12
    go_wp2
    go_ret
    exact ⟨rfl, (Below.refl _ _).alloc (Nat.le_refl _) _⟩
  · have hb : false = b := by simpa [h1, h2] using h
    subst hb; clear h
    have h1' : decide (lo ≤ x) = false := by simpa using h1
    go_enter Try.func12, Try.ntmps12
    go_wp2
    go_ret
    exact ⟨rfl, (Below.refl _ _).alloc (Nat.le_refl _) _⟩
set_option maxHeartbeats 400000 in
theorem snone_any (w : World) :
    Calls Try.prog 26 #[] w fun e w' => e = .returned ((.agg #[.int .i64 (0), .int .i64 (-1)])) ∧ Below w.heap.size w w' := by
  go_enter Try.func26, Try.ntmps26
  go_wp2
  exact bodyPost_ret (v := (.agg #[.int .i64 (0), .int .i64 (-1)])) (by simp [results, Try.results26, go_sem]) rfl ⟨rfl, (Below.refl _ _).alloc (Nat.le_refl _) _⟩
/-- A span as it is told. -/
def toldLo (lo hi : Int) : Int := if hi < lo then 0 else lo
def toldHi (lo hi : Int) : Int := if hi < lo then -1 else hi
set_option maxHeartbeats 400000 in
theorem stold_some (lo hi : Int) (w : World) (h : lo ≤ hi) :
    Calls Try.prog 37 #[(.agg #[.int .i64 lo, .int .i64 hi])] w fun e w' => e = .returned ((.agg #[.int .i64 lo, .int .i64 hi])) ∧ Below w.heap.size w w' := by
  go_enter Try.func37, Try.ntmps37
  go_wp2_with fail
  refine Calls.mono (sempty_any _ _ false _ (by simp; omega)) ?_
  rintro e w1 ⟨rfl, hb⟩
  obtain ⟨hc, hf⟩ := bcell hb
  have hz := hb.size
  simp at hz
  have HB : Hid (Below w.heap.size w w1) := (((Below.refl _ w).alloc (Nat.le_refl _) _).alloc (by simp) _).trans (hb.mono (by simp; omega))
  clear hb
  go_wp2
  exact bodyPost_ret (v := (.agg #[.int .i64 lo, .int .i64 hi])) (by simp [results, Try.results37, go_sem, hc]) rfl ⟨rfl, (HB.out.setCell (by simp) _).setCell (by simp) _⟩
set_option maxHeartbeats 400000 in
theorem stold_none (lo hi : Int) (w : World) (h : hi < lo) :
    Calls Try.prog 37 #[(.agg #[.int .i64 lo, .int .i64 hi])] w fun e w' => e = .returned ((.agg #[.int .i64 (0), .int .i64 (-1)])) ∧ Below w.heap.size w w' := by
  go_enter Try.func37, Try.ntmps37
  go_wp2_with fail
  refine Calls.mono (sempty_any _ _ true _ (by simp; omega)) ?_
  rintro e w1 ⟨rfl, hb⟩
  have HB : Hid (Below w.heap.size w w1) := (((Below.refl _ w).alloc (Nat.le_refl _) _).alloc (by simp) _).trans (hb.mono (by simp; omega))
  have hz0 := hb.size
  obtain ⟨hc0, hf0⟩ := bcell hb
  clear hb
  go_wp2_with fail
  refine Calls.mono (snone_any _) ?_
  rintro e w2 ⟨rfl, hb⟩
  have HB2 : Hid (Below w.heap.size w w2) := HB.out.trans (hb.mono HB.out.size)
  have hc : ∀ o, w2.cell? ⟨w.heap.size + 1, o, none⟩ = ((w.alloc (.cells #[.int .i64 lo, .int .i64 hi] 23)).alloc (.cells #[.int .i64 0, .int .i64 0] 23)).cell? ⟨w.heap.size + 1, o, none⟩ := fun o => by
    rw [(bcell hb).1 _ _ (by simp at hz0; omega), hc0 _ _ (by simp)]
  have hf : ∀ o, w2.frozen? ⟨w.heap.size + 1, o, none⟩ = ((w.alloc (.cells #[.int .i64 lo, .int .i64 hi] 23)).alloc (.cells #[.int .i64 0, .int .i64 0] 23)).frozen? ⟨w.heap.size + 1, o, none⟩ := fun o => by
    rw [(bcell hb).2 _ _ (by simp at hz0; omega), hf0 _ _ (by simp)]
  have hz : w.heap.size + 1 < w2.heap.size := by have := hb.size; simp at hz0; omega
  clear hb hc0 hf0 hz0 HB
  go_wp2
  exact bodyPost_ret (v := (.agg #[.int .i64 (0), .int .i64 (-1)])) (by simp [results, Try.results37, go_sem, hc]) rfl ⟨rfl, (HB2.out.setCell (by simp) _).setCell (by simp) _⟩
set_option maxHeartbeats 400000 in
theorem sin_none (a b c d : Int) (w : World) (h : b < a) :
    Calls Try.prog 16 #[(.agg #[.int .i64 a, .int .i64 b]), (.agg #[.int .i64 c, .int .i64 d])] w fun e w' => e = .returned (.bool true) ∧ Below w.heap.size w w' := by
  go_enter Try.func16, Try.ntmps16
  go_wp2_with fail
  refine Calls.mono (sempty_any _ _ true _ (by simp; omega)) ?_
  rintro e w1 ⟨rfl, hb⟩
  have HB : Hid (Below w.heap.size w w1) := (((Below.refl _ w).alloc (Nat.le_refl _) _).alloc (by simp) _).trans (hb.mono (by simp; omega))
  clear hb
  go_wp2
  go_ret
  exact ⟨rfl, HB.out⟩
set_option maxHeartbeats 400000 in
theorem sin_some (a b c d : Int) (r : Bool) (w : World) (h : a ≤ b) (hr : (decide (c ≤ a) && decide (b ≤ d)) = r) :
    Calls Try.prog 16 #[(.agg #[.int .i64 a, .int .i64 b]), (.agg #[.int .i64 c, .int .i64 d])] w fun e w' => e = .returned (.bool r) ∧ Below w.heap.size w w' := by
  have HR : Hid ((decide (c ≤ a) && decide (b ≤ d)) = r) := hr
  clear hr
  go_enter Try.func16, Try.ntmps16
  go_wp2_with fail
  refine Calls.mono (sempty_any _ _ false _ (by simp; omega)) ?_
  rintro e w1 ⟨rfl, hb⟩
  obtain ⟨hc, hf⟩ := bcell hb
  have HB : Hid (Below w.heap.size w w1) := (((Below.refl _ w).alloc (Nat.le_refl _) _).alloc (by simp) _).trans (hb.mono (by simp; omega))
  clear hb
  by_cases h1 : c ≤ a
  · by_cases h2 : b ≤ d
    · go_wp2
      go_ret
      exact ⟨by rw [← HR.out]; simp [h1, h2], HB.out⟩
    · have h2' : decide (b ≤ d) = false := by simpa using h2
      go_wp2
      go_ret
      exact ⟨by rw [← HR.out]; simp [h1, h2], HB.out⟩
  · have h1' : decide (c ≤ a) = false := by simpa using h1
    go_wp2
    go_ret
    exact ⟨by rw [← HR.out, h1', Bool.false_and]; rfl, HB.out⟩
set_option maxHeartbeats 400000 in
theorem smiddle_any (lo hi : Int) (w : World) (l1 : -9223372036854775808 ≤ lo) (l2 : lo ≤ 9223372036854775807) (h1 : -9223372036854775808 ≤ hi) (h2 : hi ≤ 9223372036854775807) :
    Calls Try.prog 38 #[(.agg #[.int .i64 lo, .int .i64 hi])] w fun e w' => e = .returned (.int .i64 ((lo + hi) / 2)) ∧ Below w.heap.size w w' := by
  obtain ⟨k0, k1, k2, k3, k4⟩ := and_xor_i64 lo hi l1 l2 h1 h2
  have K : Hid (bits .and .i64 lo hi + bits .xor .i64 lo hi / 2 = (lo + hi) / 2) := mid_i64 lo hi l1 l2 h1 h2
  have K0 : Hid (2 * bits .and .i64 lo hi + bits .xor .i64 lo hi = lo + hi) := k0
  clear k0
  go_enter Try.func38, Try.ntmps38
  go_wp2
  go_ret
  refine ⟨ret_int ?_, (Below.refl _ _).alloc (Nat.le_refl _) _⟩
  rw [← K.out]
  have := K0.out
  generalize bits .and .i64 lo hi = p at *
  generalize bits .xor .i64 lo hi = q at *
  first | rfl | (simp only [wrap64]; omega)
set_option maxHeartbeats 1000000 in
theorem shalves_two (lo hi : Int) (w : World) (l1 : -9223372036854775808 ≤ lo) (l2 : lo ≤ 9223372036854775807) (h1 : -9223372036854775808 ≤ hi) (h2 : hi ≤ 9223372036854775807) (h : lo < hi) :
    Calls Try.prog 24 #[(.agg #[.int .i64 lo, .int .i64 hi])] w fun e w' => e = .returned (.tuple #[(.agg #[.int .i64 (lo), .int .i64 ((lo + hi) / 2)]), (.agg #[.int .i64 ((lo + hi) / 2 + 1), .int .i64 (hi)])]) ∧ Below w.heap.size w w' := by
  have HM : Hid (∀ w, Calls Try.prog 38 #[(.agg #[.int .i64 lo, .int .i64 hi])] w fun e w' => e = .returned (.int .i64 ((lo + hi) / 2)) ∧ Below w.heap.size w w') := fun w => smiddle_any lo hi w l1 l2 h1 h2
  obtain ⟨m, hm⟩ : ∃ m, (lo + hi) / 2 = m := ⟨_, rfl⟩
  rw [hm] at HM ⊢
  have m1 : lo ≤ m := by omega
  have m2 : m < hi := by omega
  clear hm
  go_enter Try.func24, Try.ntmps24
  go_wp2_with fail
  refine Calls.mono (HM.out _) ?_
  rintro e w1 ⟨rfl, hb⟩
  obtain ⟨hc, hf⟩ := bcell hb
  have hz := hb.size
  simp at hz
  have HB : Hid (Below w.heap.size w w1) := ((((Below.refl _ w).alloc (Nat.le_refl _) _).alloc (by simp) _).alloc (by simp; omega) _).trans (hb.mono (by simp; omega))
  clear hb HM
  go_wp2
  go_region
  all_goals
    go_wp2
    exact bodyPost_ret (v := .tuple #[(.agg #[.int .i64 lo, .int .i64 m]), (.agg #[.int .i64 (m + 1), .int .i64 (hi)])]) (by simp [results, Try.results24, go_sem, hc]) rfl ⟨rfl, (below_set (below_set (below_set (below_set HB.out _ _ _ (by omega)) _ _ _ (by omega)) _ _ _ (by omega)) _ _ _ (by omega)).drew⟩
set_option maxHeartbeats 1000000 in
theorem shalves_one (lo hi tl th : Int) (w : World) (h : hi ≤ lo) (ht : ∀ w, Calls Try.prog 37 #[(.agg #[.int .i64 lo, .int .i64 hi])] w fun e w' => e = .returned ((.agg #[.int .i64 tl, .int .i64 th])) ∧ Below w.heap.size w w') :
    Calls Try.prog 24 #[(.agg #[.int .i64 lo, .int .i64 hi])] w fun e w' => e = .returned (.tuple #[(.agg #[.int .i64 tl, .int .i64 th]), (.agg #[.int .i64 (0), .int .i64 (-1)])]) ∧ Below w.heap.size w w' := by
  have HT : Hid (∀ w, Calls Try.prog 37 #[(.agg #[.int .i64 lo, .int .i64 hi])] w fun e w' => e = .returned ((.agg #[.int .i64 tl, .int .i64 th])) ∧ Below w.heap.size w w') := ht
  clear ht
  go_enter Try.func24, Try.ntmps24
  go_wp2_with fail
  refine Calls.mono (HT.out _) ?_
  rintro e w1 ⟨rfl, hb⟩
  obtain ⟨hc0, hf0⟩ := bcell hb
  have hz0 := hb.size
  simp at hz0
  have HB : Hid (Below w.heap.size w w1) := ((((Below.refl _ w).alloc (Nat.le_refl _) _).alloc (by simp) _).alloc (by simp; omega) _).trans (hb.mono (by simp; omega))
  clear hb HT
  go_wp2_with fail
  refine Calls.mono (snone_any _) ?_
  rintro e w2 ⟨rfl, hb⟩
  have HB2 : Hid (Below w.heap.size w w2) := HB.out.trans (hb.mono HB.out.size)
  have hc1 : ∀ o, w2.cell? ⟨w.heap.size + 1, o, none⟩ = w1.cell? ⟨w.heap.size + 1, o, none⟩ := fun o => (bcell hb).1 _ _ (by omega)
  have hc2 : ∀ o, w2.cell? ⟨w.heap.size + 1 + 1, o, none⟩ = w1.cell? ⟨w.heap.size + 1 + 1, o, none⟩ := fun o => (bcell hb).1 _ _ (by omega)
  have hf1 : ∀ o, w2.frozen? ⟨w.heap.size + 1, o, none⟩ = w1.frozen? ⟨w.heap.size + 1, o, none⟩ := fun o => (bcell hb).2 _ _ (by omega)
  have hf2 : ∀ o, w2.frozen? ⟨w.heap.size + 1 + 1, o, none⟩ = w1.frozen? ⟨w.heap.size + 1 + 1, o, none⟩ := fun o => (bcell hb).2 _ _ (by omega)
  have hz : w.heap.size + 1 + 1 < w2.heap.size := by have := hb.size; omega
  clear hb HB
  go_wp2
  exact bodyPost_ret (v := .tuple #[(.agg #[.int .i64 tl, .int .i64 th]), (.agg #[.int .i64 (0), .int .i64 (-1)])]) (by simp [results, Try.results24, go_sem, hc0, hc1, hc2]) rfl ⟨rfl, (below_set (below_set (below_set (below_set HB2.out _ _ _ (by omega)) _ _ _ (by omega)) _ _ _ (by omega)) _ _ _ (by omega))⟩
end Go.Proofs.Ythnhlgiibiephab
