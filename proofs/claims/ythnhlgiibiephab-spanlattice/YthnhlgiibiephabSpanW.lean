/- The contract of span's Wide. Conditions: the numbers' own ranges. -/
import Derived.Test.YthnhlgiibiephabSpanB
namespace Go.Proofs.Ythnhlgiibiephab
open Go.RowKit
set_option linter.unusedVariables false
set_option maxRecDepth 100000

theorem sub_nil (x y : Int) (w : World) (x1 : -9223372036854775808 ≤ x) (x2 : x ≤ 9223372036854775807) (y1 : -9223372036854775808 ≤ y) (y2 : y ≤ 9223372036854775807) :
    Calls Try.prog 20 #[.pointer none, .int .i64 x, .int .i64 y] w fun e w' => e = .returned (.int .i64 (clampF (x - y))) ∧ Below w.heap.size w w' :=
  Calls.mono (sub_any none false x y w (accIs_none _ _) x1 x2 y1 y2) fun e w' t => ⟨t.1, by rw [t.2]; exact (Below.refl _ w).alloc (Nat.le_refl _) _⟩
theorem add_nil (x y : Int) (w : World) (g : Nat) (hg : g = w.heap.size) (x1 : -9223372036854775808 ≤ x) (x2 : x ≤ 9223372036854775807) (y1 : -9223372036854775808 ≤ y) (y2 : y ≤ 9223372036854775807) :
    Calls Try.prog 19 #[.pointer none, .slice (some ⟨g, 0, none⟩) 2 2] (w.alloc (.cells #[.int .i64 x, .int .i64 y] 3)) fun e w' => e = .returned (.int .i64 (clampF (x + y))) ∧ Below w.heap.size w w' := by
  subst hg
  have e : sumL [x, y] = x + y := by simp [sumL]
  rw [← e]
  refine Calls.mono (add_any none false (some ⟨w.heap.size, 0, none⟩) [x, y] 2 _ (accIs_none _ _) ?_ ?_ (by simp)) fun e w' t => ⟨t.1, by rw [t.2]; exact (Below.refl _ w).alloc (Nat.le_refl _) _⟩
  · intro i hi
    refine ⟨w.heap.size, 0, rfl, ?_⟩
    match i, hi with
    | 0, _ => simp
    | 1, _ => simp
  · intro z hz; simp at hz; omega
theorem add_nil_at (x y : Int) (w : World) (g : Nat) (h0 : w.cell? ⟨g, 0, none⟩ = some (.int .i64 x)) (h1 : w.cell? ⟨g, 1, none⟩ = some (.int .i64 y)) (x1 : -9223372036854775808 ≤ x) (x2 : x ≤ 9223372036854775807) (y1 : -9223372036854775808 ≤ y) (y2 : y ≤ 9223372036854775807) :
    Calls Try.prog 19 #[.pointer none, .slice (some ⟨g, 0, none⟩) 2 2] w fun e w' => e = .returned (.int .i64 (clampF (x + y))) ∧ Below w.heap.size w w' := by
  have e : sumL [x, y] = x + y := by simp [sumL]
  rw [← e]
  refine Calls.mono (add_any none false (some ⟨g, 0, none⟩) [x, y] 2 w (accIs_none _ _) ?_ ?_ (by simp)) fun e w' t => ⟨t.1, by rw [t.2]; exact Below.refl _ w⟩
  · intro i hi
    refine ⟨g, 0, rfl, ?_⟩
    match i, hi with
    | 0, _ => simpa using h0
    | 1, _ => simpa using h1
  · intro z hz; simp at hz; omega
theorem max_nought (by_ : Int) (w : World) (g : Nat) (hg : g = w.heap.size) :
    Calls Try.prog 29 #[.slice (some ⟨g, 0, none⟩) 2 2] (w.alloc (.cells #[.int .i64 by_, .int .i64 0] 3)) fun e w' => e = .returned (.int .i64 (max by_ 0)) ∧ w' = w.alloc (.cells #[.int .i64 by_, .int .i64 0] 3) := by
  subst hg
  have h := max_any (some ⟨w.heap.size, 0, none⟩) [by_, 0] 2 (w.alloc (.cells #[.int .i64 by_, .int .i64 0] 3)) (by
    intro i hi
    refine ⟨w.heap.size, 0, rfl, ?_⟩
    match i, hi with
    | 0, _ => simp
    | 1, _ => simp) (by simp)
  have e : Lib.maxOf [by_, 0] = max by_ 0 := by simp [Lib.maxOf]
  rw [e] at h; exact h
set_option maxHeartbeats 1000000 in
theorem swide_none (lo hi by_ : Int) (w : World) (h : hi < lo) :
    Calls Try.prog 15 #[(.agg #[.int .i64 lo, .int .i64 hi]), .int .i64 by_] w fun e w' => e = .returned ((.agg #[.int .i64 (0), .int .i64 (-1)])) ∧ Below w.heap.size w w' := by
  go_enter Try.func15, Try.ntmps15
  go_wp2_with fail
  refine Calls.mono (sempty_any _ _ true _ (by simp; omega)) ?_
  rintro e w1 ⟨rfl, hb⟩
  have HB : Hid (Below w.heap.size w w1) := (((Below.refl _ w).alloc (Nat.le_refl _) _).alloc (by simp) _).trans (hb.mono (by simp; omega))
  have hz0 := hb.size
  obtain ⟨hc0, hf0⟩ := bcell hb
  clear hb
  go_wp2_with fail
  refine Calls.mono (snone_any _) ?_
  rintro e w2 ⟨rfl, hb⟩
  have HB2 : Hid (Below w.heap.size w w2) := HB.out.trans (hb.mono HB.out.size)
  have hc : ∀ o, w2.cell? ⟨w.heap.size + 1, o, none⟩ = ((w.alloc (.cells #[.int .i64 lo, .int .i64 hi] 23)).alloc (.cells #[.int .i64 0, .int .i64 0] 23)).cell? ⟨w.heap.size + 1, o, none⟩ := fun o => by
    rw [(bcell hb).1 _ _ (by simp at hz0; omega), hc0 _ _ (by simp)]
  have hf : ∀ o, w2.frozen? ⟨w.heap.size + 1, o, none⟩ = ((w.alloc (.cells #[.int .i64 lo, .int .i64 hi] 23)).alloc (.cells #[.int .i64 0, .int .i64 0] 23)).frozen? ⟨w.heap.size + 1, o, none⟩ := fun o => by
    rw [(bcell hb).2 _ _ (by simp at hz0; omega), hf0 _ _ (by simp)]
  have hz : w.heap.size + 1 < w2.heap.size := by have := hb.size; simp at hz0; omega
  clear hb hc0 hf0 hz0 HB
  go_wp2
  exact bodyPost_ret (v := (.agg #[.int .i64 (0), .int .i64 (-1)])) (by simp [results, Try.results15, go_sem, hc]) rfl ⟨rfl, below_set (below_set HB2.out _ _ _ (by omega)) _ _ _ (by omega)⟩
set_option maxHeartbeats 2000000 in
theorem swide_some (lo hi by_ : Int) (w : World) (l1 : -9223372036854775808 ≤ lo) (l2 : lo ≤ 9223372036854775807) (h1 : -9223372036854775808 ≤ hi) (h2 : hi ≤ 9223372036854775807) (b1 : -9223372036854775808 ≤ by_) (b2 : by_ ≤ 9223372036854775807) (h : lo ≤ hi) :
    Calls Try.prog 15 #[(.agg #[.int .i64 lo, .int .i64 hi]), .int .i64 by_] w fun e w' => e = .returned ((.agg #[.int .i64 (clampF (lo - max by_ 0)), .int .i64 (clampF (hi + max by_ 0))])) ∧ Below w.heap.size w w' := by
  obtain ⟨m, hm⟩ : ∃ m, max by_ 0 = m := ⟨_, rfl⟩
  have m1 : 0 ≤ m := by omega
  have m2 : m ≤ 9223372036854775807 := by omega
  have HM : Hid (∀ W g, g = W.heap.size → Calls Try.prog 29 #[.slice (some ⟨g, 0, none⟩) 2 2] (W.alloc (.cells #[.int .i64 by_, .int .i64 0] 3)) fun e w' => e = .returned (.int .i64 m) ∧ Below W.heap.size W w') := fun W g hg => by
    rw [← hm]
    exact Calls.mono (max_nought by_ W g hg) fun e w' ⟨h1, h2⟩ => ⟨h1, by rw [h2]; exact (Below.refl _ _).alloc (Nat.le_refl _) _⟩
  rw [hm]
  clear hm
  obtain ⟨L, hL⟩ : ∃ L, clampF (lo - m) = L := ⟨_, rfl⟩
  obtain ⟨H, hH⟩ : ∃ H, clampF (hi + m) = H := ⟨_, rfl⟩
  have HS : Hid (∀ W, Calls Try.prog 20 #[.pointer none, .int .i64 lo, .int .i64 m] W fun e w' => e = .returned (.int .i64 L) ∧ Below W.heap.size W w') := fun W => by
    rw [← hL]; exact sub_nil lo m W l1 l2 (by omega) m2
  have HA : Hid (∀ W g, W.cell? ⟨g, 0, none⟩ = some (.int .i64 hi) → W.cell? ⟨g, 1, none⟩ = some (.int .i64 m) → Calls Try.prog 19 #[.pointer none, .slice (some ⟨g, 0, none⟩) 2 2] W fun e w' => e = .returned (.int .i64 H) ∧ Below W.heap.size W w') := fun W g h3 h4 => by
    rw [← hH]; exact add_nil_at hi m W g h3 h4 h1 h2 (by omega) m2
  rw [hL, hH]
  clear hL hH
  go_enter Try.func15, Try.ntmps15
  go_wp2_with fail
  refine Calls.mono (sempty_any _ _ false _ (by simp; omega)) ?_
  rintro e w1 ⟨rfl, hb⟩
  have HB : Hid (Below (w.heap.size + 1 + 1) ((w.alloc (.cells #[.int .i64 lo, .int .i64 hi] 23)).alloc (.cells #[.int .i64 0, .int .i64 0] 23)) w1) := by simpa [Hid] using hb
  clear hb
  go_wp2_with fail
  refine Calls.mono (HM.out _ _ rfl) ?_
  rintro e w2 ⟨rfl, hb⟩
  have B2 : Below (w.heap.size + 1 + 1) ((w.alloc (.cells #[.int .i64 lo, .int .i64 hi] 23)).alloc (.cells #[.int .i64 0, .int .i64 0] 23)) w2 := HB.out.trans (hb.mono (by have := HB.out.size; simpa using this))
  have HB2 : Hid (Below (w.heap.size + 1 + 1) ((w.alloc (.cells #[.int .i64 lo, .int .i64 hi] 23)).alloc (.cells #[.int .i64 0, .int .i64 0] 23)) w2) := B2
  have c1 : w2.cell? ⟨w.heap.size, 0, none⟩ = some (.int .i64 lo) := (B2.cell (p := ⟨w.heap.size, 0, none⟩) (by simp; omega)).trans (by simp)
  have c2 : w2.cell? ⟨w.heap.size, 1, none⟩ = some (.int .i64 hi) := (B2.cell (p := ⟨w.heap.size, 1, none⟩) (by simp; omega)).trans (by simp)
  have HK : Hid (∀ W', Below (w.heap.size + 1 + 1) ((w.alloc (.cells #[.int .i64 lo, .int .i64 hi] 23)).alloc (.cells #[.int .i64 0, .int .i64 0] 23)) W' → W'.cell? ⟨w.heap.size, 0, none⟩ = some (.int .i64 lo) ∧ W'.cell? ⟨w.heap.size, 1, none⟩ = some (.int .i64 hi)) := fun W' B2 => ⟨(B2.cell (p := ⟨w.heap.size, 0, none⟩) (by simp; omega)).trans (by simp), (B2.cell (p := ⟨w.heap.size, 1, none⟩) (by simp; omega)).trans (by simp)⟩
  have HRr : Hid (∀ W', Below (w.heap.size + 1 + 1) ((w.alloc (.cells #[.int .i64 lo, .int .i64 hi] 23)).alloc (.cells #[.int .i64 0, .int .i64 0] 23)) W' → W'.cell? ⟨w.heap.size + 1, 0, none⟩ = some (.int .i64 0) ∧ W'.cell? ⟨w.heap.size + 1, 1, none⟩ = some (.int .i64 0) ∧ W'.frozen? ⟨w.heap.size + 1, 0, none⟩ = false ∧ W'.frozen? ⟨w.heap.size + 1, 1, none⟩ = false) := fun W' B2 => ⟨(B2.cell (p := ⟨w.heap.size + 1, 0, none⟩) (by simp)).trans (by simp), (B2.cell (p := ⟨w.heap.size + 1, 1, none⟩) (by simp)).trans (by simp), (B2.frozen (p := ⟨w.heap.size + 1, 0, none⟩) (by simp)).trans (by simp), (B2.frozen (p := ⟨w.heap.size + 1, 1, none⟩) (by simp)).trans (by simp)⟩
  have HZ : Hid (∀ W', Below (w.heap.size + 1 + 1) ((w.alloc (.cells #[.int .i64 lo, .int .i64 hi] 23)).alloc (.cells #[.int .i64 0, .int .i64 0] 23)) W' → w.heap.size + 1 + 1 ≤ W'.heap.size) := fun W' B2 => by have := B2.size; simpa using this
  have HS1 : Hid (∀ W, Below (w.heap.size + 1 + 1) ((w.alloc (.cells #[.int .i64 lo, .int .i64 hi] 23)).alloc (.cells #[.int .i64 0, .int .i64 0] 23)) W → Calls Try.prog 20 #[.pointer none, .int .i64 lo, .int .i64 m] W fun e W' => e = .returned (.int .i64 L) ∧ W'.cell? ⟨w.heap.size, 0, none⟩ = some (.int .i64 lo) ∧ W'.cell? ⟨w.heap.size, 1, none⟩ = some (.int .i64 hi) ∧ Below (w.heap.size + 1 + 1) ((w.alloc (.cells #[.int .i64 lo, .int .i64 hi] 23)).alloc (.cells #[.int .i64 0, .int .i64 0] 23)) W' ∧ Below W.heap.size W W') := fun W hW => Calls.mono (HS.out W) fun e W' ⟨h1, h2⟩ => by
    have B3 := hW.trans (h2.mono (HZ.out _ hW))
    exact ⟨h1, (HK.out _ B3).1, (HK.out _ B3).2, B3, h2⟩
  have HA1 : Hid (∀ W g, W.cell? ⟨g, 0, none⟩ = some (.int .i64 hi) → W.cell? ⟨g, 1, none⟩ = some (.int .i64 m) → Below (w.heap.size + 1 + 1) ((w.alloc (.cells #[.int .i64 lo, .int .i64 hi] 23)).alloc (.cells #[.int .i64 0, .int .i64 0] 23)) W → Calls Try.prog 19 #[.pointer none, .slice (some ⟨g, 0, none⟩) 2 2] W fun e W' => e = .returned (.int .i64 H) ∧ W'.cell? ⟨w.heap.size, 0, none⟩ = some (.int .i64 lo) ∧ W'.cell? ⟨w.heap.size, 1, none⟩ = some (.int .i64 hi) ∧ W'.cell? ⟨w.heap.size + 1, 0, none⟩ = some (.int .i64 0) ∧ W'.cell? ⟨w.heap.size + 1, 1, none⟩ = some (.int .i64 0) ∧ W'.frozen? ⟨w.heap.size + 1, 0, none⟩ = false ∧ W'.frozen? ⟨w.heap.size + 1, 1, none⟩ = false ∧ Below (w.heap.size + 1 + 1) ((w.alloc (.cells #[.int .i64 lo, .int .i64 hi] 23)).alloc (.cells #[.int .i64 0, .int .i64 0] 23)) W') := fun W g h3 h4 hW => Calls.mono (HA.out W g h3 h4) fun e W' ⟨h1, h2⟩ => by
    have B3 := hW.trans (h2.mono (HZ.out _ hW))
    exact ⟨h1, (HK.out _ B3).1, (HK.out _ B3).2, (HRr.out _ B3).1, (HRr.out _ B3).2.1, (HRr.out _ B3).2.2.1, (HRr.out _ B3).2.2.2, B3⟩
  have hs0 : Below (w.heap.size + 1 + 1) ((w.alloc (.cells #[.int .i64 lo, .int .i64 hi] 23)).alloc (.cells #[.int .i64 0, .int .i64 0] 23)) w2.drew := B2.drew
  have q0 : (w2.drew.alloc (.cells #[.int .i64 hi, .int .i64 m] 3)).cell? ⟨w2.heap.size, 0, none⟩ = some (.int .i64 hi) := World.cell?_alloc_new w2.drew _ _ 0
  have q1 : (w2.drew.alloc (.cells #[.int .i64 hi, .int .i64 m] 3)).cell? ⟨w2.heap.size, 1, none⟩ = some (.int .i64 m) := World.cell?_alloc_new w2.drew _ _ 1
  clear hb HB B2 HM HS HA
  go_wp2_with fail
  go_region_held3 (fun W' => W'.cell? ⟨w.heap.size, 0, none⟩ = some (.int .i64 lo) ∧ W'.cell? ⟨w.heap.size, 1, none⟩ = some (.int .i64 hi)) (first | exact ⟨by assumption, by assumption⟩ | go_keep) (first
    | (go_at_call 20; refine (HS1.out _ ?_).mono ?_; (first | exact hs0 | exact hs0.alloc (HZ.out _ hs0) _); rintro e W1 ⟨rfl, hc1, hd1, hb1, k1⟩)
    | (go_at_call 19; refine (HA1.out _ _ ?_ ?_ ?_).mono ?_; (first | (focus (simp; done)) | exact cell_later k1 q0); (first | (focus (simp; done)) | exact cell_later k1 q1); (first | exact hb1 | exact hb1.alloc (HZ.out _ hb1) _); rintro e W2 ⟨rfl, hc2, hd2, r1, r2, r3, r4, hb2⟩))
  all_goals have HB3 : Hid (Below w.heap.size w W2) := (((Below.refl _ w).alloc (Nat.le_refl _) _).alloc (by simp) _).trans (hb2.mono (by omega))
  all_goals go_wp2
  all_goals exact bodyPost_ret (v := (.agg #[.int .i64 L, .int .i64 H])) (by simp [results, Try.results15, go_sem, r1, r2]) rfl ⟨rfl, by first | exact below_set (below_set HB3.out _ _ _ (by omega)) _ _ _ (by omega) | exact (below_set (below_set HB3.out _ _ _ (by omega)) _ _ _ (by omega)).drew⟩
end Go.Proofs.Ythnhlgiibiephab
