/- RingPlays: a ring, a top and the document's ring that the law made. -/
import Derived.Test.YtgdijnmanhglnaaRgPlaysG
namespace Go.Proofs.Ytgdijnmanhglnaa
open Go.RowKit
set_option linter.unusedVariables false
set_option maxRecDepth 100000

structure Plays (w W : World) (b g t b2 g2 r n : Nat) (S : List Nat) (xs ys zs : List Int) : Prop where
  ring : RingIs W b g n xs
  top : TopIs W t b2 g2 n ys
  ref : RefR W r n zs.reverse S
  bel : Below w.heap.size w W
  sub : ∀ i ∈ [r, b, g, t, b2, g2], i ∈ S
  all : ∀ i ∈ S, i < W.heap.size
  new : ∀ i ∈ S, w.heap.size ≤ i
  ap : (r ≠ b ∧ r ≠ g ∧ r ≠ t ∧ r ≠ b2 ∧ r ≠ g2) ∧ (b ≠ t ∧ b ≠ b2 ∧ b ≠ g2) ∧ (g ≠ t ∧ g ≠ b2 ∧ g ≠ g2)
section
variable {w W W' : World} {b g t b2 g2 r n : Nat} {S : List Nat} {xs ys zs us : List Int}
theorem Plays.set1 (h : Plays w W b g t b2 g2 r n S xs ys zs) (k : Mod [b, g] W W') (q : RingIs W' b g n us) : Plays w W' b g t b2 g2 r n S us ys zs :=
  ⟨q, h.top.mod k (by have := h.ap; simp; omega) (by have := h.ap; simp; omega) (by have := h.ap; simp; omega), h.ref.mod k (fun i hi => h.sub i (by simp at hi ⊢; omega)) (by have := h.ap; simp; omega), k.below h.bel (fun i hi => h.new i (h.sub i (by simp at hi ⊢; omega))), h.sub, fun i hi => Nat.lt_of_lt_of_le (h.all i hi) k.size, h.new, h.ap⟩
theorem Plays.set2 (h : Plays w W b g t b2 g2 r n S xs ys zs) (k : Mod [t, b2, g2] W W') (q : TopIs W' t b2 g2 n us) : Plays w W' b g t b2 g2 r n S xs us zs :=
  ⟨h.ring.mod k (by have := h.ap; simp; omega) (by have := h.ap; simp; omega), q, h.ref.mod k (fun i hi => h.sub i (by simp at hi ⊢; omega)) (by have := h.ap; simp; omega), k.below h.bel (fun i hi => h.new i (h.sub i (by simp at hi ⊢; omega))), h.sub, fun i hi => Nat.lt_of_lt_of_le (h.all i hi) k.size, h.new, h.ap⟩
theorem Plays.set3 (h : Plays w W b g t b2 g2 r n S xs ys zs) (k : Mod [r] W W') (q : RefR W' r n us.reverse S) : Plays w W' b g t b2 g2 r n S xs ys us :=
  ⟨h.ring.mod k (by have := h.ap; simp; omega) (by have := h.ap; simp; omega), h.top.mod k (by have := h.ap; simp; omega) (by have := h.ap; simp; omega) (by have := h.ap; simp; omega), q, k.below h.bel (fun i hi => h.new i (h.sub i (by simp at hi ⊢; omega))), h.sub, fun i hi => Nat.lt_of_lt_of_le (h.all i hi) k.size, h.new, h.ap⟩
theorem Plays.stays (h : Plays w W b g t b2 g2 r n S xs ys zs) (k : Below W.heap.size W W') : Plays w W' b g t b2 g2 r n S xs ys zs :=
  ⟨h.ring.below k, h.top.below k, h.ref.below k, h.bel.trans (k.mono h.bel.size), h.sub, fun i hi => Nat.lt_of_lt_of_le (h.all i hi) k.size, h.new, h.ap⟩
theorem Plays.blocks (h : Plays w W b g t b2 g2 r n S xs ys zs) : r < W.heap.size ∧ b < W.heap.size ∧ g < W.heap.size ∧ t < W.heap.size ∧ b2 < W.heap.size ∧ g2 < W.heap.size :=
  ⟨h.all r (h.sub r (by simp)), h.all b (h.sub b (by simp)), h.all g (h.sub g (by simp)), h.all t (h.sub t (by simp)), h.all b2 (h.sub b2 (by simp)), h.all g2 (h.sub g2 (by simp))⟩
/-- A row that was made since is none of their blocks; the document's list does not lie there. -/
theorem Plays.more (h : Plays w W b g t b2 g2 r n S xs ys zs) (k : Below W.heap.size W W') (g3 : Nat) (h3 : W.heap.size ≤ g3) (h4 : g3 < W'.heap.size) : Plays w W' b g t b2 g2 r n (g3 :: S) xs ys zs := by
  have q := h.stays k
  refine ⟨q.ring, q.top, ?_, q.bel, fun i hi => List.mem_cons_of_mem _ (h.sub i hi), fun i hi => ?_, fun i hi => ?_, h.ap⟩
  · obtain ⟨a, cap, R⟩ := h.ref
    have R' := h.ref.below k
    have m : Mod [] W W' := Mod.of_below k
    refine ⟨a, cap, m.cell R.c0 (by simp), m.cell R.c1 (by simp), fun i => (m.frozen R.lt (by simp)).trans (R.f i), R.row.below k, R.nil, fun h0 x hx hm => ?_, R.fit, List.mem_cons_of_mem _ R.rS⟩
    rcases List.mem_cons.1 hm with e | hm
    · obtain ⟨b', off, e2, hc⟩ := R.row 0 h0
      rw [hx] at e2; cases e2
      have := World.block_lt_of_cell? W _ hc
      simp only at *; omega
    · exact R.off h0 x hx hm
  · rcases List.mem_cons.1 hi with rfl | hi
    · exact h4
    · exact q.all i hi
  · rcases List.mem_cons.1 hi with rfl | hi
    · have := h.bel.size; omega
    · exact h.new i hi
theorem Plays.less {g3 : Nat} (h : Plays w W b g t b2 g2 r n (g3 :: S) xs ys zs) (hs : ∀ i ∈ [r, b, g, t, b2, g2], i ∈ S) : Plays w W b g t b2 g2 r n S xs ys zs := by
  refine ⟨h.ring, h.top, ?_, h.bel, hs, fun i hi => h.all i (List.mem_cons_of_mem _ hi), fun i hi => h.new i (List.mem_cons_of_mem _ hi), h.ap⟩
  obtain ⟨a, cap, R⟩ := h.ref
  exact ⟨a, cap, R.c0, R.c1, R.f, R.row, R.nil, fun h0 x hx hm => R.off h0 x hx (List.mem_cons_of_mem _ hm), R.fit, hs r (by simp)⟩
/-- A store into a row that is none of theirs. -/
theorem Plays.row {g3 : Nat} (h : Plays w W b g t b2 g2 r n (g3 :: S) xs ys zs) (h3 : g3 ∉ [r, b, g, t, b2, g2]) (k : Mod [g3] W W') : Plays w W' b g t b2 g2 r n (g3 :: S) xs ys zs := by
  simp at h3
  exact ⟨h.ring.mod k (by simp; omega) (by simp; omega), h.top.mod k (by simp; omega) (by simp; omega) (by simp; omega), h.ref.mod k (fun i hi => by simp at hi; subst hi; exact List.mem_cons_self) (by simp; omega), k.below h.bel (fun i hi => by simp at hi; subst hi; exact h.new _ List.mem_cons_self), h.sub, fun i hi => Nat.lt_of_lt_of_le (h.all i hi) k.size, h.new, h.ap⟩
end
theorem plays_made (w w2 : World) (b g t b2 g2 n : Nat) (h1 : RingIs w2 b g n []) (h2 : TopIs w2 t b2 g2 n []) (hB : Below w.heap.size w w2) (hn : w.heap.size ≤ b ∧ w.heap.size ≤ g ∧ w.heap.size ≤ t ∧ w.heap.size ≤ b2 ∧ w.heap.size ≤ g2) (ha : (b ≠ t ∧ b ≠ b2 ∧ b ≠ g2) ∧ (g ≠ t ∧ g ≠ b2 ∧ g ≠ g2)) :
    Plays w (w2.alloc (.cells #[.int .i64 n, .slice none 0 0] 34)) b g t b2 g2 w2.heap.size n [w2.heap.size, b, g, t, b2, g2] [] [] [] := by
  have hal := (Below.refl w2.heap.size w2).alloc (Nat.le_refl _) (.cells #[.int .i64 n, .slice none 0 0] 34)
  have l1 := h1.lt
  have l2 := h2.lt
  have hz := hB.size
  refine ⟨h1.below hal, h2.below hal, ⟨none, 0, by simp, by simp, fun i => World.frozen?_alloc_at _ _ _ _ rfl, fun i hi => by simp at hi, fun _ => rfl, fun h => by simp at h, by simp, by simp⟩, hB.trans (hal.mono hB.size), fun i hi => hi, ?_, ?_, by omega⟩
  · intro i hi; simp at hi ⊢; omega
  · intro i hi; simp at hi ⊢; omega
set_option maxHeartbeats 4000000 in
theorem plays_none (n : Int) (a : Option Addr) (len cap : Nat) (w : World) (h : n < 1 ∨ 2000 < n ∨ 200 < len) :
    Calls Try.prog 3 #[.int .i64 n, .slice a len cap] w fun e w' => e = .returned (.bool true) ∧ Below w.heap.size w w' := by
  by_cases h1 : (200 : Int) < (len : Int)
  · clear h
    go_enter Try.func3, Try.ntmps3
    go_wp2_with (go_at_call 9; refine (alive_any _).mono ?_; rintro e w' ⟨rfl, hb⟩)
    go_ret
    exact ⟨rfl, hb⟩
  · have hbad : n < 1 ∨ 2000 < n := by omega
    have HB : Hid (n < 1 ∨ 2000 < n) := hbad
    by_cases h2 : n < 1
    · have h3 : decide (1 ≤ n) = false := by simp; omega
      clear h hbad
      go_enter Try.func3, Try.ntmps3
      go_wp2_with (first | (go_at_call 10; refine (new_bad n _ HB.out).mono ?_; rintro e w' ⟨rfl, hw⟩; have hw' := hw.symm; subst hw'; clear hw) | (go_at_call 11; refine (newtop_bad n _ HB.out).mono ?_; rintro e w' ⟨rfl, hw⟩; have hw' := hw.symm; subst hw'; clear hw) | (go_at_call 9; refine (alive_any _).mono ?_; rintro e w' ⟨rfl, hb⟩))
      go_ret
      exact ⟨rfl, hb⟩
    · have h3 : 2000 < n := by omega
      have h4 : decide (n ≤ 2000) = false := by simp; omega
      clear h hbad
      go_enter Try.func3, Try.ntmps3
      go_wp2_with (first | (go_at_call 10; refine (new_bad n _ HB.out).mono ?_; rintro e w' ⟨rfl, hw⟩; have hw' := hw.symm; subst hw'; clear hw) | (go_at_call 11; refine (newtop_bad n _ HB.out).mono ?_; rintro e w' ⟨rfl, hw⟩; have hw' := hw.symm; subst hw'; clear hw) | (go_at_call 9; refine (alive_any _).mono ?_; rintro e w' ⟨rfl, hb⟩))
      go_ret
      exact ⟨rfl, hb⟩
end Go.Proofs.Ytgdijnmanhglnaa
