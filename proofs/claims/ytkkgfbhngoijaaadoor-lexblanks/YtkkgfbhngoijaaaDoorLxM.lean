/- What a word's text is: measured again, alone or ahead of a byte that ends it, it is that word; and what skipping passes. -/
import Derived.Test.YtkkgfbhngoijaaaDoorLxN0
namespace Go.Proofs.YtkkgfbhngoijaaaDoor
open Go.RowKit
set_option linter.unusedVariables false
set_option maxRecDepth 100000

theorem runL_app (p : UInt8 → Bool) (l : List UInt8) (d : UInt8) (y : List UInt8) (h : p d = false) : runL p (l ++ d :: y) = runL p l := by
  induction l with
  | nil => simp [runL, h]
  | cons c l ih => simp only [List.cons_append, runL, ih]
theorem runL_min (p : UInt8 → Bool) (l : List UInt8) (n : Nat) : runL p (l.take n) = min n (runL p l) := by
  induction l generalizing n with
  | nil => simp [runL]
  | cons c l ih =>
    cases n with
    | zero => simp [runL]
    | succ n =>
      simp only [List.take_succ_cons, runL]
      split
      · rw [ih]; omega
      · simp
/-- A byte that ends every word. -/
structure StopB (d : UInt8) : Prop where
  nm : nmB d = false
  dg : digB d = false
  lt : letB d = false
  dot : d ≠ 46
  sg : ∀ g ∈ signsL, d ∉ g
theorem stop10 : StopB 10 := ⟨by decide, by decide, by decide, by decide, by decide⟩
theorem stop32 : StopB 32 := ⟨by decide, by decide, by decide, by decide, by decide⟩
theorem nameL_app (l : List UInt8) {d : UInt8} (y : List UInt8) (h : StopB d) : nameL (l ++ d :: y) = nameL l := by
  unfold nameL
  rw [runL_app _ _ _ _ h.nm]
  cases l with
  | nil => simp [h.lt, letB_zero]
  | cons c l => rfl
theorem dot_app (m : List UInt8) {d : UInt8} (y : List UInt8) (h : StopB d) : Lib.hasPrefix (m ++ d :: y) [46] = Lib.hasPrefix m [46] := by
  have h1 : ((46 : UInt8) == d) = false := by rw [beq_eq_false_iff_ne]; exact fun e => h.dot e.symm
  cases m with
  | nil => simp [Lib.hasPrefix, List.isPrefixOf, h1]
  | cons c m => simp [Lib.hasPrefix, List.isPrefixOf]
theorem trim_app (m : List UInt8) {d : UInt8} (y : List UInt8) (h : StopB d) : Lib.trimPrefix (m ++ d :: y) [46] = Lib.trimPrefix m [46] ++ d :: y := by
  unfold Lib.trimPrefix
  rw [dot_app m y h]
  cases m with
  | nil => rw [show Lib.hasPrefix [] [46] = false from rfl]; simp
  | cons c m => split <;> rfl
theorem numberL_app (l : List UInt8) {d : UInt8} (y : List UInt8) (h : StopB d) : numberL (l ++ d :: y) = numberL l := by
  unfold numberL
  have h1 := runL_le digB l
  rw [runL_app _ _ _ _ h.dg, List.drop_append_of_le_length h1, dot_app _ y h, trim_app _ y h, runL_app _ _ _ _ h.dg]
theorem prefix_app (g l : List UInt8) (d : UInt8) (y : List UInt8) (h : d ∉ g) : Lib.hasPrefix (l ++ d :: y) g = Lib.hasPrefix l g := by
  unfold Lib.hasPrefix
  induction g generalizing l with
  | nil => cases l <;> simp [List.isPrefixOf]
  | cons a g ih =>
    cases l with
    | nil =>
      have : (a == d) = false := by rw [beq_eq_false_iff_ne]; intro e; exact h (by rw [e]; exact List.mem_cons_self)
      simp [List.isPrefixOf, this]
    | cons c l =>
      simp only [List.cons_append, List.isPrefixOf]
      rw [ih l (fun e => h (List.mem_cons_of_mem _ e))]
theorem signFrom_app (gs : List (List UInt8)) (l : List UInt8) (d : UInt8) (y : List UInt8) (h : ∀ g ∈ gs, d ∉ g) : signFrom (l ++ d :: y) gs = signFrom l gs := by
  induction gs with
  | nil => rfl
  | cons g gs ih =>
    simp only [signFrom]
    rw [prefix_app g l d y (h g List.mem_cons_self), ih (fun g' hg => h g' (List.mem_cons_of_mem _ hg))]
theorem measureL_app (l : List UInt8) {d : UInt8} (y : List UInt8) (h : StopB d) : measureL (l ++ d :: y) = measureL l := by
  unfold measureL
  rw [nameL_app l y h, numberL_app l y h, show signL (l ++ d :: y) = signL l from signFrom_app _ _ _ _ h.sg]

theorem prefix_take {l g : List UInt8} (h : Lib.hasPrefix l g = true) : l.take g.length = g := by
  unfold Lib.hasPrefix at h
  exact (List.prefix_iff_eq_take.1 (List.isPrefixOf_iff_prefix.1 h)).symm
theorem prefix_refl (g : List UInt8) : Lib.hasPrefix g g = true := by unfold Lib.hasPrefix; exact List.isPrefixOf_iff_prefix.2 (List.prefix_refl _)
theorem prefix_of_take {l g : List UInt8} (n : Nat) (h : Lib.hasPrefix (l.take n) g = true) : Lib.hasPrefix l g = true := by
  unfold Lib.hasPrefix at *
  exact List.isPrefixOf_iff_prefix.2 ((List.isPrefixOf_iff_prefix.1 h).trans (List.take_prefix _ _))
theorem signFrom_take (l : List UInt8) (gs : List (List UInt8)) : signFrom (l.take (signFrom l gs)) gs = signFrom l gs := by
  induction gs with
  | nil => rfl
  | cons g gs ih =>
    by_cases hg : Lib.hasPrefix l g = true
    · have e1 : signFrom l (g :: gs) = g.length := by simp only [signFrom]; rw [if_pos hg]
      rw [e1, prefix_take hg]
      simp only [signFrom]; rw [if_pos (prefix_refl g)]
    · have e1 : signFrom l (g :: gs) = signFrom l gs := by simp only [signFrom]; rw [if_neg hg]
      rw [e1]
      have h2 : ¬ Lib.hasPrefix (l.take (signFrom l gs)) g = true := fun h => hg (prefix_of_take _ h)
      have e2 : signFrom (l.take (signFrom l gs)) (g :: gs) = signFrom (l.take (signFrom l gs)) gs := by simp only [signFrom]; rw [if_neg h2]
      rw [e2, ih]
theorem numberL_take (l : List UInt8) : numberL (l.take (numberL l)) = numberL l := by
  have h0 := runL_le digB l
  by_cases h1 : runL digB l = 0
  · have e : numberL l = 0 := by unfold numberL; rw [if_pos h1]
    rw [e]; rfl
  · by_cases h2 : Lib.hasPrefix (l.drop (runL digB l)) [46] = false ∨ runL digB (Lib.trimPrefix (l.drop (runL digB l)) [46]) = 0
    · have e : numberL l = runL digB l := by unfold numberL; rw [if_neg h1, if_pos h2]
      rw [e]
      have e2 : runL digB (l.take (runL digB l)) = runL digB l := runL_take_self _ _
      unfold numberL
      rw [e2, if_neg h1, List.drop_of_length_le (by rw [List.length_take]; omega), if_pos (Or.inl (show Lib.hasPrefix [] [46] = false from rfl))]
    · have e : numberL l = runL digB l + 1 + runL digB (Lib.trimPrefix (l.drop (runL digB l)) [46]) := by unfold numberL; rw [if_neg h1, if_neg h2]
      rw [e]
      obtain ⟨m, hm⟩ : ∃ m, l.drop (runL digB l) = 46 :: m := by
        cases hd : l.drop (runL digB l) with
        | nil => exact absurd (Or.inl (by rw [hd]; rfl)) h2
        | cons c t =>
          refine ⟨t, ?_⟩
          by_cases hc : (46 : UInt8) = c
          · rw [hc]
          · refine absurd (Or.inl ?_) h2
            rw [hd]; simp [Lib.hasPrefix, List.isPrefixOf, hc]
      have ht : ∀ x : List UInt8, Lib.trimPrefix (46 :: x) [46] = x := fun x => by simp [Lib.trimPrefix, Lib.hasPrefix, List.isPrefixOf]
      rw [hm, ht] at h2 ⊢
      have hf : ¬ runL digB m = 0 := fun h => h2 (Or.inr h)
      have e2 : runL digB (l.take (runL digB l + 1 + runL digB m)) = runL digB l := by rw [runL_min]; omega
      have e3 : (l.take (runL digB l + 1 + runL digB m)).drop (runL digB l) = 46 :: m.take (runL digB m) := by
        rw [List.drop_take, hm, show runL digB l + 1 + runL digB m - runL digB l = runL digB m + 1 by omega, List.take_succ_cons]
      have e4 : runL digB (m.take (runL digB m)) = runL digB m := runL_take_self _ _
      unfold numberL
      rw [e2, if_neg h1, e3, ht, e4, if_neg (by
        intro h; rcases h with h | h
        · simp [Lib.hasPrefix, List.isPrefixOf] at h
        · exact hf h)]
theorem nameL_take (l : List UInt8) (n : Nat) (hn : 0 < n) (h : nameL l = 0) (hl : l ≠ []) : nameL (l.take n) = 0 := by
  have h2 := nameL_zero h hl
  unfold nameL; rw [getD_take _ _ hn, h2]; rfl
theorem nameL_self (l : List UInt8) (h1 : 0 < nameL l) : nameL (l.take (nameL l)) = nameL l := by
  have h2 : letB (l.getD 0 0) = true := by
    cases hx : letB (l.getD 0 0) with
    | true => rfl
    | false => unfold nameL at h1; rw [hx] at h1; simp at h1
  have h3 : nameL l = runL nmB l := by unfold nameL; rw [h2]; rfl
  have : nameL (l.take (nameL l)) = runL nmB (l.take (nameL l)) := by
    unfold nameL; rw [getD_take _ _ (by have := h1; unfold nameL at this; exact this)]; rw [h2]; rfl
  rw [this, h3, runL_take_self]
/-- A word's text, measured again. -/
theorem measureL_self (l : List UInt8) (hl : l ≠ []) (hsz : 0 < (measureL l).2) : measureL (l.take (measureL l).2) = measureL l := by
  by_cases h1 : 0 < nameL l
  · have e1 : measureL l = (1, nameL l) := by unfold measureL; rw [if_pos h1]
    rw [e1]; show measureL (l.take (nameL l)) = _
    have := nameL_self l h1
    unfold measureL; rw [this, if_pos h1]
  · have h0 : nameL l = 0 := by omega
    by_cases h2 : 0 < numberL l
    · have e1 : measureL l = (2, numberL l) := by unfold measureL; rw [if_neg h1, if_pos h2]
      rw [e1]; show measureL (l.take (numberL l)) = _
      have e2 := numberL_take l
      have e3 := nameL_take l _ h2 h0 hl
      unfold measureL; rw [e3, if_neg (by omega), e2, if_pos h2]
    · have e1 : measureL l = (3, signL l) := by unfold measureL; rw [if_neg h1, if_neg h2]
      rw [e1] at hsz ⊢
      show measureL (l.take (signL l)) = _
      have e2 : signL (l.take (signL l)) = signL l := signFrom_take _ _
      have e3 := nameL_take l _ hsz h0 hl
      have e4 : runL digB l = 0 := by
        unfold numberL at h2
        rcases Nat.eq_zero_or_pos (runL digB l) with h | h
        · exact h
        · exfalso; apply h2; rw [if_neg (by omega)]; split <;> omega
      have e5 : numberL (l.take (signL l)) = 0 := by unfold numberL; rw [runL_min, e4, if_pos (by omega)]
      unfold measureL; rw [e3, if_neg (by omega), e5, if_neg (by omega), e2]
/-- A text that is one word whole. -/
def OneW (k : Nat) (t : List UInt8) : Prop := t ≠ [] ∧ measureL t = (k, t.length)
theorem OneW.no {k : Nat} {t : List UInt8} (h : OneW k t) {d : UInt8} (hd : StopB d) : d ∉ t := by
  intro hm
  obtain ⟨u, v, rfl⟩ := List.append_of_mem hm
  have h1 := h.2
  rw [measureL_app u v hd] at h1
  have h2 := measureL_le u
  rw [h1] at h2
  simp at h2
  omega
theorem OneW.of {l : List UInt8} (hl : l ≠ []) (he : errOf l = 0) : OneW (measureL l).1 (l.take (measureL l).2) := by
  have h1 := errOf_size hl he
  have h2 := measureL_le l
  have h3 : (l.take (measureL l).2).length = (measureL l).2 := by rw [List.length_take]; omega
  refine ⟨fun e => ?_, ?_⟩
  · rw [e] at h3; simp at h3; omega
  · rw [measureL_self l hl h1, h3]

theorem passL_append (p : Nat × Nat) (x y : List UInt8) : passL p (x ++ y) = passL (passL p x) y := by unfold passL; rw [List.foldl_append]
theorem passL_flat (t : List UInt8) : ∀ (p : Nat × Nat), (10 : UInt8) ∉ t → passL p t = (p.1, p.2 + t.length) := by
  induction t with
  | nil => intro p _; rfl
  | cons c t ih =>
    intro p h
    show passL (passC p c) t = _
    have h1 : c.toNat ≠ 10 := fun e => h (by
      have : c = 10 := by rw [← UInt8.toNat_inj]; exact e
      rw [this]; exact List.mem_cons_self)
    rw [ih _ (fun e => h (List.mem_cons_of_mem _ e))]
    unfold passC; rw [if_neg h1]
    simp; omega
theorem skipL_split (n : Nat) : ∀ (p : Nat × Nat) (l : List UInt8), l.length ≤ n → ∃ m, m ≤ l.length ∧ skipL p l = (passL p (l.take m), l.drop m) ∧ idleL (l.drop m) = 0 := by
  induction n with
  | zero =>
    intro p l h
    have : l = [] := List.length_eq_zero_iff.1 (by omega)
    subst this
    exact ⟨0, Nat.le_refl _, rfl, rfl⟩
  | succ n ih =>
    intro p l h
    by_cases h0 : idleL l = 0
    · exact ⟨0, Nat.zero_le _, by rw [skipL_stop p l h0]; rfl, h0⟩
    · have h1 := idleL_le l
      obtain ⟨m, hm, he, hi⟩ := ih (passL p (l.take (idleL l))) (l.drop (idleL l)) (by rw [List.length_drop]; omega)
      rw [List.length_drop] at hm
      refine ⟨idleL l + m, by omega, ?_, ?_⟩
      · rw [skipL_go p l h0, he, ← passL_append, ← List.take_add, List.drop_drop]
      · rw [List.drop_drop] at hi; exact hi
end Go.Proofs.YtkkgfbhngoijaaaDoor
