/- LexNames: what the words of a text are, and a name's words. -/
import Derived.Test.YtkkgfbhngoijaaaDoorLxI
namespace Go.Proofs.YtkkgfbhngoijaaaDoor
open Go.RowKit
set_option linter.unusedVariables false
set_option maxRecDepth 100000

theorem runL_take_self (p : UInt8 → Bool) (l : List UInt8) : runL p (l.take (runL p l)) = runL p l := by
  induction l with
  | nil => rfl
  | cons c l ih =>
    simp only [runL]
    split
    · rename_i h; simp only [List.take_succ_cons, runL, h, if_true, ih]
    · rfl
theorem nmB_of_letB {c : UInt8} (h : letB c = true) : nmB c = true := by unfold nmB; rw [h]; rfl
theorem nameL_zero {l : List UInt8} (h : nameL l = 0) (hl : l ≠ []) : letB (l.getD 0 0) = false := by
  cases hx : letB (l.getD 0 0) with
  | false => rfl
  | true =>
    exfalso
    cases l with
    | nil => exact hl rfl
    | cons c l =>
      have h1 : letB c = true := hx
      unfold nameL at h
      rw [hx] at h
      simp [runL, nmB_of_letB h1] at h
theorem getD_take (l : List UInt8) (n : Nat) (hn : 0 < n) : (l.take n).getD 0 0 = l.getD 0 0 := by
  cases n with
  | zero => omega
  | succ n => cases l <;> rfl
/-- What a word is. -/
def WordOk (x : Wd) : Prop := (decide (x.kind = 1) = isNameL x.text) ∧ (x.kind ≠ 2 → x.num = 0) ∧ x.text.length ≤ 65536 ∧ x.kind ≤ 3
theorem endW_ok (p : Nat × Nat) : WordOk (endW p) := ⟨by simp [endW, isNameL, nameL, letB_zero], fun _ => rfl, by simp [endW], by simp [endW]⟩
theorem wordOf_ok (p : Nat × Nat) (l : List UInt8) (hl : l ≠ []) (he : errOf l = 0) (hlen : l.length ≤ 65536) : WordOk (wordOf p l) := by
  have hsz := errOf_size hl he
  have hle := measureL_le l
  have hk := measureL_kind l
  unfold errOf at he
  refine ⟨?_, ?_, ?_, ?_⟩
  · show decide ((measureL l).1 = 1) = isNameL (l.take (measureL l).2)
    have hlen2 : (l.take (measureL l).2).length = (measureL l).2 := by rw [List.length_take]; omega
    by_cases h1 : 0 < nameL l
    · have e1 : measureL l = (1, nameL l) := by unfold measureL; rw [if_pos h1]
      rw [e1] at he hlen2 ⊢
      simp only at he hlen2 ⊢
      have h2 : letB (l.getD 0 0) = true := by
        cases hx : letB (l.getD 0 0) with
        | true => rfl
        | false => unfold nameL at h1; rw [hx] at h1; simp at h1
      have h3 : nameL l = runL nmB l := by unfold nameL; rw [h2]; rfl
      have h4 : nameL (l.take (nameL l)) = nameL l := by
        have : nameL (l.take (nameL l)) = runL nmB (l.take (nameL l)) := by
          unfold nameL; rw [getD_take _ _ (by have := h1; unfold nameL at this; exact this)]; rw [h2]; rfl
        rw [this, h3, runL_take_self]
      have h5 : nameL l ≤ 24 := by
        rcases Nat.lt_or_ge 24 (nameL l) with h | h
        · exfalso
          unfold valueL at he
          rw [if_neg (by intro e; rw [e] at hlen2; simp at hlen2; omega), if_neg (by omega), if_pos ⟨rfl, by omega⟩] at he
          simp at he
        · exact h
      unfold isNameL
      rw [h4, hlen2]
      simp [h1, h5]
    · have h0 : nameL l = 0 := by omega
      have h2 := nameL_zero h0 hl
      have h3 : nameL (l.take (measureL l).2) = 0 := by unfold nameL; rw [getD_take _ _ hsz, h2]; rfl
      have h4 : (measureL l).1 ≠ 1 := by unfold measureL; rw [if_neg h1]; split <;> simp
      unfold isNameL
      rw [h3]
      simp [h4]
  · intro h
    show (valueL (measureL l).1 (l.take (measureL l).2)).1 = 0
    have h2 : (measureL l).1 ≠ 2 := h
    unfold valueL
    split
    · rfl
    · first | (rw [if_neg h2]; split <;> rfl) | (split <;> rfl)
  · show (l.take (measureL l).2).length ≤ 65536
    rw [List.length_take]; omega
  · show (measureL l).1 ≤ 3
    omega
theorem scanA_ok (n : Nat) : ∀ (acc : List Wd) (p : Nat × Nat) (l : List UInt8), l.length ≤ 65536 → (∀ x ∈ acc, WordOk x) → ∀ x ∈ (scanA n acc p l).1, WordOk x := by
  induction n with
  | zero => intro acc p l _ _ x hx; simp [scanA] at hx
  | succ n ih =>
    intro acc p l hl ha x hx
    have hsk := skipL_len p l
    simp only [scanA] at hx
    split at hx
    · simp only [List.mem_append, List.mem_singleton] at hx
      rcases hx with hx | rfl
      · exact ha x hx
      · exact endW_ok _
    · split at hx
      · simp at hx
      · rename_i h1 h2
        refine ih _ _ _ ?_ ?_ x hx
        · rw [List.length_drop]; omega
        · intro y hy
          simp only [List.mem_append, List.mem_singleton] at hy
          rcases hy with hy | rfl
          · exact ha y hy
          · exact wordOf_ok _ _ h1 (by simpa using h2) (by omega)
theorem scanT_ok (l : List UInt8) : ∀ x ∈ (scanT l).1, WordOk x := by
  unfold scanT
  split
  · intro x hx; simp at hx
  · exact scanA_ok _ _ _ _ (by omega) (by simp)
theorem scanA_len (n : Nat) : ∀ (acc : List Wd) (p : Nat × Nat) (l : List UInt8), (scanA n acc p l).1.length ≤ acc.length + n := by
  induction n with
  | zero => intro acc p l; simp [scanA]
  | succ n ih =>
    intro acc p l
    simp only [scanA]
    split
    · simp
    · split
      · simp
      · refine Nat.le_trans (ih _ _ _) ?_
        simp; omega
theorem scanT_len (l : List UInt8) : (scanT l).1.length ≤ 65537 := by
  unfold scanT
  split
  · simp
  · have := scanA_len (l.length + 1) [] (1, 1) l
    unfold scanL; simp at this; omega
theorem letB_idle {c : UInt8} (l : List UInt8) (h : letB c = true) : idleL (c :: l) = 0 := by
  have h1 : c.toNat ≠ 35 ∧ blB c = false := by
    unfold letB at h; unfold blB
    simp only [Bool.or_eq_true, Bool.and_eq_true, decide_eq_true_eq] at h
    refine ⟨by omega, ?_⟩
    simp; omega
  unfold idleL
  have h2 : Lib.hasPrefix (c :: l) [35] = false := by
    unfold Lib.hasPrefix
    simp only [List.isPrefixOf, Bool.and_true]
    rw [beq_eq_false_iff_ne]
    intro e; apply h1.1; rw [← e]; rfl
  rw [h2]
  simp [runL, h1.2]
theorem scan_name (l : List UInt8) (h : isNameL l = true) : ∃ p, scanT l = ([⟨1, l, 0, 1, 1⟩, endW p], 0, 0, 0) := by
  unfold isNameL at h
  simp only [Bool.and_eq_true, decide_eq_true_eq] at h
  obtain ⟨⟨h1, h2⟩, h3⟩ := h
  cases l with
  | nil => simp [nameL, letB_zero] at h1
  | cons c t =>
    have hc : letB c = true := by
      cases hx : letB c with
      | true => rfl
      | false => exfalso; unfold nameL at h1; rw [show letB ((c :: t).getD 0 0) = false from hx] at h1; simp at h1
    have hsk : skipL (1, 1) (c :: t) = ((1, 1), c :: t) := skipL_stop _ _ (letB_idle t hc)
    have hme : measureL (c :: t) = (1, (c :: t).length) := by unfold measureL; rw [if_pos h1, h2]
    have hval : valueL 1 (c :: t) = (0, 0) := by unfold valueL; rw [if_neg (by simp), if_neg (by omega), if_neg (by omega)]
    have her : errOf (c :: t) = 0 := by unfold errOf; rw [hme]; simp only [List.take_length]; rw [hval]
    have e1 : scanT (c :: t) = scanL [] (1, 1) (c :: t) := by unfold scanT; rw [if_neg (by omega)]
    rw [e1, scanL_go (by rw [hsk]; simp) (by rw [hsk]; exact her), hsk]
    simp only [hme, List.take_length, List.drop_length, List.nil_append]
    have hw : wordOf (1, 1) (c :: t) = ⟨1, c :: t, 0, 1, 1⟩ := by unfold wordOf; rw [hme]; simp only [List.take_length]; rw [hval]
    rw [hw]
    have hend : skipL (passL (1, 1) (c :: t)) [] = (passL (1, 1) (c :: t), []) := rfl
    rw [scanL_end (by rw [hend]), hend]
    exact ⟨_, rfl⟩
end Go.Proofs.YtkkgfbhngoijaaaDoor
