/- LexPlaces: where the words of a text stand. -/
import Derived.Test.YtkkgfbhngoijaaaDoorLxM
namespace Go.Proofs.YtkkgfbhngoijaaaDoor
open Go.RowKit
set_option linter.unusedVariables false
set_option maxRecDepth 100000

/-- The line and the column of a place of a text. -/
def posL (t : List UInt8) (j : Nat) : Nat × Nat := passL (1, 1) (t.take j)
theorem posL_succ (t : List UInt8) (j : Nat) (hj : j < t.length) : posL t (j + 1) = passC (posL t j) (t.getD j 0) := passL_snoc (1, 1) t j hj
theorem posL_add (t : List UInt8) (a m : Nat) : posL t (a + m) = passL (posL t a) ((t.drop a).take m) := by
  unfold posL; rw [List.take_add, passL_append]
theorem posL_mono (t : List UInt8) (j k : Nat) (h : j ≤ k) (hk : k ≤ t.length) : (posL t j).1 ≤ (posL t k).1 := by
  induction k with
  | zero => have : j = 0 := by omega
            subst this; exact Nat.le_refl _
  | succ k ih =>
    rcases Nat.lt_or_ge k j with h1 | h1
    · have : j = k + 1 := by omega
      subst this; exact Nat.le_refl _
    · rw [posL_succ t k (by omega)]
      have := ih h1 (by omega)
      unfold passC; split <;> simp <;> omega
theorem posL_same (t : List UInt8) (j k : Nat) (h : j ≤ k) (hk : k ≤ t.length) (he : (posL t j).1 = (posL t k).1) : (posL t k).2 = (posL t j).2 + (k - j) := by
  induction k with
  | zero => have : j = 0 := by omega
            subst this; omega
  | succ k ih =>
    rcases Nat.lt_or_ge k j with h1 | h1
    · have : j = k + 1 := by omega
      subst this; omega
    · have hm := posL_mono t j k h1 (by omega)
      rw [posL_succ t k (by omega)] at he ⊢
      unfold passC at he ⊢
      by_cases hc : (t.getD k 0).toNat = 10
      · rw [if_pos hc] at he; simp only at he; omega
      · rw [if_neg hc] at he ⊢; simp only at he ⊢; have := ih h1 (by omega) he; omega
theorem posL_bd (t : List UInt8) (j : Nat) (hj : j ≤ t.length) : 1 ≤ (posL t j).1 ∧ (posL t j).1 ≤ j + 1 ∧ 1 ≤ (posL t j).2 ∧ (posL t j).2 ≤ j + 1 := by
  induction j with
  | zero => simp [posL, passL]
  | succ j ih =>
    rw [posL_succ t j (by omega)]
    have := ih (by omega)
    unfold passC; split <;> simp <;> omega
/-- Words that stand one behind the other in a text, from a place on. -/
def Placed (t : List UInt8) : Nat → List Wd → Prop
  | _, [] => True
  | a, x :: xs => ∃ P, a ≤ P ∧ P + x.text.length ≤ t.length ∧ (t.drop P).take x.text.length = x.text ∧ posL t P = (x.line, x.col) ∧ (posL t (P + x.text.length)).1 = x.line ∧
      (xs = [] → x.kind = 0 ∧ P + x.text.length = t.length) ∧ (xs ≠ [] → x.kind ≠ 0 ∧ x.text ≠ []) ∧ x.kind ≤ 3 ∧ Placed t (P + x.text.length) xs
theorem scanA_placed (t : List UInt8) (n : Nat) : ∀ (acc : List Wd) (p : Nat × Nat) (l : List UInt8) (a : Nat), t.drop a = l → a ≤ t.length → posL t a = p → l.length < n → (scanA n acc p l).2.1 = 0 →
    ∃ rest, (scanA n acc p l).1 = acc ++ rest ∧ rest ≠ [] ∧ Placed t a rest := by
  induction n with
  | zero => intro acc p l a _ _ _ h; omega
  | succ n ih =>
    intro acc p l a hl ha hp hn he
    obtain ⟨m, hm, hsk, hid⟩ := skipL_split l.length p l (Nat.le_refl _)
    have hlen : l.length = t.length - a := by rw [← hl, List.length_drop]
    have hd : t.drop (a + m) = l.drop m := by rw [← hl, List.drop_drop]
    have hpos : posL t (a + m) = passL p (l.take m) := by rw [posL_add, hp, hl]
    simp only [scanA, hsk] at he ⊢
    by_cases h1 : l.drop m = []
    · rw [if_pos h1] at he ⊢
      have hml : m = l.length := by
        have := congrArg List.length h1
        simp at this; omega
      have e1 : a + m = t.length := by omega
      refine ⟨[endW (passL p (l.take m))], rfl, by simp, a + m, by omega, by simp [endW]; omega, by simp [endW], ?_, ?_, ?_, ?_, ?_, ?_⟩
      · rw [hpos]; rfl
      · show (posL t (a + m + 0)).1 = _
        rw [Nat.add_zero, hpos]; rfl
      · intro _; exact ⟨rfl, by simp [endW]; omega⟩
      · intro h; exact absurd rfl h
      · simp [endW]
      · trivial
    · rw [if_neg h1] at he ⊢
      by_cases h2 : errOf (l.drop m) = 0
      · rw [if_neg (by simp [h2])] at he ⊢
        have hone := OneW.of h1 h2
        have hno := hone.no stop10
        have hle := measureL_le (l.drop m)
        have hlt : ((l.drop m).take (measureL (l.drop m)).2).length = (measureL (l.drop m)).2 := by rw [List.length_take]; omega
        have hdl : (l.drop m).length = l.length - m := List.length_drop
        have hsh := drop_shorter h1 h2
        have hpn : posL t (a + m + (measureL (l.drop m)).2) = passL (passL p (l.take m)) ((l.drop m).take (measureL (l.drop m)).2) := by rw [posL_add, hpos, hd]
        obtain ⟨rest, hr1, hr2, hr3⟩ := ih (acc ++ [wordOf (passL p (l.take m)) (l.drop m)]) _ _ (a + m + (measureL (l.drop m)).2) (by rw [← hd, List.drop_drop]) (by omega) hpn (by omega) he
        refine ⟨wordOf (passL p (l.take m)) (l.drop m) :: rest, by rw [hr1]; simp, by simp, a + m, by omega, ?_, ?_, ?_, ?_, ?_, ?_, ?_, ?_⟩
        · show a + m + ((l.drop m).take (measureL (l.drop m)).2).length ≤ _
          omega
        · show (t.drop (a + m)).take ((l.drop m).take (measureL (l.drop m)).2).length = (l.drop m).take (measureL (l.drop m)).2
          rw [hlt, hd]
        · rw [hpos]; rfl
        · show (posL t (a + m + ((l.drop m).take (measureL (l.drop m)).2).length)).1 = (passL p (l.take m)).1
          rw [hlt, hpn, passL_flat _ _ hno]
        · intro h; exact absurd h hr2
        · intro _
          refine ⟨?_, hone.1⟩
          show (measureL (l.drop m)).1 ≠ 0
          have := measureL_kind (l.drop m); omega
        · show (measureL (l.drop m)).1 ≤ 3
          have := measureL_kind (l.drop m); omega
        · show Placed t (a + m + ((l.drop m).take (measureL (l.drop m)).2).length) rest
          rw [hlt]; exact hr3
      · rw [if_pos h2] at he; exact absurd he h2
theorem scanT_placed (t : List UInt8) (ht : t.length ≤ 65536) (he : (scanT t).2.1 = 0) : (scanT t).1 ≠ [] ∧ Placed t 0 (scanT t).1 := by
  have e1 : scanT t = scanL [] (1, 1) t := by unfold scanT; rw [if_neg (by omega)]
  rw [e1] at he ⊢
  obtain ⟨rest, h1, h2, h3⟩ := scanA_placed t (t.length + 1) [] (1, 1) t 0 rfl (Nat.zero_le _) rfl (by omega) he
  unfold scanL; rw [h1]
  exact ⟨by simpa using h2, by simpa using h3⟩
theorem scanA_err (t : List UInt8) (n : Nat) : ∀ (acc : List Wd) (p : Nat × Nat) (l : List UInt8), 1 ≤ p.1 → 1 ≤ p.2 → l.length < n → (scanA n acc p l).2.1 ≠ 0 →
    (scanA n acc p l).1 = [] ∧ 1 ≤ (scanA n acc p l).2.2.1 ∧ 1 ≤ (scanA n acc p l).2.2.2 := by
  have hpass : ∀ (x : List UInt8) (p : Nat × Nat), 1 ≤ p.1 → 1 ≤ p.2 → 1 ≤ (passL p x).1 ∧ 1 ≤ (passL p x).2 := by
    intro x
    induction x with
    | nil => intro p h1 h2; exact ⟨h1, h2⟩
    | cons c x ih =>
      intro p h1 h2
      show 1 ≤ (passL (passC p c) x).1 ∧ _
      refine ih _ ?_ ?_ <;> (unfold passC; split <;> simp <;> omega)
  induction n with
  | zero => intro acc p l _ _ h; omega
  | succ n ih =>
    intro acc p l hp1 hp2 hn he
    obtain ⟨m, hm, hsk, hid⟩ := skipL_split l.length p l (Nat.le_refl _)
    have hq := hpass (l.take m) p hp1 hp2
    simp only [scanA, hsk] at he ⊢
    by_cases h1 : l.drop m = []
    · rw [if_pos h1] at he; exact absurd rfl he
    · rw [if_neg h1] at he ⊢
      by_cases h2 : errOf (l.drop m) = 0
      · rw [if_neg (by simp [h2])] at he ⊢
        have hsh := drop_shorter h1 h2
        have hdl : (l.drop m).length = l.length - m := List.length_drop
        have hq2 := hpass ((l.drop m).take (measureL (l.drop m)).2) _ hq.1 hq.2
        exact ih _ _ _ hq2.1 hq2.2 (by omega) he
      · rw [if_pos h2]; exact ⟨rfl, hq.1, hq.2⟩
theorem scanT_err (t : List UInt8) (ht : t.length ≤ 65536) (he : (scanT t).2.1 ≠ 0) : (scanT t).1 = [] ∧ 1 ≤ (scanT t).2.2.1 ∧ 1 ≤ (scanT t).2.2.2 := by
  have e1 : scanT t = scanL [] (1, 1) t := by unfold scanT; rw [if_neg (by omega)]
  rw [e1] at he ⊢
  exact scanA_err t (t.length + 1) [] (1, 1) t (Nat.le_refl _) (Nat.le_refl _) (by omega) he
end Go.Proofs.YtkkgfbhngoijaaaDoor
