/- LexJoined: the words of two texts with a line end between. -/
import Derived.Test.YtkkgfbhngoijaaaDoorLxM
namespace Go.Proofs.YtkkgfbhngoijaaaDoor
open Go.RowKit
set_option linter.unusedVariables false
set_option maxRecDepth 100000

theorem hash_blank {c : UInt8} (l : List UInt8) (h : blB c = true) : Lib.hasPrefix (c :: l) [35] = false := by
  have h1 : ((35 : UInt8) == c) = false := by
    rw [beq_eq_false_iff_ne]; intro e; rw [← e] at h; exact absurd h (by decide)
  simp [Lib.hasPrefix, List.isPrefixOf, h1]
theorem idle_blank {c : UInt8} (l : List UInt8) (h : blB c = true) : idleL (c :: l) = runL blB l + 1 := by
  unfold idleL; rw [hash_blank l h]; simp [runL, h]
/-- A blank is passed. -/
theorem skipL_blank (p : Nat × Nat) (c : UInt8) (l : List UInt8) (h : blB c = true) : skipL p (c :: l) = skipL (passC p c) l := by
  have h1 := idle_blank l h
  rw [skipL_go p (c :: l) (by omega), h1]
  show skipL (passL (passC p c) (l.take (runL blB l))) (l.drop (runL blB l)) = _
  by_cases h2 : runL blB l = 0
  · rw [h2]; rfl
  · have h3 : idleL l = runL blB l := by
      cases l with
      | nil => exact absurd rfl h2
      | cons c' l' =>
        have h4 : blB c' = true := by
          cases hx : blB c' with
          | true => rfl
          | false => simp [runL, hx] at h2
        unfold idleL; rw [hash_blank l' h4]; rfl
    rw [skipL_go (passC p c) l (by omega), h3]
theorem idle_hash (l : List UInt8) : idleL (35 :: l) = runL ilB (35 :: l) := by unfold idleL; rfl
theorem idle_none {c : UInt8} (l : List UInt8) (h1 : blB c = false) (h2 : c ≠ 35) : idleL (c :: l) = 0 := by
  have h3 : ((35 : UInt8) == c) = false := by rw [beq_eq_false_iff_ne]; exact fun e => h2 e.symm
  unfold idleL
  rw [show Lib.hasPrefix (c :: l) [35] = false from by simp [Lib.hasPrefix, List.isPrefixOf, h3]]
  simp [runL, h1]
theorem skipL_join (b : List UInt8) (n : Nat) : ∀ (p : Nat × Nat) (l : List UInt8), l.length ≤ n →
    ((skipL p l).2 = [] → skipL p (l ++ 10 :: b) = skipL ((skipL p l).1.1 + 1, 1) b) ∧ ((skipL p l).2 ≠ [] → skipL p (l ++ 10 :: b) = ((skipL p l).1, (skipL p l).2 ++ 10 :: b)) := by
  induction n with
  | zero =>
    intro p l h
    have : l = [] := List.length_eq_zero_iff.1 (by omega)
    subst this
    refine ⟨fun _ => ?_, fun h => absurd rfl h⟩
    exact skipL_blank p 10 b (by decide)
  | succ n ih =>
    intro p l h
    cases l with
    | nil =>
      refine ⟨fun _ => ?_, fun h => absurd rfl h⟩
      exact skipL_blank p 10 b (by decide)
    | cons c l =>
      simp only [List.length_cons] at h
      cases hb : blB c with
      | true =>
        rw [skipL_blank p c l hb, List.cons_append, skipL_blank p c (l ++ 10 :: b) hb]
        exact ih _ _ (by omega)
      | false =>
        by_cases hc : c = 35
        · subst hc
          have h1 : runL ilB (35 :: (l ++ 10 :: b)) = runL ilB (35 :: l) := runL_app ilB (35 :: l) 10 b (by decide)
          have h2 : runL ilB (35 :: l) = runL ilB l + 1 := by simp [runL, show ilB 35 = true from by decide]
          have h3 := runL_le ilB (35 :: l)
          have e1 : skipL p (35 :: l) = skipL (passL p ((35 :: l).take (runL ilB (35 :: l)))) ((35 :: l).drop (runL ilB (35 :: l))) := by
            rw [skipL_go p (35 :: l) (by rw [idle_hash]; omega), idle_hash]
          have e2 : skipL p (35 :: l ++ 10 :: b) = skipL (passL p ((35 :: l).take (runL ilB (35 :: l)))) ((35 :: l).drop (runL ilB (35 :: l)) ++ 10 :: b) := by
            rw [List.cons_append, skipL_go p (35 :: (l ++ 10 :: b)) (by rw [idle_hash]; omega), idle_hash, h1, ← List.cons_append, List.take_append_of_le_length h3, List.drop_append_of_le_length h3]
          rw [e1, e2]
          exact ih _ _ (by rw [List.length_drop, List.length_cons]; omega)
        · have h1 := idle_none l hb hc
          have h2 := idle_none (l ++ 10 :: b) hb hc
          rw [skipL_stop p _ h1, List.cons_append, skipL_stop p _ h2]
          exact ⟨fun h => by simp at h, fun _ => rfl⟩
theorem errOf_app (l : List UInt8) {d : UInt8} (y : List UInt8) (h : StopB d) : errOf (l ++ d :: y) = errOf l := by
  unfold errOf; rw [measureL_app l y h, List.take_append_of_le_length (measureL_le l)]
theorem wordOf_app (p : Nat × Nat) (l : List UInt8) {d : UInt8} (y : List UInt8) (h : StopB d) : wordOf p (l ++ d :: y) = wordOf p l := by
  unfold wordOf; rw [measureL_app l y h, List.take_append_of_le_length (measureL_le l)]
/-- What is behind all that says nothing is all that counts. -/
theorem scanL_skip (acc : List Wd) {x y : List UInt8} {q r : Nat × Nat} (h : skipL q x = skipL r y) : scanL acc q x = scanL acc r y := by
  by_cases g1 : (skipL q x).2 = []
  · rw [scanL_end g1, scanL_end (p := r) (l := y) (by rw [← h]; exact g1), h]
  · by_cases g2 : errOf (skipL q x).2 = 0
    · rw [scanL_go g1 g2, scanL_go (p := r) (l := y) (by rw [← h]; exact g1) (by rw [← h]; exact g2), h]
    · rw [scanL_err g1 g2, scanL_err (p := r) (l := y) (by rw [← h]; exact g1) (by rw [← h]; exact g2), h]
theorem scanL_join (b : List UInt8) (n : Nat) : ∀ (acc : List Wd) (p : Nat × Nat) (l : List UInt8), l.length < n →
    ((scanL acc p l).2.1 ≠ 0 → (scanL acc p (l ++ 10 :: b)).2.1 = (scanL acc p l).2.1) ∧
    ((scanL acc p l).2.1 = 0 → ∃ ws q, (scanL acc p l).1 = ws ++ [endW q] ∧ scanL acc p (l ++ 10 :: b) = scanL ws (q.1 + 1, 1) b ∧ q.1 ≤ p.1 + l.length) := by
  induction n with
  | zero => intro acc p l h; omega
  | succ n ih =>
    intro acc p l hn
    obtain ⟨hj1, hj2⟩ := skipL_join b l.length p l (Nat.le_refl _)
    obtain ⟨m, hm, hsk, hid⟩ := skipL_split l.length p l (Nat.le_refl _)
    have hpb := passL_bd p (l.take m)
    rw [List.length_take] at hpb
    by_cases h1 : (skipL p l).2 = []
    · have e1 := scanL_end (acc := acc) h1
      rw [e1]
      refine ⟨fun h => absurd rfl h, fun _ => ⟨acc, (skipL p l).1, rfl, ?_, ?_⟩⟩
      · exact scanL_skip acc (hj1 h1)
      · rw [hsk]; simp only; omega
    · have hj := hj2 h1
      have g1 : (skipL p (l ++ 10 :: b)).2 ≠ [] := by rw [hj]; simp
      by_cases h2 : errOf (skipL p l).2 = 0
      · have g2 : errOf (skipL p (l ++ 10 :: b)).2 = 0 := by rw [hj]; show errOf ((skipL p l).2 ++ 10 :: b) = 0; rw [errOf_app _ _ stop10]; exact h2
        rw [scanL_go (acc := acc) h1 h2, scanL_go (acc := acc) g1 g2, hj]
        have hle := measureL_le (skipL p l).2
        simp only [wordOf_app _ _ b stop10, measureL_app _ b stop10, List.take_append_of_le_length hle, List.drop_append_of_le_length hle]
        have hsh := drop_shorter h1 h2
        have hsl := skipL_len p l
        obtain ⟨k1, k2⟩ := ih (acc ++ [wordOf (skipL p l).1 (skipL p l).2]) (passL (skipL p l).1 ((skipL p l).2.take (measureL (skipL p l).2).2)) ((skipL p l).2.drop (measureL (skipL p l).2).2) (by omega)
        refine ⟨k1, fun h => ?_⟩
        obtain ⟨ws, q, q1, q2, q3⟩ := k2 h
        refine ⟨ws, q, q1, q2, ?_⟩
        have hpb2 := passL_bd (skipL p l).1 ((skipL p l).2.take (measureL (skipL p l).2).2)
        rw [List.length_take] at hpb2
        rw [List.length_drop] at q3
        rw [hsk] at hpb2 q3 hle
        simp only [List.length_drop] at hpb2 q3 hle
        omega
      · have g2 : errOf (skipL p (l ++ 10 :: b)).2 ≠ 0 := by rw [hj]; show errOf ((skipL p l).2 ++ 10 :: b) ≠ 0; rw [errOf_app _ _ stop10]; exact h2
        rw [scanL_err (acc := acc) h1 h2, scanL_err (acc := acc) g1 g2, hj]
        refine ⟨fun _ => ?_, fun h => absurd h h2⟩
        show errOf ((skipL p l).2 ++ 10 :: b) = _
        rw [errOf_app _ _ stop10]
/-- A word so many lines below. -/
def downW (d : Nat) (x : Wd) : Wd := ⟨x.kind, x.text, x.num, x.line + d, x.col⟩
theorem passL_down (d : Nat) (x : List UInt8) : ∀ p : Nat × Nat, passL (p.1 + d, p.2) x = ((passL p x).1 + d, (passL p x).2) := by
  induction x with
  | nil => intro p; rfl
  | cons c x ih =>
    intro p
    show passL (passC (p.1 + d, p.2) c) x = ((passL (passC p c) x).1 + d, (passL (passC p c) x).2)
    rw [← ih (passC p c)]
    congr 1
    unfold passC
    split <;> simp <;> omega
theorem skipN_down (d : Nat) (n : Nat) : ∀ (p : Nat × Nat) (l : List UInt8), skipN n (p.1 + d, p.2) l = (((skipN n p l).1.1 + d, (skipN n p l).1.2), (skipN n p l).2) := by
  induction n with
  | zero => intro p l; rfl
  | succ n ih =>
    intro p l
    simp only [skipN]
    split
    · rfl
    · rw [passL_down, ← ih]
theorem skipL_down (d : Nat) (p : Nat × Nat) (l : List UInt8) : skipL (p.1 + d, p.2) l = (((skipL p l).1.1 + d, (skipL p l).1.2), (skipL p l).2) := skipN_down d _ p l
theorem scanA_down (d : Nat) (n : Nat) : ∀ (acc acc2 : List Wd) (p : Nat × Nat) (l : List UInt8), l.length < n →
    ((scanA n acc p l).2.1 ≠ 0 → scanA n acc2 (p.1 + d, p.2) l = ([], (scanA n acc p l).2.1, (scanA n acc p l).2.2.1 + d, (scanA n acc p l).2.2.2)) ∧
    ((scanA n acc p l).2.1 = 0 → ∃ rest, scanA n acc p l = (acc ++ rest, 0, 0, 0) ∧ scanA n acc2 (p.1 + d, p.2) l = (acc2 ++ rest.map (downW d), 0, 0, 0)) := by
  induction n with
  | zero => intro acc acc2 p l h; omega
  | succ n ih =>
    intro acc acc2 p l hn
    simp only [scanA, skipL_down]
    by_cases h1 : (skipL p l).2 = []
    · rw [if_pos h1, if_pos h1]
      exact ⟨fun h => absurd rfl h, fun _ => ⟨[endW (skipL p l).1], rfl, rfl⟩⟩
    · rw [if_neg h1, if_neg h1]
      by_cases h2 : errOf (skipL p l).2 = 0
      · rw [if_neg (by simp [h2]), if_neg (by simp [h2])]
        have hsh := drop_shorter h1 h2
        have hsl := skipL_len p l
        obtain ⟨k1, k2⟩ := ih (acc ++ [wordOf (skipL p l).1 (skipL p l).2]) (acc2 ++ [wordOf ((skipL p l).1.1 + d, (skipL p l).1.2) (skipL p l).2]) (passL (skipL p l).1 ((skipL p l).2.take (measureL (skipL p l).2).2)) ((skipL p l).2.drop (measureL (skipL p l).2).2) (by omega)
        rw [passL_down]
        refine ⟨k1, fun h => ?_⟩
        obtain ⟨rest, r1, r2⟩ := k2 h
        refine ⟨wordOf (skipL p l).1 (skipL p l).2 :: rest, by rw [r1]; simp, ?_⟩
        rw [r2]
        simp [downW, wordOf]
      · rw [if_pos h2, if_pos h2]
        exact ⟨fun _ => rfl, fun h => absurd h h2⟩
/-- What Scan tells of two texts with a line end between. -/
theorem scanT_join (a b : List UInt8) (h : a.length + b.length ≤ 3000) :
    ((scanT a).2.1 ≠ 0 → (scanT (a ++ 10 :: b)).2.1 = (scanT a).2.1) ∧
    ((scanT a).2.1 = 0 → ∃ ws q, (scanT a).1 = ws ++ [endW q] ∧ q.1 ≤ 3001 ∧
      ((scanT b).2.1 ≠ 0 → (scanT (a ++ 10 :: b)).2.1 = (scanT b).2.1 ∧ (scanT (a ++ 10 :: b)).2.2.1 = (scanT b).2.2.1 + q.1 ∧ (scanT (a ++ 10 :: b)).2.2.2 = (scanT b).2.2.2) ∧
      ((scanT b).2.1 = 0 → (scanT (a ++ 10 :: b)).2.1 = 0 ∧ (scanT (a ++ 10 :: b)).1 = ws ++ (scanT b).1.map (downW q.1))) := by
  have ea : scanT a = scanL [] (1, 1) a := by unfold scanT; rw [if_neg (by omega)]
  have eb : scanT b = scanL [] (1, 1) b := by unfold scanT; rw [if_neg (by omega)]
  have en : scanT (a ++ 10 :: b) = scanL [] (1, 1) (a ++ 10 :: b) := by unfold scanT; rw [if_neg (by simp; omega)]
  rw [ea, eb, en]
  obtain ⟨k1, k2⟩ := scanL_join b (a.length + 1) [] (1, 1) a (by omega)
  refine ⟨k1, fun h0 => ?_⟩
  obtain ⟨ws, q, q1, q2, q3⟩ := k2 h0
  refine ⟨ws, q, q1, by simp only at q3; omega, ?_, ?_⟩
  · intro hb
    have := (scanA_down q.1 (b.length + 1) [] ws (1, 1) b (by omega)).1 hb
    rw [q2]
    rw [show scanL ws (q.1 + 1, 1) b = scanA (b.length + 1) ws (1 + q.1, 1) b from by rw [Nat.add_comm]; rfl]
    simp only at this
    rw [this]; exact ⟨rfl, rfl, rfl⟩
  · intro hb
    obtain ⟨rest, r1, r2⟩ := (scanA_down q.1 (b.length + 1) [] ws (1, 1) b (by omega)).2 hb
    rw [q2]
    rw [show scanL ws (q.1 + 1, 1) b = scanA (b.length + 1) ws (1 + q.1, 1) b from by rw [Nat.add_comm]; rfl]
    simp only at r2
    rw [r2, show scanL [] (1, 1) b = ([] ++ rest, 0, 0, 0) from r1]
    exact ⟨rfl, rfl⟩
end Go.Proofs.YtkkgfbhngoijaaaDoor
