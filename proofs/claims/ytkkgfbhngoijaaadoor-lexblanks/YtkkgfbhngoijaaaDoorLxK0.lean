/- LexBlanks: the words of a text, each with blanks and a remark around it. -/
import Derived.Test.YtkkgfbhngoijaaaDoorLxJ0
namespace Go.Proofs.YtkkgfbhngoijaaaDoor
open Go.RowKit
set_option linter.unusedVariables false
set_option maxRecDepth 100000

/-- A word that can stand anywhere. -/
def GoodW (x : Wd) : Prop := OneW x.kind x.text ∧ valueL x.kind x.text = (x.num, 0) ∧ ∃ c t, x.text = c :: t ∧ blB c = false ∧ c ≠ 35
theorem idle_first {c : UInt8} {l : List UInt8} (h : idleL (c :: l) = 0) : blB c = false ∧ c ≠ 35 := by
  refine ⟨?_, fun e => ?_⟩
  · cases hb : blB c with
    | false => rfl
    | true => rw [idle_blank l hb] at h; omega
  · subst e
    rw [idle_hash] at h
    simp [runL, show ilB 35 = true from by decide] at h
theorem wordOf_good (p : Nat × Nat) (l : List UInt8) (hl : l ≠ []) (he : errOf l = 0) (hi : idleL l = 0) : GoodW (wordOf p l) := by
  refine ⟨OneW.of hl he, ?_, ?_⟩
  · show valueL (measureL l).1 (l.take (measureL l).2) = ((valueL (measureL l).1 (l.take (measureL l).2)).1, 0)
    have : (valueL (measureL l).1 (l.take (measureL l).2)).2 = 0 := he
    rw [← this]
  · have h1 := errOf_size hl he
    cases l with
    | nil => exact absurd rfl hl
    | cons c l =>
      obtain ⟨n, hn⟩ : ∃ n, (measureL (c :: l)).2 = n + 1 := ⟨(measureL (c :: l)).2 - 1, by omega⟩
      have h2 := idle_first hi
      exact ⟨c, l.take n, by show (c :: l).take (measureL (c :: l)).2 = _; rw [hn]; rfl, h2.1, h2.2⟩
theorem scanA_good (n : Nat) : ∀ (acc : List Wd) (p : Nat × Nat) (l : List UInt8), l.length < n → (scanA n acc p l).2.1 = 0 → ∃ rest q, (scanA n acc p l).1 = acc ++ rest ++ [endW q] ∧ ∀ x ∈ rest, GoodW x := by
  induction n with
  | zero => intro acc p l h; omega
  | succ n ih =>
    intro acc p l hn he
    obtain ⟨m, hm, hsk, hid⟩ := skipL_split l.length p l (Nat.le_refl _)
    simp only [scanA, hsk] at he ⊢
    by_cases h1 : l.drop m = []
    · rw [if_pos h1]; exact ⟨[], _, by simp; rfl, by simp⟩
    · rw [if_neg h1] at he ⊢
      by_cases h2 : errOf (l.drop m) = 0
      · rw [if_neg (by simp [h2])] at he ⊢
        have hsh := drop_shorter h1 h2
        have hdl : (l.drop m).length = l.length - m := List.length_drop
        obtain ⟨rest, q, r1, r2⟩ := ih _ _ _ (by omega) he
        refine ⟨wordOf (passL p (l.take m)) (l.drop m) :: rest, q, by rw [r1]; simp, ?_⟩
        intro x hx
        rcases List.mem_cons.1 hx with rfl | hx
        · exact wordOf_good _ _ h1 h2 hid
        · exact r2 x hx
      · rw [if_pos h2] at he; exact absurd he h2
/-- A word's kind, text and number. -/
def bareW (x : Wd) : Nat × List UInt8 × Int := (x.kind, x.text, x.num)
/-- A word with what the law lays around it. -/
def pieceL (r : List UInt8) (x : Wd) : List UInt8 := 32 :: 9 :: 13 :: 10 :: (x.text ++ 32 :: 35 :: (r ++ [10]))
def bodyL (r : List UInt8) (ws : List Wd) : List UInt8 := ws.flatMap (pieceL r)
theorem bodyL_snoc (r : List UInt8) (ws : List Wd) (x : Wd) : bodyL r (ws ++ [x]) = bodyL r ws ++ pieceL r x := by simp [bodyL]
theorem runL_all (p : UInt8 → Bool) (l : List UInt8) (h : ∀ c ∈ l, p c = true) : runL p l = l.length := by
  induction l with
  | nil => rfl
  | cons c l ih =>
    simp only [runL]
    rw [if_pos (h c List.mem_cons_self), ih (fun c' hc => h c' (List.mem_cons_of_mem _ hc))]; rfl
theorem ilB_of {c : UInt8} (h : c ≠ 10) : ilB c = true := by
  unfold ilB
  have : c.toNat ≠ 10 := fun e => h (by rw [← UInt8.toNat_inj]; exact e)
  simp [this]
theorem skip_remark (r y : List UInt8) (p : Nat × Nat) (h : (10 : UInt8) ∉ r) : ∃ p', skipL p (35 :: (r ++ 10 :: y)) = skipL p' y := by
  have h1 : runL ilB (35 :: (r ++ 10 :: y)) = (35 :: r).length := by
    rw [← List.cons_append, runL_app ilB (35 :: r) 10 y (by decide)]
    refine runL_all _ _ fun c hc => ?_
    rcases List.mem_cons.1 hc with rfl | hc
    · decide
    · exact ilB_of fun e => h (by rw [← e]; exact hc)
  rw [skipL_go p _ (by rw [idle_hash, h1]; simp), idle_hash, h1, ← List.cons_append, List.drop_left, skipL_blank _ 10 y (by decide)]
  exact ⟨_, rfl⟩
theorem skip_gap (y : List UInt8) (p : Nat × Nat) : ∃ p', skipL p (32 :: 9 :: 13 :: 10 :: y) = skipL p' y := by
  rw [skipL_blank _ 32 _ (by decide), skipL_blank _ 9 _ (by decide), skipL_blank _ 13 _ (by decide), skipL_blank _ 10 _ (by decide)]
  exact ⟨_, rfl⟩
theorem skip_behind (r y : List UInt8) (p : Nat × Nat) (h : (10 : UInt8) ∉ r) : ∃ p', skipL p (32 :: 35 :: (r ++ 10 :: y)) = skipL p' y := by
  rw [skipL_blank _ 32 _ (by decide)]; exact skip_remark r y _ h
theorem piece_app (r y : List UInt8) (x : Wd) : pieceL r x ++ y = 32 :: 9 :: 13 :: 10 :: (x.text ++ 32 :: 35 :: (r ++ 10 :: y)) := by simp [pieceL]
/-- A word that is laid is scanned. -/
theorem scan_piece (r y : List UInt8) (x : Wd) (acc : List Wd) (p : Nat × Nat) (hr : (10 : UInt8) ∉ r) (h : GoodW x) : ∃ w p', bareW w = bareW x ∧ scanL acc p (pieceL r x ++ y) = scanL (acc ++ [w]) p' y := by
  obtain ⟨⟨hne, hms⟩, hv, c, t, hx, hb, hc⟩ := h
  rw [piece_app]
  obtain ⟨p1, e1⟩ := skip_gap (x.text ++ 32 :: 35 :: (r ++ 10 :: y)) p
  rw [scanL_skip acc e1]
  have hi : idleL (x.text ++ 32 :: 35 :: (r ++ 10 :: y)) = 0 := by rw [hx, List.cons_append]; exact idle_none _ hb hc
  have hsk := skipL_stop p1 _ hi
  have hm := measureL_app x.text (35 :: (r ++ 10 :: y)) stop32
  have her : errOf (x.text ++ 32 :: 35 :: (r ++ 10 :: y)) = 0 := by
    rw [errOf_app x.text _ stop32]; unfold errOf; rw [hms]; simp only [List.take_length]; rw [hv]
  have hwd : wordOf p1 (x.text ++ 32 :: 35 :: (r ++ 10 :: y)) = ⟨x.kind, x.text, x.num, p1.1, p1.2⟩ := by
    rw [wordOf_app p1 x.text _ stop32]; unfold wordOf; rw [hms]; simp only [List.take_length]; rw [hv]
  rw [scanL_go (acc := acc) (p := p1) (by rw [hsk, hx]; simp) (by rw [hsk]; exact her), hsk]
  simp only
  rw [hwd, hm, hms]
  simp only [List.drop_left]
  obtain ⟨p2, e2⟩ := skip_behind r y (passL p1 ((x.text ++ 32 :: 35 :: (r ++ 10 :: y)).take x.text.length)) hr
  rw [scanL_skip _ e2]
  exact ⟨⟨x.kind, x.text, x.num, p1.1, p1.2⟩, p2, rfl, rfl⟩
theorem scan_body (r : List UInt8) (q : Nat × Nat) (hr : (10 : UInt8) ∉ r) (rest : List Wd) : ∀ (acc : List Wd) (p : Nat × Nat), (∀ x ∈ rest, GoodW x) →
    ∃ ws, scanL acc p (bodyL r (rest ++ [endW q])) = (acc ++ ws, 0, 0, 0) ∧ ws.map bareW = (rest ++ [endW q]).map bareW := by
  induction rest with
  | nil =>
    intro acc p _
    have e0 : bodyL r ([] ++ [endW q]) = 32 :: 9 :: 13 :: 10 :: (32 :: 35 :: (r ++ 10 :: [])) := by simp [bodyL, pieceL, endW]
    rw [e0]
    obtain ⟨p1, e1⟩ := skip_gap (32 :: 35 :: (r ++ 10 :: [])) p
    obtain ⟨p2, e2⟩ := skip_behind r [] p1 hr
    rw [scanL_skip acc e1, scanL_skip acc e2, scanL_end rfl]
    exact ⟨[endW (skipL p2 []).1], rfl, rfl⟩
  | cons x rest ih =>
    intro acc p h
    have e0 : bodyL r (x :: rest ++ [endW q]) = pieceL r x ++ bodyL r (rest ++ [endW q]) := by simp [bodyL]
    rw [e0]
    obtain ⟨w, p', hw, e1⟩ := scan_piece r (bodyL r (rest ++ [endW q])) x acc p hr (h x List.mem_cons_self)
    obtain ⟨ws, e2, e3⟩ := ih (acc ++ [w]) p' (fun x' hx' => h x' (List.mem_cons_of_mem _ hx'))
    refine ⟨w :: ws, by rw [e1, e2]; simp, ?_⟩
    simp only [List.map_cons, List.cons_append, e3, hw]
/-- What the law lays of a text's words. -/
def laidL (r : List UInt8) (ws : List Wd) : List UInt8 := 35 :: (r ++ 10 :: bodyL r ws)
theorem laidL_snoc (r : List UInt8) (ws : List Wd) (x : Wd) : laidL r (ws ++ [x]) = laidL r ws ++ pieceL r x := by unfold laidL; rw [bodyL_snoc]; simp
theorem scanT_laid (l r : List UInt8) (hr : (10 : UInt8) ∉ r) (hl : l.length ≤ 65536) (he : (scanT l).2.1 = 0) (hn : (laidL r (scanT l).1).length ≤ 65536) :
    (scanT (laidL r (scanT l).1)).2.1 = 0 ∧ (scanT (laidL r (scanT l).1)).1.map bareW = (scanT l).1.map bareW := by
  have e1 : scanT l = scanL [] (1, 1) l := by unfold scanT; rw [if_neg (by omega)]
  rw [e1] at he hn ⊢
  obtain ⟨rest, q, r1, r2⟩ := scanA_good (l.length + 1) [] (1, 1) l (by omega) he
  rw [show (scanL [] (1, 1) l).1 = rest ++ [endW q] from by unfold scanL; rw [r1]; simp] at hn ⊢
  have e2 : scanT (laidL r (rest ++ [endW q])) = scanL [] (1, 1) (laidL r (rest ++ [endW q])) := by unfold scanT; rw [if_neg (by omega)]
  rw [e2]
  obtain ⟨p', e3⟩ := skip_remark r (bodyL r (rest ++ [endW q])) (1, 1) hr
  unfold laidL
  rw [scanL_skip [] e3]
  obtain ⟨ws, e4, e5⟩ := scan_body r q hr rest [] p' r2
  rw [e4]
  exact ⟨rfl, by simpa using e5⟩
end Go.Proofs.YtkkgfbhngoijaaaDoor
