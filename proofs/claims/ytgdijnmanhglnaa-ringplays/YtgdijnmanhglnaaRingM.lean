/- Plain lists: what a ring of n cells holds, the best of a list. Nothing of the program. -/
import Derived.RowKit
namespace Go.Proofs.Ytgdijnmanhglnaa
set_option linter.unusedVariables false
set_option maxRecDepth 100000

/-- The cell of the number that was pushed i ahead of the last one. -/
def ixR (n last i : Nat) : Nat := if i ≤ last then last - i else last + n - i
/-- The next cell. -/
def nextR (n last : Nat) : Nat := if last + 1 = n then 0 else last + 1
theorem nextR_mod (n last : Nat) (h : last < n) : ((last : Int) + 1) % (n : Int) = (nextR n last : Int) := by
  unfold nextR
  split
  · rename_i e; rw [show (last : Int) + 1 = (n : Int) by omega, Int.emod_self]; rfl
  · rw [Int.emod_eq_of_lt (by omega) (by omega)]; rfl
theorem nextR_lt {n last : Nat} (h : last < n) : nextR n last < n := by unfold nextR; split <;> omega
theorem ixR_lt {n last i : Nat} (h : last < n) (hi : i < n) : ixR n last i < n := by unfold ixR; split <;> omega
/-- Cells cs, the last one pushed at 'last', have the numbers xs, the last one first. -/
def ringRel (n last : Nat) (cs xs : List Int) : Prop := cs.length = n ∧ last < n ∧ xs.length ≤ n ∧ ∀ i, i < xs.length → cs.getD (ixR n last i) 0 = xs.getD i 0
theorem getD_set (cs : List Int) (m i : Nat) (x : Int) (h : m < cs.length) : (cs.set m x).getD i 0 = if i = m then x else cs.getD i 0 := by
  rw [List.getD_eq_getElem?_getD, List.getD_eq_getElem?_getD, List.getElem?_set]
  by_cases e : m = i
  · subst e; simp [h]
  · rw [if_neg e, if_neg (fun h => e h.symm)]
theorem ringRel_push {n last : Nat} {cs xs : List Int} (h : ringRel n last cs xs) (x : Int) : ringRel n (nextR n last) (cs.set (nextR n last) x) ((x :: xs).take n) := by
  obtain ⟨h1, h2, h3, h4⟩ := h
  refine ⟨by rw [List.length_set]; exact h1, nextR_lt h2, List.length_take_le _ _, ?_⟩
  intro i hi
  rw [List.length_take, List.length_cons] at hi
  rw [getD_set _ _ _ _ (by rw [h1]; exact nextR_lt h2)]
  have et : ((x :: xs).take n).getD i 0 = (x :: xs).getD i 0 := by rw [List.getD_eq_getElem?_getD, List.getElem?_take_of_lt (by omega), List.getD_eq_getElem?_getD]
  rw [et]
  cases i with
  | zero => rw [if_pos (by unfold ixR; rw [if_pos (Nat.zero_le _)]; rfl)]; rfl
  | succ j =>
    have e : ixR n (nextR n last) (j + 1) = ixR n last j := by unfold ixR nextR; split <;> split <;> split <;> omega
    have ne : ixR n last j ≠ nextR n last := by unfold ixR nextR; split <;> split <;> omega
    rw [e, if_neg ne, h4 j (by omega), List.getD_cons_succ]
theorem ringRel_nil {n : Nat} (h : 0 < n) (last : Nat) (hl : last < n) (cs : List Int) (hc : cs.length = n) : ringRel n last cs [] := ⟨hc, hl, Nat.zero_le _, fun i hi => by simp at hi⟩
/-- What is there when zs were pushed. -/
def pushL (n : Nat) (xs zs : List Int) : List Int := (zs.reverse ++ xs).take n
theorem pushL_nil (n : Nat) (xs : List Int) (h : xs.length ≤ n) : pushL n xs [] = xs := by unfold pushL; simp [List.take_of_length_le h]
theorem take_cons_take (n : Nat) (x : Int) (l : List Int) : (x :: l.take n).take n = (x :: l).take n := by
  cases n with
  | zero => rfl
  | succ m => rw [List.take_succ_cons, List.take_succ_cons, List.take_take, Nat.min_eq_left (Nat.le_succ m)]
theorem pushL_snoc (n : Nat) (xs zs : List Int) (k : Nat) (h : k < zs.length) : pushL n xs (zs.take (k + 1)) = (zs.getD k 0 :: pushL n xs (zs.take k)).take n := by
  unfold pushL
  rw [take_cons_take, List.take_succ_eq_append_getElem h, List.reverse_append]
  simp [List.getD_eq_getElem?_getD, h]
theorem pushL_len (n : Nat) (xs zs : List Int) : (pushL n xs zs).length = min n (zs.length + xs.length) := by unfold pushL; simp
theorem pushL_push (n : Nat) (xs ys zs : List Int) : pushL n (pushL n xs ys) zs = pushL n xs (ys ++ zs) := by
  unfold pushL
  rw [List.reverse_append, List.append_assoc]
  rw [List.take_append (l₁ := zs.reverse), List.take_append (l₁ := zs.reverse) (l₂ := ys.reverse ++ xs), List.take_take]
  congr 2
  omega
theorem take_step_len (n : Nat) (x : Int) (l : List Int) (h : l.length ≤ n) : ((x :: l).take n).length = min (l.length + 1) n := by simp; omega

/-- Whether x is better than y: greater, or less. -/
def betB (s : Bool) (x y : Int) : Bool := if s then decide (y < x) else decide (x < y)
theorem betB_self (s : Bool) (x : Int) : betB s x x = false := by unfold betB; cases s <;> simp
theorem betB_trans {s : Bool} {x y z : Int} (h : betB s x y = false) (k : betB s y z = false) : betB s x z = false := by
  unfold betB at *; cases s <;> simp at * <;> omega
theorem betB_asym {s : Bool} {x y : Int} (h : betB s x y = true) : betB s y x = false := by
  unfold betB at *; cases s <;> simp at * <;> omega
/-- A number of a list; 0 where none is there. (A name that a walk leaves alone.) -/
def atL (xs : List Int) (i : Nat) : Int := xs.getD i 0
/-- No number up to k is better than that at p. -/
def bestTo (s : Bool) (xs : List Int) (k p : Nat) : Prop := ∀ i, i < k → betB s (xs.getD i 0) (xs.getD p 0) = false
theorem bestTo_one (s : Bool) (xs : List Int) : bestTo s xs 1 0 := fun i hi => by
  obtain rfl : i = 0 := by omega
  exact betB_self _ _
theorem bestTo_keep {s : Bool} {xs : List Int} {k p : Nat} (h : bestTo s xs k p) (hb : betB s (xs.getD k 0) (xs.getD p 0) = false) : bestTo s xs (k + 1) p := fun i hi => by
  rcases Nat.lt_succ_iff_lt_or_eq.1 hi with hi | rfl
  · exact h i hi
  · exact hb
theorem bestTo_turn {s : Bool} {xs : List Int} {k p : Nat} (h : bestTo s xs k p) (hb : betB s (xs.getD k 0) (xs.getD p 0) = true) : bestTo s xs (k + 1) k := fun i hi => by
  rcases Nat.lt_succ_iff_lt_or_eq.1 hi with hi | rfl
  · exact betB_trans (h i hi) (betB_asym hb)
  · exact betB_self _ _
theorem bestTo_less {s : Bool} {xs : List Int} {k j p : Nat} (h : bestTo s xs k p) (hj : j ≤ k) : bestTo s xs j p := fun i hi => h i (by omega)
/-- Where the best number is, if there is one. -/
def bestAt (s : Bool) (xs : List Int) (p : Nat) : Prop := p ≤ 2000 ∧ (0 < xs.length → p < xs.length ∧ bestTo s xs xs.length p)
theorem bestAt_nil (s : Bool) (p : Nat) (h : p ≤ 2000) : bestAt s [] p := ⟨h, fun h => by simp at h⟩
theorem pushL_new (n : Nat) (xs zs : List Int) (i : Nat) (h : i < zs.length) (hn : i < n) : (pushL n xs zs).getD i 0 = zs.getD (zs.length - 1 - i) 0 := by
  unfold pushL
  rw [List.getD_eq_getElem?_getD, List.getElem?_take_of_lt hn, List.getElem?_append_left (by simpa using h), List.getElem?_reverse h, List.getD_eq_getElem?_getD]
theorem pushL_old (n : Nat) (xs zs : List Int) (i : Nat) (hn : zs.length + i < n) : (pushL n xs zs).getD (zs.length + i) 0 = xs.getD i 0 := by
  unfold pushL
  rw [List.getD_eq_getElem?_getD, List.getElem?_take_of_lt hn, List.getElem?_append_right (by simp), List.getD_eq_getElem?_getD]
  simp
/-- The best one that was there is still there: it is the best of all, or one of those that came is. -/
theorem best_stays {s : Bool} {n : Nat} {xs zs : List Int} {p q : Nat} (hp : bestAt s xs p) (hx : xs.length ≤ n) (hw : p + zs.length < (pushL n xs zs).length) (hq : bestTo s (pushL n xs zs) zs.length q) (hq1 : betB s ((pushL n xs zs).getD (p + zs.length) 0) ((pushL n xs zs).getD q 0) = false) :
    bestTo s (pushL n xs zs) (pushL n xs zs).length q := by
  have hl := pushL_len n xs zs
  obtain ⟨h1, h2⟩ := hp.2 (by omega)
  intro i hi
  by_cases hz : i < zs.length
  · exact hq i hz
  · have e1 : (pushL n xs zs).getD i 0 = xs.getD (i - zs.length) 0 := by
      have := pushL_old n xs zs (i - zs.length) (by omega)
      rw [show zs.length + (i - zs.length) = i by omega] at this; exact this
    have e2 : (pushL n xs zs).getD (p + zs.length) 0 = xs.getD p 0 := by
      rw [Nat.add_comm]; exact pushL_old n xs zs p (by omega)
    refine betB_trans ?_ hq1
    rw [e1, e2]
    exact h2 _ (by omega)
theorem best_was {s : Bool} {n : Nat} {xs zs : List Int} {p q : Nat} (hp : bestAt s xs p) (hx : xs.length ≤ n) (hw : p + zs.length < (pushL n xs zs).length) (hq : bestTo s (pushL n xs zs) zs.length q) (hq1 : betB s ((pushL n xs zs).getD (p + zs.length) 0) ((pushL n xs zs).getD q 0) = true) :
    bestTo s (pushL n xs zs) (pushL n xs zs).length (p + zs.length) := by
  have h := best_stays (q := p + zs.length) hp hx hw (fun i hi => betB_trans (hq i hi) (betB_asym hq1)) (betB_self _ _)
  exact h
end Go.Proofs.Ytgdijnmanhglnaa
