/- What a formula means at a place hangs on the rows up to it alone. Conditions: none. -/
import Derived.Test.YtcpehjndpookiaaBz7
import Derived.Test.YtcpehjndpookiaaTdK
namespace Go.Proofs.Ytcpehjndpookiaa
open Go.RowKit
set_option linter.unusedVariables false
set_option maxRecDepth 100000

/-- Two meanings are the same ahead of n. -/
def Agree (n : Nat) (f g : Nat → Bool) : Prop := ∀ i, i < n → f i = g i
theorem since_local {fr to : Int} {p p' q q' : Nat → Bool} {i : Nat} (hp : ∀ t, t ≤ i → p t = p' t) (hq : ∀ t, t ≤ i → q t = q' t) : sinceF fr to p q i = sinceF fr to p' q' i := by
  rw [Bool.eq_iff_iff, sinceF_iff, sinceF_iff]
  constructor
  · rintro ⟨j, h1, h2, h3, h4, h5⟩
    exact ⟨j, h1, h2, h3, by rw [← hq j h1]; exact h4, fun t a b => by rw [← hp t b]; exact h5 t a b⟩
  · rintro ⟨j, h1, h2, h3, h4, h5⟩
    exact ⟨j, h1, h2, h3, by rw [hq j h1]; exact h4, fun t a b => by rw [hp t b]; exact h5 t a b⟩
theorem one_local (x : Nd) {n : Nat} {p p' : Nat → Bool} (h : Agree n p p') : Agree n (oneF x p) (oneF x p') := fun i hi => by
  unfold oneF
  split
  · unfold prevF
    rw [h (i - 1) (by omega)]
  · split
    · exact since_local (fun _ _ => rfl) fun t ht => h t (by omega)
    · split
      · show (!sinceF x.fr x.to (fun _ => true) (fun i => !p i) i) = !sinceF x.fr x.to (fun _ => true) (fun i => !p' i) i
        rw [since_local (p := fun _ => true) (p' := fun _ => true) (q := fun i => !p i) (q' := fun i => !p' i) (fun _ _ => rfl) fun t ht => by show (!p t) = !p' t; rw [h t (by omega)]]
      · show (!p i) = !p' i
        rw [h i hi]
theorem two_local (x : Nd) {n : Nat} {p p' q q' : Nat → Bool} (h : Agree n p p') (k : Agree n q q') : Agree n (twoF x p q) (twoF x p' q') := fun i hi => by
  unfold twoF
  split
  · show (!((!p i) || (!q i))) = !((!p' i) || (!q' i))
    rw [h i hi, k i hi]
  · split
    · show ((!p i) || q i) = ((!p' i) || q' i)
      rw [h i hi, k i hi]
    · split
      · exact since_local (fun t ht => h t (by omega)) fun t ht => k t (by omega)
      · show (p i || q i) = (p' i || q' i)
        rw [h i hi, k i hi]
/-- Lists of meanings that are the same ahead of n, one by one. -/
inductive AgreeL (n : Nat) : List (Nat → Bool) → List (Nat → Bool) → Prop where
  | nil : AgreeL n [] []
  | cons {f g : Nat → Bool} {l m : List (Nat → Bool)} : Agree n f g → AgreeL n l m → AgreeL n (f :: l) (g :: m)
theorem fold_local (x : Nd) (n : Nat) {l m : List (Nat → Bool)} (h : AgreeL n l m) : ∀ {p q : Nat → Bool}, Agree n p q → Agree n (l.foldl (twoF x) p) (m.foldl (twoF x) q) := by
  induction h with
  | nil => exact fun h => h
  | cons h1 _ ih => exact fun hp => ih (two_local x hp h1)
theorem rows_ahead (rows more : List RwV) (i : Nat) (hi : i < rows.length) : (rows ++ more).getD i default = rows.getD i default := by
  rw [List.getD_eq_getElem?_getD, List.getD_eq_getElem?_getD, List.getElem?_append_left hi]
theorem comb_local (names : List ByteArray) (rows more : List RwV) (x : Nd) {l m : List (Nat → Bool)} (h : AgreeL rows.length l m) : Agree rows.length (combF names (rows ++ more) x l) (combF names rows x m) := by
  cases h with
  | nil =>
    intro i hi
    show leafF names (rows ++ more) x i = leafF names rows x i
    unfold leafF
    split
    · unfold atH; rw [rows_ahead rows more i hi]
    · rfl
  | cons h1 h2 =>
    cases h2 with
    | nil => exact one_local x h1
    | cons h3 h4 => exact fold_local x _ (.cons h3 h4) h1
theorem sem_local (names : List ByteArray) (rows more : List RwV) : ∀ f : Fo, AgreeL rows.length (f.sem names (rows ++ more)) (f.sem names rows)
  | .nil => .nil
  | .cons y k s => .cons (comb_local names rows more y.x (sem_local names rows more k)) (sem_local names rows more s)
theorem exO_local (names : List ByteArray) (rows more : List RwV) (l : List NdV) (j : Nat) (hj : j < rows.length) : exO names (rows ++ more) l j ↔ exO names rows l j := by
  unfold exO atO
  rw [rows_ahead rows more j hj]
/-- Verdicts of more rows are, ahead, those of the rows. -/
theorem verd_local (names : List ByteArray) (rows more : List RwV) (y : NdV) (k : Fo) (n i : Nat) (hi : i < rows.length) (hn : i < n) : (verd names (rows ++ more) y k n).getD i 0 = (verd names rows y k rows.length).getD i 0 := by
  rw [verd_at _ _ _ _ _ _ hn, verd_at _ _ _ _ _ _ hi]
  have hf := comb_local names rows more y.x (sem_local names rows more k) i hi
  by_cases h : ∃ j, j ≤ i ∧ exO names rows (y :: k.flat) j
  · obtain ⟨j, h1, h2⟩ := h
    rw [vAt_over ⟨j, h1, h2⟩, vAt_over ⟨j, h1, (exO_local names rows more _ j (by omega)).2 h2⟩]
  · rw [vAt_else h, vAt_else (fun ⟨j, h1, h2⟩ => h ⟨j, h1, (exO_local names rows more _ j (by omega)).1 h2⟩), hf]
/-- Verdicts are 0, 1 or 2; where one is 2 all behind it are. -/
theorem verd_range (names : List ByteArray) (rows : List RwV) (y : NdV) (k : Fo) (n i : Nat) (hi : i < n) : 0 ≤ (verd names rows y k n).getD i 0 ∧ (verd names rows y k n).getD i 0 ≤ 2 := by
  rw [verd_at _ _ _ _ _ _ hi]
  by_cases h : ∃ j, j ≤ i ∧ exO names rows (y :: k.flat) j
  · rw [vAt_over h]; omega
  · rw [vAt_else h]; split <;> omega
theorem verd_sticks (names : List ByteArray) (rows : List RwV) (y : NdV) (k : Fo) (n i : Nat) (hi : i + 1 < n) (h : (verd names rows y k n).getD i 0 = 2) : (verd names rows y k n).getD (i + 1) 0 = 2 := by
  rw [verd_at _ _ _ _ _ _ (show i < n by omega)] at h
  rw [verd_at _ _ _ _ _ _ hi]
  obtain ⟨j, h1, h2⟩ := vAt_two.1 h
  exact vAt_over ⟨j, by omega, h2⟩
end Go.Proofs.Ytcpehjndpookiaa
