/- Ors of ors, nots of nots: what makers make again of what they made. Conditions: at most 2^63 - 1 parts said. -/
import Derived.Test.YtpgdkgilmcipkaaCuA
namespace Go.Proofs.Ytpgdkgilmcipkaa
open Go.RowKit
set_option linter.unusedVariables false
set_option maxRecDepth 100000

/-- Whole: it ends just at its end. -/
def WholeP (l : List Nd) : Prop := scanW 1 l = (l.length, true)
def InN (l : List Nd) : Prop := ∀ x ∈ l, 0 ≤ x.n ∧ x.n ≤ 9223372036854775807
/-- What ends stays where it ended, whatever stands behind. -/
theorem scan_stay (l : List Nd) : ∀ (k : Int) (s : List Nd), (scanW k l).2 = true → scanW k (l ++ s) = scanW k l := by
  induction l with
  | nil => intro k s h; simp [scanW] at h
  | cons x l ih =>
    intro k s h
    simp only [List.cons_append]
    unfold scanW at h ⊢
    split
    · rfl
    · rename_i hz
      rw [if_neg hz] at h
      rw [ih _ s h]
/-- .. and is told of the beginning alone. -/
theorem scan_pre (l : List Nd) : ∀ k : Int, (scanW k l).2 = true → scanW k (l.take (scanW k l).1) = ((scanW k l).1, true) := by
  induction l with
  | nil => intro k h; simp [scanW] at h
  | cons x l ih =>
    intro k h
    unfold scanW at h
    by_cases hz : wrap64 (k + wrap64 (x.n - 1)) ≤ 0
    · rw [if_pos hz] at h
      have e : scanW k (x :: l) = (1, wrap64 (k + wrap64 (x.n - 1)) == 0) := by simp only [scanW]; rw [if_pos hz]
      rw [e]
      simp only [List.take_succ_cons, List.take_zero, scanW]
      rw [if_pos hz]
      simpa using h
    · rw [if_neg hz] at h
      have e : scanW k (x :: l) = ((scanW (wrap64 (k + wrap64 (x.n - 1))) l).1 + 1, (scanW (wrap64 (k + wrap64 (x.n - 1))) l).2) := by simp only [scanW]; rw [if_neg hz]
      rw [e]
      simp only [List.take_succ_cons, scanW]
      rw [if_neg hz, ih _ h]
theorem scan_more (l : List Nd) : ∀ (j k : Int), 1 ≤ j → 1 ≤ k → j + k ≤ 9223372036854775807 → InN l → (scanW (j + k) l).2 = true →
    (scanW j l).2 = true ∧ (scanW k (l.drop (scanW j l).1)).2 = true ∧ (scanW (j + k) l).1 = (scanW j l).1 + (scanW k (l.drop (scanW j l).1)).1 := by
  induction l with
  | nil => intro j k _ _ _ _ h; simp [scanW] at h
  | cons x l ih =>
    intro j k hj hk hb hn h
    obtain ⟨n0, n1⟩ := hn x (by simp)
    have e1 : wrap64 (x.n - 1) = x.n - 1 := by unfold wrap64; omega
    have hn' : InN l := fun y hy => hn y (by simp [hy])
    by_cases ho : j + k + (x.n - 1) ≤ 9223372036854775807
    · have e2 : wrap64 (j + k + (x.n - 1)) = j + k + (x.n - 1) := by unfold wrap64; omega
      have e3 : wrap64 (j + (x.n - 1)) = j + (x.n - 1) := by unfold wrap64; omega
      have f1 : scanW (j + k) (x :: l) = ((scanW (j + k + (x.n - 1)) l).1 + 1, (scanW (j + k + (x.n - 1)) l).2) := by
        simp only [scanW, e1, e2]; rw [if_neg (by omega)]
      rw [f1] at h ⊢
      by_cases hz : j + (x.n - 1) ≤ 0
      · have e4 : j + (x.n - 1) = 0 := by omega
        have f2 : scanW j (x :: l) = (1, true) := by simp only [scanW, e1, e3]; rw [if_pos hz, e4]; rfl
        rw [f2]
        have e5 : j + k + (x.n - 1) = k := by omega
        rw [e5] at h ⊢
        exact ⟨rfl, by simpa using h, by simp; omega⟩
      · have f2 : scanW j (x :: l) = ((scanW (j + (x.n - 1)) l).1 + 1, (scanW (j + (x.n - 1)) l).2) := by simp only [scanW, e1, e3]; rw [if_neg hz]
        rw [f2]
        have e5 : j + k + (x.n - 1) = (j + (x.n - 1)) + k := by omega
        rw [e5] at h ⊢
        obtain ⟨h1, h2, h3⟩ := ih (j + (x.n - 1)) k (by omega) hk (by omega) hn' h
        exact ⟨h1, by simpa using h2, by simp only [List.drop_succ_cons]; omega⟩
    · have e2 : wrap64 (j + k + (x.n - 1)) ≤ -1 := by unfold wrap64; omega
      have f1 : scanW (j + k) (x :: l) = (1, wrap64 (j + k + (x.n - 1)) == 0) := by simp only [scanW, e1]; rw [if_pos (by omega)]
      rw [f1] at h
      have : wrap64 (j + k + (x.n - 1)) = 0 := by simpa using h
      omega
theorem parts_whole (m : Nat) : ∀ (t : List Nd) (k : Int), t.length ≤ m → 1 ≤ k → k ≤ 9223372036854775807 → InN t → scanW k t = (t.length, true) → ∀ p ∈ splitL t, WholeP p := by
  induction m with
  | zero =>
    intro t k hm _ _ _ h
    rw [List.length_eq_zero_iff.1 (Nat.le_zero.1 hm)] at h
    simp [scanW] at h
  | succ m ih =>
    intro t k hm hk hb hn h p hp
    cases t with
    | nil => simp [scanW] at h
    | cons x l =>
      rw [splitL_cons] at hp
      have hpos := scanW_pos 1 x l
      have hle := scanW_le (x :: l) 1
      by_cases h1 : k = 1
      · subst h1
        rw [h] at hp
        simp only [List.take_length, List.drop_length] at hp
        have : p = x :: l := by simpa [splitL, splitF] using hp
        subst this; exact h
      · have hs : (scanW (1 + (k - 1)) (x :: l)).2 = true := by rw [show 1 + (k - 1) = k by omega, h]
        obtain ⟨h2, h3, h4⟩ := scan_more (x :: l) 1 (k - 1) (by omega) (by omega) (by omega) hn hs
        rw [show 1 + (k - 1) = k by omega, h] at h4
        rcases List.mem_cons.1 hp with rfl | hp
        · have := scan_pre (x :: l) 1 h2
          unfold WholeP
          rw [this, List.length_take, Nat.min_eq_left hle]
        · refine ih _ (k - 1) ?_ (by omega) (by omega) (fun y hy => hn y (List.mem_of_mem_drop hy)) ?_ p hp
          · rw [List.length_drop]; simp only [List.length_cons] at hm ⊢; omega
          · rw [Prod.ext_iff]
            exact ⟨by rw [List.length_drop]; simp only at h4 ⊢; omega, h3⟩
/-- Whole ones one behind the other are the parts. -/
theorem split_wholes (ps : List (List Nd)) (h : ∀ p ∈ ps, WholeP p) : splitL ps.flatten = ps := by
  induction ps with
  | nil => rfl
  | cons p ps ih =>
    have hp := h p (by simp)
    unfold WholeP at hp
    cases p with
    | nil => simp [scanW] at hp
    | cons x p =>
      have hs : scanW 1 (x :: (p ++ ps.flatten)) = ((x :: p).length, true) := by
        have := scan_stay (x :: p) 1 ps.flatten (by rw [hp])
        rw [hp, List.cons_append] at this; exact this
      rw [List.flatten_cons, List.cons_append, splitL_cons, hs, ← List.cons_append, List.take_left' rfl, List.drop_left' rfl, ih fun q hq => h q (by simp [hq])]
theorem core_in {a : List Nd} (h : isCoreB a = true) (hn : ∀ x ∈ a, x.n ≤ 9223372036854775807) : InN a := fun x hx => ⟨fitsB_n (core_fits h x hx).1, hn x hx⟩
theorem core_wp {a : List Nd} (h : isCoreB a = true) : WholeP a := by
  obtain ⟨h1, h2⟩ := core_whole h
  exact Prod.ext h2 h1
/-- What an or is made of is whole. -/
theorem flat_whole {a : List Nd} (h : isCoreB a = true) (hn : ∀ x ∈ a, x.n ≤ 9223372036854775807) : ∀ m ∈ flatO [a], WholeP m := by
  intro m hm
  unfold flatO at hm
  simp only [List.flatMap_cons, List.flatMap_nil, List.append_nil] at hm
  split at hm
  · rename_i h5
    cases a with
    | nil => simp [isB] at h5
    | cons x t =>
      have hop : x.op = 5 := by simpa [isB] using h5
      have hin := core_in h hn
      have hf := (core_fits h x (by simp)).1
      have hn2 : 2 ≤ x.n := by
        unfold fitsB at hf
        simp only [Bool.and_eq_true] at hf
        have := hf.1.1
        unfold fitsNB at this
        rw [hop] at this
        simpa using this
      have hn1 := hn x (by simp)
      have hw := core_wp h
      unfold WholeP scanW at hw
      have e1 : wrap64 (1 + wrap64 (x.n - 1)) = x.n := by unfold wrap64; omega
      rw [e1, if_neg (by omega)] at hw
      simp only [Prod.mk.injEq, List.length_cons] at hw
      exact parts_whole t.length t x.n (Nat.le_refl _) (by omega) hn1 (fun y hy => hin y (by simp [hy])) (Prod.ext (by have := hw.1; omega) hw.2) m hm
  · simp only [List.mem_singleton] at hm
    subst hm; exact core_wp h
def Settled (M : List (List Nd)) : Prop := M.foldl addN [] = M ∧ ∀ m ∈ M, isB m 1 = false
theorem addN_settled {M : List (List Nd)} (h : Settled M) (x : List Nd) : Settled (addN M x) := by
  by_cases hx : (isB x 1 || M.any (fun y => sameB y x)) = true
  · have : addN M x = M := by unfold addN; rw [if_pos hx]
    rw [this]; exact h
  · have e : addN M x = M ++ [x] := by unfold addN; rw [if_neg hx]
    rw [e]
    refine ⟨?_, fun m hm => ?_⟩
    · rw [List.foldl_append, h.1]
      exact e
    · rcases List.mem_append.1 hm with hm | hm
      · exact h.2 m hm
      · simp only [List.mem_singleton] at hm
        subst hm
        simp only [Bool.or_eq_true, not_or, Bool.not_eq_true] at hx
        exact hx.1
theorem foldN_settled (l : List (List Nd)) : ∀ {M : List (List Nd)}, Settled M → Settled (l.foldl addN M) := by
  induction l with
  | nil => intro M h; exact h
  | cons x l ih => intro M h; exact ih (addN_settled h x)
theorem someN_settled (l : List (List Nd)) : Settled (someN l) := foldN_settled _ ⟨rfl, fun m hm => by simp at hm⟩
theorem orL_cases (l : List (List Nd)) : orL l = [tt] ∨ orL l = [ff] ∨ (surelyN (someN l) = false ∧ ∃ x, someN l = [x] ∧ orL l = x) ∨ (surelyN (someN l) = false ∧ 2 ≤ (someN l).length ∧ orL l = mkL 5 0 0 (someN l)) := by
  unfold orL
  split
  · exact .inl rfl
  · rename_i hs
    have hs' : surelyN (someN l) = false := by simpa using hs
    split
    · exact .inr (.inl rfl)
    · split
      · rename_i h1
        obtain ⟨x, hx⟩ := List.length_eq_one_iff.1 h1
        exact .inr (.inr (.inl ⟨hs', x, hx, by rw [hx]; simp⟩))
      · exact .inr (.inr (.inr ⟨hs', by omega, rfl⟩))
/-- An or is made again of an or that was made. -/
theorem orL_again {a b : List Nd} (ha : isCoreB a = true) (hb : isCoreB b = true) (na : ∀ x ∈ a, x.n ≤ 9223372036854775807) (nb : ∀ x ∈ b, x.n ≤ 9223372036854775807) (fa : orL [a] = a) (fb : orL [b] = b) : orL [orL [a, b]] = orL [a, b] := by
  have hS := someN_settled [a, b]
  have hF : flatO [a, b] = flatO [a] ++ flatO [b] := flatO_append [a] [b]
  have hW : ∀ m ∈ someN [a, b], WholeP m := fun m hm => by
    rcases foldN_mem hm with h | h
    · simp at h
    · rw [hF] at h
      rcases List.mem_append.1 h with h | h
      · exact flat_whole ha na m h
      · exact flat_whole hb nb m h
  rcases orL_cases [a, b] with h | h | ⟨hs, x, hx, ho⟩ | ⟨hs, h2, ho⟩
  · rw [h]; rfl
  · rw [h]; rfl
  · rw [ho]
    by_cases h5 : isB x 5 = true
    · exfalso
      -- x is an or within an or: then that one's parts are two at least, and all of them x
      have key : ∀ c : List Nd, orL [c] = c → (∀ y ∈ flatO [c], isB y 1 = true ∨ y ∈ someN [a, b]) → x ∈ flatO [c] → False := fun c fc hin hxc => by
        have hc5 : isB c 5 = true := by
          cases q : isB c 5 with
          | true => rfl
          | false =>
            have : flatO [c] = [c] := by simp [flatO, q]
            rw [this] at hxc
            simp only [List.mem_singleton] at hxc
            rw [hxc, q] at h5; cases h5
        have hfl : flatO [c] = splitL (c.drop 1) := by simp [flatO, hc5]
        have hcs := someN_settled [c]
        have hmem : ∀ y ∈ someN [c], y = x := fun y hy => by
          have hyf : y ∈ flatO [c] := by
            rcases foldN_mem hy with q | q
            · simp at q
            · exact q
          rcases hin y hyf with q | q
          · rw [hcs.2 y hy] at q; cases q
          · rw [hx] at q; simpa using q
        rcases orL_cases [c] with h | h | ⟨_, y, hy, h⟩ | ⟨_, h2, _⟩
        · rw [fc] at h; rw [h] at hc5; cases hc5
        · rw [fc] at h; rw [h] at hc5; cases hc5
        · rw [fc] at h
          have hyf : y ∈ flatO [c] := by
            have : y ∈ someN [c] := by rw [hy]; simp
            rcases foldN_mem this with q | q
            · simp at q
            · exact q
          rw [hfl] at hyf
          have h1 : y.length ≤ (splitL (c.drop 1)).flatten.length := by
            obtain ⟨A, B, e⟩ := List.append_of_mem hyf
            rw [e]; simp; omega
          rw [splitL_flat, List.length_drop, ← h] at h1
          have : 0 < c.length := by cases c with
            | nil => simp [isB] at hc5
            | cons z c => simp
          omega
        · match hm : someN [c], h2 with
          | y :: z :: r, _ =>
            have e1 := hmem y (by rw [hm]; simp)
            have e2 := hmem z (by rw [hm]; simp)
            have hst := hcs.1
            have hnf := hcs.2 y (by rw [hm]; simp)
            rw [hm, e1, e2] at hst
            have a1 : addN [] x = [x] := by unfold addN; rw [← e1, hnf]; rfl
            have a2 : addN [x] x = [x] := addN_skip (.inr (by simp))
            simp only [List.foldl_cons] at hst
            rw [a1, a2] at hst
            have := (foldN_tot r [x]).2
            rw [hst] at this
            simp at this; omega
      have hxm : x ∈ flatO [a, b] := by
        have : x ∈ someN [a, b] := by rw [hx]; simp
        rcases foldN_mem this with q | q
        · simp at q
        · exact q
      have hall := (foldN_in (flatO [a, b]) []).1
      rw [hF] at hxm hall
      rcases List.mem_append.1 hxm with q | q
      · exact key a fa (fun y hy => by have := hall y (List.mem_append_left _ hy); rw [← hF] at this; exact this) q
      · exact key b fb (fun y hy => by have := hall y (List.mem_append_right _ hy); rw [← hF] at this; exact this) q
    · have hfx : flatO [x] = [x] := by simp [flatO, h5]
      have hsx : someN [x] = [x] := by
        unfold someN
        rw [hfx, ← hx]; exact hS.1
      unfold orL
      rw [hsx, ← hx, hs]
      simp [hx]
  · rw [ho]
    have hfo : flatO [mkL 5 0 0 (someN [a, b])] = someN [a, b] := by
      have : isB (mkL 5 0 0 (someN [a, b])) 5 = true := rfl
      unfold flatO
      simp only [List.flatMap_cons, List.flatMap_nil, List.append_nil]
      rw [if_pos this]
      exact split_wholes _ hW
    have hso : someN [mkL 5 0 0 (someN [a, b])] = someN [a, b] := by
      show (flatO [mkL 5 0 0 (someN [a, b])]).foldl addN [] = _
      rw [hfo]; exact hS.1
    have e : orL [mkL 5 0 0 (someN [a, b])] = orL [a, b] := orL_some hso
    rw [e, ho]
/-- True is all of an or. -/
theorem orL_tt (a : List Nd) : orL [a, [tt]] = [tt] := by
  have hm : [tt] ∈ someN [a, [tt]] := by
    rcases (foldN_in (flatO [a, [tt]]) []).1 [tt] (by
      have : flatO [a, [tt]] = flatO [a] ++ [[tt]] := flatO_append [a] [[tt]]
      rw [this]; simp) with h | h
    · cases h
    · exact h
  have hs : surelyN (someN [a, [tt]]) = true := by
    unfold surelyN
    rw [List.any_eq_true]
    exact ⟨_, hm, rfl⟩
  unfold orL
  rw [hs]; rfl
theorem andL_ff (a : List Nd) : andL [a, [ff]] = [ff] := by
  show notL (orL [notL a, [tt]]) = [ff]
  rw [orL_tt]; rfl
/-- Not what says nothing: no not of a not, of true or of false. -/
def PlainNot (a : List Nd) : Prop := isB a 3 = true → isB (a.drop 1) 3 = false ∧ isB (a.drop 1) 0 = false ∧ isB (a.drop 1) 1 = false
theorem core_not {a : List Nd} (h : isCoreB a = true) (h3 : isB a 3 = true) : a = ⟨3, 1, 0, 0, [], 0⟩ :: a.drop 1 ∧ 1 < a.length := by
  cases a with
  | nil => simp [isB] at h3
  | cons x t =>
    have hop : x.op = 3 := by simpa [isB] using h3
    have hf := (core_fits h x (by simp)).1
    obtain ⟨w1, w2⟩ := core_whole h
    unfold fitsB at hf
    simp only [Bool.and_eq_true] at hf
    obtain ⟨⟨f1, f2⟩, f3⟩ := hf
    have hn : x.n = 1 := by
      unfold fitsNB at f1
      rw [if_neg (by omega), if_pos (by omega)] at f1
      simpa using f1
    unfold fitsIB at f2
    rw [if_neg (by omega)] at f2
    unfold fitsAB at f3
    rw [if_neg (by omega)] at f3
    simp only [Bool.and_eq_true, beq_iff_eq] at f2 f3
    have ht : t ≠ [] := by
      intro e
      subst e
      unfold scanW at w1
      rw [hn] at w1
      have e1 : wrap64 (1 + wrap64 (1 - 1)) = 1 := by unfold wrap64; omega
      rw [e1, if_neg (by omega)] at w1
      simp [scanW] at w1
    obtain ⟨xo, xn, xf, xt, xs, xm⟩ := x
    simp only at hop hn f2 f3
    obtain ⟨e1, e2⟩ := f2
    obtain ⟨e3, e4⟩ := f3
    have e5 : xs = [] := List.length_eq_zero_iff.1 e3
    subst hop hn e1 e2 e4 e5
    have hl : 0 < t.length := List.length_pos_iff.2 ht
    exact ⟨rfl, by simp; omega⟩
theorem notL_mk {n : List Nd} (h1 : isB n 1 = false) (h0 : isB n 0 = false) (h3 : isB n 3 = false) : notL n = ⟨3, 1, 0, 0, [], 0⟩ :: n := by
  unfold notL
  rw [h1, h0, h3]
  simp [mkL]
theorem notL_twice {a : List Nd} (h : isCoreB a = true) (hp : PlainNot a) : notL (notL a) = a := by
  cases h1 : isB a 1 with
  | true => rw [core_leaf h 1 (.inr rfl) h1]; rfl
  | false =>
    cases h0 : isB a 0 with
    | true => rw [core_leaf h 0 (.inl rfl) h0]; rfl
    | false =>
      cases h3 : isB a 3 with
      | true =>
        have e : notL a = a.drop 1 := by unfold notL; rw [h1, h0, h3]; rfl
        obtain ⟨p1, p2, p3⟩ := hp h3
        rw [e, notL_mk p3 p2 p1]
        exact (core_not h h3).1.symm
      | false =>
        rw [notL_mk h1 h0 h3]
        rfl
/-- One or its not: true. -/
theorem orL_not {a : List Nd} (h : isCoreB a = true) (hp : PlainNot a) (h5 : isB a 5 = false) (h35 : isB a 3 = true → isB (a.drop 1) 5 = false) : orL [a, notL a] = [tt] := by
  cases h1 : isB a 1 with
  | true => rw [core_leaf h 1 (.inr rfl) h1]; rfl
  | false =>
    cases h0 : isB a 0 with
    | true => rw [core_leaf h 0 (.inl rfl) h0]; rfl
    | false =>
      have hall := (foldN_in (flatO [a, notL a]) []).1
      have hn5 : isB (notL a) 5 = false := by
        cases h3 : isB a 3 with
        | true =>
          have e : notL a = a.drop 1 := by unfold notL; rw [h1, h0, h3]; rfl
          rw [e]; exact h35 h3
        | false => rw [notL_mk h1 h0 h3]; rfl
      have hfl : flatO [a, notL a] = [a, notL a] := by simp [flatO, h5, hn5]
      rw [hfl] at hall
      have hn1 : isB (notL a) 1 = false := by
        cases h3 : isB a 3 with
        | true =>
          have e : notL a = a.drop 1 := by unfold notL; rw [h1, h0, h3]; rfl
          rw [e]; exact (hp h3).2.2
        | false => rw [notL_mk h1 h0 h3]; rfl
      have ha : a ∈ someN [a, notL a] := by
        unfold someN
        rw [hfl]
        rcases hall a (by simp) with q | q
        · rw [h1] at q; cases q
        · exact q
      have hna : notL a ∈ someN [a, notL a] := by
        unfold someN
        rw [hfl]
        rcases hall (notL a) (by simp) with q | q
        · rw [hn1] at q; cases q
        · exact q
      have hs : surelyN (someN [a, notL a]) = true := by
        unfold surelyN
        rw [List.any_eq_true]
        cases h3 : isB a 3 with
        | true =>
          have e : notL a = a.drop 1 := by unfold notL; rw [h1, h0, h3]; rfl
          refine ⟨a, ha, ?_⟩
          rw [h3, h0]
          simp only [Bool.false_or, Bool.true_and, List.any_eq_true]
          exact ⟨_, hna, by rw [e]; exact same_refl _⟩
        | false =>
          refine ⟨notL a, hna, ?_⟩
          have e := notL_mk h1 h0 h3
          have e3 : isB (notL a) 3 = true := by rw [e]; rfl
          have ed : (notL a).drop 1 = a := by rw [e]; rfl
          rw [e3, ed]
          have : (someN [a, notL a]).any (fun y => sameB y a) = true := by rw [List.any_eq_true]; exact ⟨a, ha, same_refl a⟩
          rw [this]; simp
      unfold orL
      rw [hs]; rfl
end Go.Proofs.Ytpgdkgilmcipkaa
