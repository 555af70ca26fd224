/- An atom's exact sum lies within its range. Conditions: none. -/
import Derived.Test.YtjnnjjajlafchaaKrB
namespace Go.Proofs.Ytjnnjjajlafchaa
open Go.RowKit
set_option linter.unusedVariables false
set_option maxRecDepth 100000

theorem term_lo {a b c v : Int} (h : crossOv a b c c false = false) (h1 : a ≤ v) (h2 : v ≤ b) : crossLo a b c c * 4294967296 ≤ v * c := by
  unfold crossOv at h
  simp only [Bool.or_eq_false_iff] at h
  obtain ⟨⟨⟨o1, _⟩, o2⟩, _⟩ := h
  have m1 : mulF a c false * 4294967296 ≤ a * c := by unfold mulF; simp only [Bool.false_eq_true, if_false]; omega
  have m2 : mulF b c false * 4294967296 ≤ b * c := by unfold mulF; simp only [Bool.false_eq_true, if_false]; omega
  have l1 : crossLo a b c c ≤ mulF a c false := by unfold crossLo min4; rw [overF_clamp o1]; omega
  have l2 : crossLo a b c c ≤ mulF b c false := by unfold crossLo min4; rw [overF_clamp o2]; omega
  rcases corner_le h1 h2 (Int.le_refl c) (Int.le_refl c) with h | h | h | h <;> omega
theorem term_hi {a b c v : Int} (h : crossOv a b c c true = false) (h1 : a ≤ v) (h2 : v ≤ b) : v * c ≤ crossHi a b c c * 4294967296 := by
  unfold crossOv at h
  simp only [Bool.or_eq_false_iff] at h
  obtain ⟨⟨⟨o1, _⟩, o2⟩, _⟩ := h
  have m1 : a * c ≤ mulF a c true * 4294967296 := by unfold mulF; simp only [if_true]; omega
  have m2 : b * c ≤ mulF b c true * 4294967296 := by unfold mulF; simp only [if_true]; omega
  have l1 : mulF a c true ≤ crossHi a b c c := by unfold crossHi max4; rw [overF_clamp o1]; omega
  have l2 : mulF b c true ≤ crossHi a b c c := by unfold crossHi max4; rw [overF_clamp o2]; omega
  rcases corner_ge h1 h2 (Int.le_refl c) (Int.le_refl c) with h | h | h | h <;> omega
theorem sums_within (l : List Sig) (f : ByteArray → Int) (ts : List Tm) (hf : ∀ t ∈ ts, (sigOf l t.name).lo ≤ f t.name ∧ f t.name ≤ (sigOf l t.name).hi) (ho : ts.any (timesO l) = false) :
    sumLo l ts * 4294967296 ≤ sumA f ts ∧ sumA f ts ≤ sumHi l ts * 4294967296 := by
  induction ts with
  | nil => simp [sumLo, sumHi, sumL, sumA]
  | cons t ts ih =>
    simp only [List.any_cons, Bool.or_eq_false_iff] at ho
    have i := ih (fun x hx => hf x (by simp [hx])) ho.2
    have ht := hf t (by simp)
    unfold timesO at ho
    simp only [Bool.or_eq_false_iff] at ho
    have a1 := term_lo ho.1.1 ht.1 ht.2
    have a2 := term_hi ho.1.2 ht.1 ht.2
    have e1 : sumLo l (t :: ts) = crossLo (sigOf l t.name).lo (sigOf l t.name).hi t.times t.times + sumLo l ts := by simp [sumLo, sumL, timesS]
    have e2 : sumHi l (t :: ts) = crossHi (sigOf l t.name).lo (sigOf l t.name).hi t.times t.times + sumHi l ts := by simp [sumHi, sumL, timesS]
    have e3 : sumA f (t :: ts) = t.times * f t.name + sumA f ts := by simp [sumA]
    rw [e1, e2, e3, Int.mul_comm t.times]
    omega
theorem sumR_in {l : List Sig} {ts : List Tm} (h : (sumR l ts).2.2 = 0) : ts.any (timesO l) = false ∧ (sumR l ts).1 = sumLo l ts ∧ (sumR l ts).2.1 = sumHi l ts ∧ B64 (sumLo l ts) ∧ B64 (sumHi l ts) := by
  unfold sumR at h ⊢
  cases hs : sumO l ts with
  | true => rw [hs] at h; simp at h
  | false =>
    unfold sumO at hs
    simp only [Bool.or_eq_false_iff] at hs
    obtain ⟨h1, h2, h3⟩ := hs
    exact ⟨h1, overF_clamp h2, overF_clamp h3, overF_false h2, overF_false h3⟩
theorem idxN_cons (x : Sig) (l : List Sig) (s : ByteArray) : idxN (x :: l) s = if eqS x.name s then 0 else idxN l s + 1 := by
  unfold idxN; rw [List.findIdx_cons]; cases eqS x.name s <;> simp
theorem lookN_in (s : ByteArray) : ∀ (l : List Sig) (vs : List Int), vs.length = l.length → (∀ i, i < l.length → (l.getD i sig0).lo ≤ vs.getD i 0 ∧ vs.getD i 0 ≤ (l.getD i sig0).hi) → hasB l s = true →
    (sigOf l s).lo ≤ lookN s (l.map (·.name)) vs ∧ lookN s (l.map (·.name)) vs ≤ (sigOf l s).hi
  | [], _, _, _, h => by simp [hasB, idxN] at h
  | x :: l, [], h, _, _ => by simp at h
  | x :: l, v :: vs, hl, hv, h => by
    have h0 := hv 0 (by simp)
    simp only [List.map_cons, lookN, List.headD_cons, List.tail_cons]
    cases he : eqS x.name s with
    | true =>
      have : sigOf (x :: l) s = x := by unfold sigOf; rw [idxN_cons, he]; simp
      rw [this, if_pos rfl]
      simpa using h0
    | false =>
      have : sigOf (x :: l) s = sigOf l s := by unfold sigOf; rw [idxN_cons, he]; simp
      rw [this, if_neg (by simp)]
      refine lookN_in s l vs (by simpa using hl) (fun i hi => by simpa using hv (i + 1) (by simpa using hi)) ?_
      unfold hasB at h ⊢
      rw [idxN_cons, he] at h
      simpa using h
end Go.Proofs.Ytjnnjjajlafchaa
