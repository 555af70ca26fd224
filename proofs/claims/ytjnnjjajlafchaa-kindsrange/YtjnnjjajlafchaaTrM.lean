/- Trees as lists of nodes: how many nodes a part has, its parts, and that a formula passes just if its parts do. Conditions: fewer than 2^61 nodes. -/
import Derived.Test.YtjnnjjajlafchaaKnL
namespace Go.Proofs.Ytjnnjjajlafchaa
open Go.RowKit
set_option linter.unusedVariables false
set_option maxRecDepth 100000

theorem wrap64_id {z : Int} (h : -9223372036854775808 ≤ z) (k : z ≤ 9223372036854775807) : wrap64 z = z := IntWalk.wrap64_in z ⟨h, k⟩
/-- How many nodes the first of so many parts that are asked take in all, and whether they are all there. -/
def scanW : Int → List Nd → Nat × Bool
  | _, [] => (0, false)
  | asked, x :: r => if wrap64 (asked + wrap64 (x.n - 1)) ≤ 0 then (1, wrap64 (asked + wrap64 (x.n - 1)) == 0) else ((scanW (wrap64 (asked + wrap64 (x.n - 1))) r).1 + 1, (scanW (wrap64 (asked + wrap64 (x.n - 1))) r).2)
/-- The same, where none may be asked. -/
def scanN (k : Nat) (l : List Nd) : Nat × Bool := if k = 0 then (0, true) else scanW k l
theorem scanW_cons (k : Nat) (x : Nd) (l : List Nd) (hk : 0 < k) (h0 : 0 ≤ x.n) (hb : k + x.n.toNat ≤ 4611686018427387904) : scanW k (x :: l) = ((scanN (k - 1 + x.n.toNat) l).1 + 1, (scanN (k - 1 + x.n.toNat) l).2) := by
  have e1 : wrap64 (x.n - 1) = x.n - 1 := wrap64_id (by omega) (by omega)
  have e2 : wrap64 ((k : Int) + (x.n - 1)) = ((k - 1 + x.n.toNat : Nat) : Int) := by rw [wrap64_id (by omega) (by omega)]; omega
  unfold scanW scanN
  rw [e1, e2]
  by_cases h : k - 1 + x.n.toNat = 0
  · rw [h]; simp
  · rw [if_neg (by omega), if_neg h]
/-- The first part of a list: its nodes, and what tells them apart from what is behind. -/
def PartD (d : Nat) (p : List Nd) : Prop := ∀ s, restD d (p ++ s) = some s
theorem iter_parts (d m : Nat) (ih : ∀ l r, restD d l = some r → ∃ p, l = p ++ r ∧ PartD d p) : ∀ (l r : List Nd), iterO (restD d) m l = some r → ∃ ps : List (List Nd), ps.length = m ∧ l = ps.flatten ++ r ∧ ∀ p ∈ ps, PartD d p := by
  induction m with
  | zero => intro l r h; cases h; exact ⟨[], rfl, rfl, fun p hp => by cases hp⟩
  | succ m im =>
    intro l r h
    simp only [iterO] at h
    cases hq : restD d l with
    | none => rw [hq] at h; cases h
    | some s =>
      rw [hq] at h
      obtain ⟨p, rfl, hp⟩ := ih l s hq
      obtain ⟨ps, h1, rfl, h3⟩ := im s r h
      refine ⟨p :: ps, by simp [h1], by simp, fun q hq => ?_⟩
      rcases List.mem_cons.1 hq with rfl | hq
      · exact hp
      · exact h3 q hq
theorem iter_flat (d : Nat) (ps : List (List Nd)) (h : ∀ p ∈ ps, PartD d p) (s : List Nd) : iterO (restD d) ps.length (ps.flatten ++ s) = some s := by
  induction ps with
  | nil => rfl
  | cons p ps ih =>
    simp only [List.length_cons, List.flatten_cons, iterO, List.append_assoc]
    rw [h p (by simp) (ps.flatten ++ s)]
    exact ih fun q hq => h q (by simp [hq])
theorem rest_part (d : Nat) : ∀ (l r : List Nd), restD d l = some r → ∃ p, l = p ++ r ∧ PartD d p := by
  induction d with
  | zero => intro l r h; cases h
  | succ d ih =>
    intro l r h
    cases l with
    | nil => cases h
    | cons x l =>
      simp only [restD] at h
      split at h
      · rename_i hx
        obtain ⟨ps, h1, rfl, h3⟩ := iter_parts d _ ih l r h
        refine ⟨x :: ps.flatten, rfl, fun s => ?_⟩
        simp only [restD, List.cons_append]
        rw [if_pos hx, ← h1]
        exact iter_flat d ps h3 s
      · cases h
theorem PartD.ne {d : Nat} {p : List Nd} (h : PartD d p) : p ≠ [] := by
  intro e; subst e
  cases d with
  | zero => have := h []; simp [restD] at this
  | succ d => have := h []; simp [restD] at this
/-- A part that stands within fewer. -/
theorem PartD.up {d : Nat} : ∀ {p : List Nd}, PartD d p → PartD (d + 1) p := by
  induction d with
  | zero => intro p h; have := h []; simp [restD] at this
  | succ d ih =>
    intro p h s
    have h0 := h s
    cases p with
    | nil => exact absurd rfl h.ne
    | cons x p =>
      simp only [List.cons_append] at h0 ⊢
      rw [restD] at h0 ⊢
      split at h0
      · rename_i hx
        rw [if_pos hx]
        obtain ⟨ps, h1, h2, h3⟩ := iter_parts d _ (rest_part d) _ _ h0
        rw [h2, ← h1]
        exact iter_flat (d + 1) ps (fun q hq => ih (h3 q hq)) s
      · cases h0
/-- How many parts a part says, and how many nodes it has. -/
theorem scan_parts (d : Nat) (ih : ∀ p, PartD d p → ∀ (k : Nat) (s : List Nd), k + p.length ≤ 2305843009213693952 → scanN (k + 1) (p ++ s) = ((scanN k s).1 + p.length, (scanN k s).2)) (ps : List (List Nd)) (h : ∀ p ∈ ps, PartD d p) : ∀ (k : Nat) (s : List Nd), k + ps.flatten.length ≤ 2305843009213693952 → scanN (k + ps.length) (ps.flatten ++ s) = ((scanN k s).1 + ps.flatten.length, (scanN k s).2) := by
  induction ps with
  | nil => intro k s _; simp
  | cons p ps im =>
    intro k s hb
    have hl : ps.length ≤ ps.flatten.length := by
      clear im ih hb
      induction ps with
      | nil => simp
      | cons q qs iq =>
        have hq : 0 < q.length := List.length_pos_iff.2 (h q (by simp)).ne
        have := iq fun z hz => h z (by simp only [List.mem_cons] at hz ⊢; rcases hz with rfl | hz; exact .inl rfl; exact .inr (.inr hz))
        simp only [List.flatten_cons, List.length_append, List.length_cons]; omega
    simp only [List.flatten_cons, List.length_append, List.length_cons] at hb ⊢
    rw [List.append_assoc, show k + (ps.length + 1) = (k + ps.length) + 1 by omega, ih p (h p (by simp)) _ _ (by omega), im (fun q hq => h q (by simp [hq])) k s (by omega)]
    simp only [Prod.mk.injEq, and_true]; omega
theorem scan_part (d : Nat) : ∀ p, PartD d p → ∀ (k : Nat) (s : List Nd), k + p.length ≤ 2305843009213693952 → scanN (k + 1) (p ++ s) = ((scanN k s).1 + p.length, (scanN k s).2) := by
  induction d with
  | zero => intro p h; have := h []; simp [restD] at this
  | succ d ih =>
    intro p h k s hb
    cases p with
    | nil => exact absurd rfl h.ne
    | cons x p =>
      have h0 := h []
      simp only [List.append_nil, restD] at h0
      split at h0
      · rename_i hx
        obtain ⟨ps, h1, h2, h3⟩ := iter_parts d _ (rest_part d) _ _ h0
        simp only [List.append_nil] at h2
        subst h2
        have hl : ps.length ≤ ps.flatten.length := by
          clear h0 hb h1 h
          induction ps with
          | nil => simp
          | cons q qs iq =>
            have hq : 0 < q.length := List.length_pos_iff.2 (h3 q (by simp)).ne
            have := iq fun z hz => h3 z (by simp [hz])
            simp only [List.flatten_cons, List.length_append, List.length_cons]; omega
        have hn := fitsB_n hx
        simp only [List.length_cons] at hb ⊢
        rw [show scanN (k + 1) (x :: ps.flatten ++ s) = scanW ((k + 1 : Nat) : Int) (x :: (ps.flatten ++ s)) by simp [scanN]]
        rw [scanW_cons (k + 1) x _ (by omega) hn (by omega), ← h1, Nat.add_sub_cancel, scan_parts d ih ps h3 k s (by omega)]
        simp only [Prod.mk.injEq, and_true]; omega
      · cases h0
theorem scan_one {d : Nat} {p : List Nd} (h : PartD d p) (s : List Nd) (hb : p.length ≤ 2305843009213693952) : scanW 1 (p ++ s) = (p.length, true) := by
  have := scan_part d p h 0 s (by omega)
  simpa [scanN] using this
theorem scanW_le (l : List Nd) : ∀ k, (scanW k l).1 ≤ l.length := by
  induction l with
  | nil => intro k; simp [scanW]
  | cons x l ih =>
    intro k
    unfold scanW
    split
    · simp
    · have := ih (wrap64 (k + wrap64 (x.n - 1))); simp only [List.length_cons]; omega
theorem scanW_pos (k : Int) (x : Nd) (l : List Nd) : 0 < (scanW k (x :: l)).1 := by
  unfold scanW; split <;> simp
/-- The parts behind a first node: as long as some stand there. -/
def splitF : Nat → List Nd → List (List Nd)
  | 0, _ => []
  | _ + 1, [] => []
  | f + 1, x :: r => (x :: r).take (scanW 1 (x :: r)).1 :: splitF f ((x :: r).drop (scanW 1 (x :: r)).1)
theorem splitF_more : ∀ (f g : Nat) (l : List Nd), l.length ≤ f → l.length ≤ g → splitF f l = splitF g l := by
  intro f
  induction f with
  | zero =>
    intro g l h _
    rw [List.length_eq_zero_iff.1 (Nat.le_zero.1 h)]
    cases g <;> rfl
  | succ f ih =>
    intro g l h hg
    cases l with
    | nil => cases g <;> rfl
    | cons x l =>
      cases g with
      | zero => simp at hg
      | succ g =>
        have hp := scanW_pos 1 x l
        simp only [splitF, List.length_cons] at h hg ⊢
        rw [ih g _ (by rw [List.length_drop, List.length_cons]; omega) (by rw [List.length_drop, List.length_cons]; omega)]
/-- The parts that stand one behind the other. -/
def splitL (l : List Nd) : List (List Nd) := splitF l.length l
theorem splitL_nil : splitL [] = [] := rfl
theorem splitL_cons (x : Nd) (l : List Nd) : splitL (x :: l) = (x :: l).take (scanW 1 (x :: l)).1 :: splitL ((x :: l).drop (scanW 1 (x :: l)).1) := by
  have hp := scanW_pos 1 x l
  unfold splitL
  simp only [List.length_cons, splitF]
  rw [splitF_more l.length _ _ (by rw [List.length_drop, List.length_cons]; omega) (Nat.le_refl _)]
theorem splitL_ne {l : List Nd} (h : 0 < l.length) : splitL l = l.take (scanW 1 l).1 :: splitL (l.drop (scanW 1 l).1) := by
  cases l with
  | nil => simp at h
  | cons x l => exact splitL_cons x l
theorem splitL_parts {d : Nat} (ps : List (List Nd)) (h : ∀ p ∈ ps, PartD d p) (hb : ps.flatten.length ≤ 2305843009213693952) : splitL ps.flatten = ps := by
  induction ps with
  | nil => rfl
  | cons p ps ih =>
    simp only [List.flatten_cons, List.length_append] at hb ⊢
    have hs := scan_one (h p (by simp)) ps.flatten (by omega)
    cases p with
    | nil => exact absurd rfl (h [] (by simp)).ne
    | cons x p =>
      rw [List.cons_append] at hs ⊢
      rw [splitL_cons, hs]
      simp only [List.length_cons]
      rw [← List.cons_append, List.take_left' (by simp), List.drop_left' (by simp), ih (fun q hq => h q (by simp [hq])) (by omega)]
theorem PartD.rest {d : Nat} {p : List Nd} (h : PartD d p) : restD d p = some [] := by have := h []; rwa [List.append_nil] at this
theorem valid_rest {l : List Nd} (h : validB l = true) : l.length ≤ 300 ∧ restD 24 l = some [] := by
  unfold validB at h
  simp only [Bool.and_eq_true, decide_eq_true_eq] at h
  refine ⟨h.1, ?_⟩
  have h2 := h.2
  split at h2
  · rename_i r hr
    simp only [beq_iff_eq] at h2
    rw [hr, List.length_eq_zero_iff.1 h2]
  · cases h2
theorem rest_valid {l : List Nd} (h : l.length ≤ 300) (hr : restD 24 l = some []) : validB l = true := by
  unfold validB; rw [hr]; simp [h]
/-- The parts of a tree's first part are trees. -/
theorem kids_of {x : Nd} {t : List Nd} (h : validB (x :: t) = true) : fitsB x = true ∧ (splitL t).length = x.n.toNat ∧ (splitL t).flatten = t ∧ (∀ p ∈ splitL t, PartD 23 p) ∧ ∀ p ∈ splitL t, validB p = true := by
  obtain ⟨hl, hr⟩ := valid_rest h
  simp only [restD] at hr
  split at hr
  · rename_i hx
    obtain ⟨ps, h1, h2, h3⟩ := iter_parts 23 _ (rest_part 23) _ _ hr
    rw [List.append_nil] at h2
    subst h2
    simp only [List.length_cons] at hl
    have e := splitL_parts ps h3 (by omega)
    rw [e]
    refine ⟨hx, h1, rfl, h3, fun p hp => rest_valid ?_ (h3 p hp).up.rest⟩
    have : p.length ≤ ps.flatten.length := by
      obtain ⟨a, b, rfl⟩ := List.append_of_mem hp
      simp only [List.flatten_append, List.flatten_cons, List.length_append]; omega
    omega
  · cases hr
theorem partsE_append (l : List Sig) (a b : List Nd) : partsE l (a ++ b) = 0 ↔ partsE l a = 0 ∧ partsE l b = 0 := by
  induction a with
  | nil => simp [partsE]
  | cons x a ih =>
    simp only [List.cons_append, partsE]
    split
    · exact ih
    · rename_i h; exact ⟨fun q => absurd q h, fun q => absurd q.1 h⟩
theorem partsE_flat (l : List Sig) (ps : List (List Nd)) : partsE l ps.flatten = 0 ↔ ∀ p ∈ ps, partsE l p = 0 := by
  induction ps with
  | nil => simp [partsE]
  | cons p ps ih => rw [List.flatten_cons, partsE_append, ih]; simp
/-- A tree passes just if its parts do and what its first node says does. -/
theorem checkE_kids (l : List Sig) {x : Nd} {t : List Nd} (h : validB (x :: t) = true) : checkE l (x :: t) = 0 ↔ (∀ p ∈ splitL t, checkE l p = 0) ∧ partE l x = 0 := by
  obtain ⟨_, _, h1, _, h2⟩ := kids_of h
  have e : ∀ n, validB n = true → checkE l n = partsE l n := fun n hn => by simp [checkE, hn]
  rw [e _ h]
  have h3 : partsE l (x :: t) = 0 ↔ partE l x = 0 ∧ partsE l t = 0 := by
    simp only [partsE]
    split
    · rename_i q; simp [q]
    · rename_i q; exact ⟨fun k => absurd k q, fun k => absurd k.1 q⟩
  rw [h3]
  have h4 := partsE_flat l (splitL t)
  rw [h1] at h4
  rw [h4, and_comm]
  refine and_congr_left fun _ => ⟨fun k p hp => by rw [e p (h2 p hp)]; exact k p hp, fun k p hp => by rw [← e p (h2 p hp)]; exact k p hp⟩
end Go.Proofs.Ytjnnjjajlafchaa
