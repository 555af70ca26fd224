/- Trees as lists of nodes: how many nodes a part has, its parts, and that a formula passes just if its parts do. Conditions: fewer than 2^61 nodes. -/
import Derived.Test.YtipbjoeekbgnbaaKnL
import Derived.Test.YtipbjoeekbgnbaaCln
import Derived.Lib.AppendZerosOnto
namespace Go.Proofs.Ytipbjoeekbgnbaa
open Go.RowKit
set_option linter.unusedVariables false
set_option maxRecDepth 100000

theorem wrap64_id {z : Int} (h : -9223372036854775808 ≤ z) (k : z ≤ 9223372036854775807) : wrap64 z = z := IntWalk.wrap64_in z ⟨h, k⟩
/-- How many nodes the first of so many parts that are asked take in all, and whether they are all there. -/
def scanW : Int → List Nd → Nat × Bool
  | _, [] => (0, false)
  | asked, x :: r => if wrap64 (asked + wrap64 (x.n - 1)) ≤ 0 then (1, wrap64 (asked + wrap64 (x.n - 1)) == 0) else ((scanW (wrap64 (asked + wrap64 (x.n - 1))) r).1 + 1, (scanW (wrap64 (asked + wrap64 (x.n - 1))) r).2)
/-- The same, where none may be asked. -/
def scanN (k : Nat) (l : List Nd) : Nat × Bool := if k = 0 then (0, true) else scanW k l
theorem scanW_cons (k : Nat) (x : Nd) (l : List Nd) (hk : 0 < k) (h0 : 0 ≤ x.n) (hb : k + x.n.toNat ≤ 4611686018427387904) : scanW k (x :: l) = ((scanN (k - 1 + x.n.toNat) l).1 + 1, (scanN (k - 1 + x.n.toNat) l).2) := by
  have e1 : wrap64 (x.n - 1) = x.n - 1 := wrap64_id (by omega) (by omega)
  have e2 : wrap64 ((k : Int) + (x.n - 1)) = ((k - 1 + x.n.toNat : Nat) : Int) := by rw [wrap64_id (by omega) (by omega)]; omega
  unfold scanW scanN
  rw [e1, e2]
  by_cases h : k - 1 + x.n.toNat = 0
  · rw [h]; simp
  · rw [if_neg (by omega), if_neg h]
/-- The first part of a list: its nodes, and what tells them apart from what is behind. -/
def PartD (d : Nat) (p : List Nd) : Prop := ∀ s, restD d (p ++ s) = some s
theorem iter_parts (d m : Nat) (ih : ∀ l r, restD d l = some r → ∃ p, l = p ++ r ∧ PartD d p) : ∀ (l r : List Nd), iterO (restD d) m l = some r → ∃ ps : List (List Nd), ps.length = m ∧ l = ps.flatten ++ r ∧ ∀ p ∈ ps, PartD d p := by
  induction m with
  | zero => intro l r h; cases h; exact ⟨[], rfl, rfl, fun p hp => by cases hp⟩
  | succ m im =>
    intro l r h
    simp only [iterO] at h
    cases hq : restD d l with
    | none => rw [hq] at h; cases h
    | some s =>
      rw [hq] at h
      obtain ⟨p, rfl, hp⟩ := ih l s hq
      obtain ⟨ps, h1, rfl, h3⟩ := im s r h
      refine ⟨p :: ps, by simp [h1], by simp, fun q hq => ?_⟩
      rcases List.mem_cons.1 hq with rfl | hq
      · exact hp
      · exact h3 q hq
theorem iter_flat (d : Nat) (ps : List (List Nd)) (h : ∀ p ∈ ps, PartD d p) (s : List Nd) : iterO (restD d) ps.length (ps.flatten ++ s) = some s := by
  induction ps with
  | nil => rfl
  | cons p ps ih =>
    simp only [List.length_cons, List.flatten_cons, iterO, List.append_assoc]
    rw [h p (by simp) (ps.flatten ++ s)]
    exact ih fun q hq => h q (by simp [hq])
theorem rest_part (d : Nat) : ∀ (l r : List Nd), restD d l = some r → ∃ p, l = p ++ r ∧ PartD d p := by
  induction d with
  | zero => intro l r h; cases h
  | succ d ih =>
    intro l r h
    cases l with
    | nil => cases h
    | cons x l =>
      simp only [restD] at h
      split at h
      · rename_i hx
        obtain ⟨ps, h1, rfl, h3⟩ := iter_parts d _ ih l r h
        refine ⟨x :: ps.flatten, rfl, fun s => ?_⟩
        simp only [restD, List.cons_append]
        rw [if_pos hx, ← h1]
        exact iter_flat d ps h3 s
      · cases h
theorem PartD.ne {d : Nat} {p : List Nd} (h : PartD d p) : p ≠ [] := by
  intro e; subst e
  cases d with
  | zero => have := h []; simp [restD] at this
  | succ d => have := h []; simp [restD] at this
/-- A part that stands within fewer. -/
theorem PartD.up {d : Nat} : ∀ {p : List Nd}, PartD d p → PartD (d + 1) p := by
  induction d with
  | zero => intro p h; have := h []; simp [restD] at this
  | succ d ih =>
    intro p h s
    have h0 := h s
    cases p with
    | nil => exact absurd rfl h.ne
    | cons x p =>
      simp only [List.cons_append] at h0 ⊢
      rw [restD] at h0 ⊢
      split at h0
      · rename_i hx
        rw [if_pos hx]
        obtain ⟨ps, h1, h2, h3⟩ := iter_parts d _ (rest_part d) _ _ h0
        rw [h2, ← h1]
        exact iter_flat (d + 1) ps (fun q hq => ih (h3 q hq)) s
      · cases h0
/-- How many parts a part says, and how many nodes it has. -/
theorem scan_parts (d : Nat) (ih : ∀ p, PartD d p → ∀ (k : Nat) (s : List Nd), k + p.length ≤ 2305843009213693952 → scanN (k + 1) (p ++ s) = ((scanN k s).1 + p.length, (scanN k s).2)) (ps : List (List Nd)) (h : ∀ p ∈ ps, PartD d p) : ∀ (k : Nat) (s : List Nd), k + ps.flatten.length ≤ 2305843009213693952 → scanN (k + ps.length) (ps.flatten ++ s) = ((scanN k s).1 + ps.flatten.length, (scanN k s).2) := by
  induction ps with
  | nil => intro k s _; simp
  | cons p ps im =>
    intro k s hb
    have hl : ps.length ≤ ps.flatten.length := by
      clear im ih hb
      induction ps with
      | nil => simp
      | cons q qs iq =>
        have hq : 0 < q.length := List.length_pos_iff.2 (h q (by simp)).ne
        have := iq fun z hz => h z (by simp only [List.mem_cons] at hz ⊢; rcases hz with rfl | hz; exact .inl rfl; exact .inr (.inr hz))
        simp only [List.flatten_cons, List.length_append, List.length_cons]; omega
    simp only [List.flatten_cons, List.length_append, List.length_cons] at hb ⊢
    rw [List.append_assoc, show k + (ps.length + 1) = (k + ps.length) + 1 by omega, ih p (h p (by simp)) _ _ (by omega), im (fun q hq => h q (by simp [hq])) k s (by omega)]
    simp only [Prod.mk.injEq, and_true]; omega
theorem scan_part (d : Nat) : ∀ p, PartD d p → ∀ (k : Nat) (s : List Nd), k + p.length ≤ 2305843009213693952 → scanN (k + 1) (p ++ s) = ((scanN k s).1 + p.length, (scanN k s).2) := by
  induction d with
  | zero => intro p h; have := h []; simp [restD] at this
  | succ d ih =>
    intro p h k s hb
    cases p with
    | nil => exact absurd rfl h.ne
    | cons x p =>
      have h0 := h []
      simp only [List.append_nil, restD] at h0
      split at h0
      · rename_i hx
        obtain ⟨ps, h1, h2, h3⟩ := iter_parts d _ (rest_part d) _ _ h0
        simp only [List.append_nil] at h2
        subst h2
        have hl : ps.length ≤ ps.flatten.length := by
          clear h0 hb h1 h
          induction ps with
          | nil => simp
          | cons q qs iq =>
            have hq : 0 < q.length := List.length_pos_iff.2 (h3 q (by simp)).ne
            have := iq fun z hz => h3 z (by simp [hz])
            simp only [List.flatten_cons, List.length_append, List.length_cons]; omega
        have hn := fitsB_n hx
        simp only [List.length_cons] at hb ⊢
        rw [show scanN (k + 1) (x :: ps.flatten ++ s) = scanW ((k + 1 : Nat) : Int) (x :: (ps.flatten ++ s)) by simp [scanN]]
        rw [scanW_cons (k + 1) x _ (by omega) hn (by omega), ← h1, Nat.add_sub_cancel, scan_parts d ih ps h3 k s (by omega)]
        simp only [Prod.mk.injEq, and_true]; omega
      · cases h0
theorem scan_one {d : Nat} {p : List Nd} (h : PartD d p) (s : List Nd) (hb : p.length ≤ 2305843009213693952) : scanW 1 (p ++ s) = (p.length, true) := by
  have := scan_part d p h 0 s (by omega)
  simpa [scanN] using this
theorem scanW_le (l : List Nd) : ∀ k, (scanW k l).1 ≤ l.length := by
  induction l with
  | nil => intro k; simp [scanW]
  | cons x l ih =>
    intro k
    unfold scanW
    split
    · simp
    · have := ih (wrap64 (k + wrap64 (x.n - 1))); simp only [List.length_cons]; omega
theorem scanW_pos (k : Int) (x : Nd) (l : List Nd) : 0 < (scanW k (x :: l)).1 := by
  unfold scanW; split <;> simp
/-- The parts behind a first node: as long as some stand there. -/
def splitF : Nat → List Nd → List (List Nd)
  | 0, _ => []
  | _ + 1, [] => []
  | f + 1, x :: r => (x :: r).take (scanW 1 (x :: r)).1 :: splitF f ((x :: r).drop (scanW 1 (x :: r)).1)
theorem splitF_more : ∀ (f g : Nat) (l : List Nd), l.length ≤ f → l.length ≤ g → splitF f l = splitF g l := by
  intro f
  induction f with
  | zero =>
    intro g l h _
    rw [List.length_eq_zero_iff.1 (Nat.le_zero.1 h)]
    cases g <;> rfl
  | succ f ih =>
    intro g l h hg
    cases l with
    | nil => cases g <;> rfl
    | cons x l =>
      cases g with
      | zero => simp at hg
      | succ g =>
        have hp := scanW_pos 1 x l
        simp only [splitF, List.length_cons] at h hg ⊢
        rw [ih g _ (by rw [List.length_drop, List.length_cons]; omega) (by rw [List.length_drop, List.length_cons]; omega)]
/-- The parts that stand one behind the other. -/
def splitL (l : List Nd) : List (List Nd) := splitF l.length l
theorem splitL_nil : splitL [] = [] := rfl
theorem splitL_cons (x : Nd) (l : List Nd) : splitL (x :: l) = (x :: l).take (scanW 1 (x :: l)).1 :: splitL ((x :: l).drop (scanW 1 (x :: l)).1) := by
  have hp := scanW_pos 1 x l
  unfold splitL
  simp only [List.length_cons, splitF]
  rw [splitF_more l.length _ _ (by rw [List.length_drop, List.length_cons]; omega) (Nat.le_refl _)]
theorem splitL_ne {l : List Nd} (h : 0 < l.length) : splitL l = l.take (scanW 1 l).1 :: splitL (l.drop (scanW 1 l).1) := by
  cases l with
  | nil => simp at h
  | cons x l => exact splitL_cons x l
theorem splitL_parts {d : Nat} (ps : List (List Nd)) (h : ∀ p ∈ ps, PartD d p) (hb : ps.flatten.length ≤ 2305843009213693952) : splitL ps.flatten = ps := by
  induction ps with
  | nil => rfl
  | cons p ps ih =>
    simp only [List.flatten_cons, List.length_append] at hb ⊢
    have hs := scan_one (h p (by simp)) ps.flatten (by omega)
    cases p with
    | nil => exact absurd rfl (h [] (by simp)).ne
    | cons x p =>
      rw [List.cons_append] at hs ⊢
      rw [splitL_cons, hs]
      simp only [List.length_cons]
      rw [← List.cons_append, List.take_left' (by simp), List.drop_left' (by simp), ih (fun q hq => h q (by simp [hq])) (by omega)]
theorem PartD.rest {d : Nat} {p : List Nd} (h : PartD d p) : restD d p = some [] := by have := h []; rwa [List.append_nil] at this
theorem valid_rest {l : List Nd} (h : validB l = true) : l.length ≤ 300 ∧ restD 24 l = some [] := by
  unfold validB at h
  simp only [Bool.and_eq_true, decide_eq_true_eq] at h
  refine ⟨h.1, ?_⟩
  have h2 := h.2
  split at h2
  · rename_i r hr
    simp only [beq_iff_eq] at h2
    rw [hr, List.length_eq_zero_iff.1 h2]
  · cases h2
theorem rest_valid {l : List Nd} (h : l.length ≤ 300) (hr : restD 24 l = some []) : validB l = true := by
  unfold validB; rw [hr]; simp [h]
/-- The parts of a tree's first part are trees. -/
theorem kids_of {x : Nd} {t : List Nd} (h : validB (x :: t) = true) : fitsB x = true ∧ (splitL t).length = x.n.toNat ∧ (splitL t).flatten = t ∧ (∀ p ∈ splitL t, PartD 23 p) ∧ ∀ p ∈ splitL t, validB p = true := by
  obtain ⟨hl, hr⟩ := valid_rest h
  simp only [restD] at hr
  split at hr
  · rename_i hx
    obtain ⟨ps, h1, h2, h3⟩ := iter_parts 23 _ (rest_part 23) _ _ hr
    rw [List.append_nil] at h2
    subst h2
    simp only [List.length_cons] at hl
    have e := splitL_parts ps h3 (by omega)
    rw [e]
    refine ⟨hx, h1, rfl, h3, fun p hp => rest_valid ?_ (h3 p hp).up.rest⟩
    have : p.length ≤ ps.flatten.length := by
      obtain ⟨a, b, rfl⟩ := List.append_of_mem hp
      simp only [List.flatten_append, List.flatten_cons, List.length_append]; omega
    omega
  · cases hr
theorem partsE_append (l : List Sig) (a b : List Nd) : partsE l (a ++ b) = 0 ↔ partsE l a = 0 ∧ partsE l b = 0 := by
  induction a with
  | nil => simp [partsE]
  | cons x a ih =>
    simp only [List.cons_append, partsE]
    split
    · exact ih
    · rename_i h; exact ⟨fun q => absurd q h, fun q => absurd q.1 h⟩
theorem partsE_flat (l : List Sig) (ps : List (List Nd)) : partsE l ps.flatten = 0 ↔ ∀ p ∈ ps, partsE l p = 0 := by
  induction ps with
  | nil => simp [partsE]
  | cons p ps ih => rw [List.flatten_cons, partsE_append, ih]; simp
/-- A tree passes just if its parts do and what its first node says does. -/
theorem checkE_kids (l : List Sig) {x : Nd} {t : List Nd} (h : validB (x :: t) = true) : checkE l (x :: t) = 0 ↔ (∀ p ∈ splitL t, checkE l p = 0) ∧ partE l x = 0 := by
  obtain ⟨_, _, h1, _, h2⟩ := kids_of h
  have e : ∀ n, validB n = true → checkE l n = partsE l n := fun n hn => by simp [checkE, hn]
  rw [e _ h]
  have h3 : partsE l (x :: t) = 0 ↔ partE l x = 0 ∧ partsE l t = 0 := by
    simp only [partsE]
    split
    · rename_i q; simp [q]
    · rename_i q; exact ⟨fun k => absurd k q, fun k => absurd k.1 q⟩
  rw [h3]
  have h4 := partsE_flat l (splitL t)
  rw [h1] at h4
  rw [h4, and_comm]
  refine and_congr_left fun _ => ⟨fun k p hp => by rw [e p (h2 p hp)]; exact k p hp, fun k p hp => by rw [← e p (h2 p hp)]; exact k p hp⟩
end Go.Proofs.Ytipbjoeekbgnbaa

namespace Go.Proofs.Ytipbjoeekbgnbaa
open Go.RowKit
set_option linter.unusedVariables false
set_option maxRecDepth 100000

/-- A node whose terms lie in a row of its own. -/
def OwnT (W : World) (B : Nat) (y : NdV) : Prop := Own tmC 36 2 W B (.slice y.ta y.x.terms.length y.tc) y.x.terms
/-- Nodes in a row of one's own, their terms too, none of them in the nodes' row. -/
structure OwnN (W : World) (B : Nat) (v : Value) (zs : List NdV) : Prop where
  row : Own ndC 24 6 W B v zs
  terms : ∀ z ∈ zs, OwnT W B z
  apart : ∀ z ∈ zs, ∀ g, v.ownBlock = some g → (Value.slice z.ta z.x.terms.length z.tc).ownBlock ≠ some g
theorem RowOf.below {X : Type} [Inhabited X] {C : X → List Value} {c : Nat} (hC : ∀ x, (C x).length = c) {w w' : World} {a : Option Addr} {l : List X} (h : RowOf C c w a l) (k : Below w.heap.size w w') : RowOf C c w' a l := by
  intro i hi
  obtain ⟨b, off, e, hj⟩ := h i hi
  refine ⟨b, off, e, fun j hjj => ?_⟩
  have h1 := hj j hjj
  rw [List.getElem?_eq_getElem (by rw [hC]; exact hjj)] at h1 ⊢
  exact cell_up k h1
theorem RowOf.take {X : Type} [Inhabited X] {C : X → List Value} {c : Nat} {w : World} {a : Option Addr} {l : List X} (h : RowOf C c w a l) (k : Nat) : RowOf C c w a (l.take k) := by
  intro i hi
  rw [List.length_take] at hi
  obtain ⟨b, off, e, hj⟩ := h i (by omega)
  refine ⟨b, off, e, fun j hjj => ?_⟩
  rw [hj j hjj, List.getD_eq_getElem?_getD, List.getD_eq_getElem?_getD, List.getElem?_take_of_lt (by omega)]
theorem RowOf.drop {X : Type} [Inhabited X] {C : X → List Value} {c : Nat} {w : World} {b off : Nat} {l : List X} (h : RowOf C c w (some ⟨b, off, none⟩) l) (k : Nat) : RowOf C c w (some ⟨b, off + k * c, none⟩) (l.drop k) := by
  intro i hi
  rw [List.length_drop] at hi
  obtain ⟨b', off', e, hj⟩ := h (k + i) (by omega)
  cases e
  refine ⟨b, off + k * c, rfl, fun j hjj => ?_⟩
  have e1 : off + k * c + i * c + j = off + (k + i) * c + j := by rw [Nat.add_mul]; omega
  rw [e1, hj j hjj, List.getD_eq_getElem?_getD, List.getD_eq_getElem?_getD, List.getElem?_drop]
theorem TermRow.rowOf {W : World} {a : Option Addr} {l : List Tm} (h : TermRow W a l) : RowOf tmC 2 W a l := by
  intro i hi
  obtain ⟨b, off, e, h0, h1⟩ := h i hi
  refine ⟨b, off, e, fun j hj => ?_⟩
  rw [show (default : Tm) = tm0 from rfl]
  have : j = 0 ∨ j = 1 := by omega
  rcases this with rfl | rfl
  · simpa [tmC] using h0
  · simpa [tmC] using h1
theorem rowOf_term {W : World} {a : Option Addr} {l : List Tm} (h : RowOf tmC 2 W a l) : TermRow W a l := by
  intro i hi
  obtain ⟨b, off, e, hj⟩ := h i hi
  have h0 := hj 0 (by omega)
  have h1 := hj 1 (by omega)
  rw [show (default : Tm) = tm0 from rfl] at h0 h1
  exact ⟨b, off, e, by simpa [tmC] using h0, by simpa [tmC] using h1⟩
/-- Terms that a node has. -/
structure TmsAt (W : World) (y : NdV) : Prop where
  row : TermRow W y.ta y.x.terms
  nil : y.ta = none → y.tc = 0
  le : y.x.terms.length ≤ y.tc
  few : y.x.terms.length ≤ 1099511627776
theorem TmsAt.below {W W' : World} {y : NdV} (h : TmsAt W y) (k : Below W.heap.size W W') : TmsAt W' y := ⟨h.row.below k, h.nil, h.le, h.few⟩
/-- A slice of nodes. -/
structure NdsAt (W : World) (a : Option Addr) (cap : Nat) (ys : List NdV) : Prop where
  row : RowOf ndC 6 W a ys
  nil : a = none → cap = 0
  le : ys.length ≤ cap
  few : ys.length ≤ 1099511627776
  terms : ∀ y ∈ ys, TmsAt W y
theorem NdsAt.below {W W' : World} {a : Option Addr} {cap : Nat} {ys : List NdV} (h : NdsAt W a cap ys) (k : Below W.heap.size W W') : NdsAt W' a cap ys :=
  ⟨h.row.below ndC_len k, h.nil, h.le, h.few, fun y hy => (h.terms y hy).below k⟩
theorem NdsAt.take {W : World} {a : Option Addr} {cap : Nat} {ys : List NdV} (h : NdsAt W a cap ys) (k : Nat) : NdsAt W a cap (ys.take k) :=
  ⟨h.row.take k, h.nil, by have := h.le; rw [List.length_take]; omega, by have := h.few; rw [List.length_take]; omega, fun y hy => h.terms y (List.mem_of_mem_take hy)⟩
/-- As the law's other contracts say it. -/
theorem NdsAt.nodes {W : World} {a : Option Addr} {cap : Nat} {ys : List NdV} (h : NdsAt W a cap ys) : NodeRow W a (ys.map (·.x)) := by
  intro i hi
  have hi' : i < ys.length := by simpa using hi
  obtain ⟨b, off, e, hj⟩ := h.row i hi'
  have hd : (ys.map (·.x)).getD i nd0 = (ys.getD i default).x := by simp [List.getD_eq_getElem?_getD, hi']
  rw [hd]
  have hk := h.terms (ys.getD i default) (by rw [List.getD_eq_getElem?_getD, List.getElem?_eq_getElem hi']; exact List.getElem_mem hi')
  refine ⟨b, off, e, ?_, ?_, ?_, ?_, ⟨(ys.getD i default).ta, (ys.getD i default).tc, ?_, hk.row⟩, ?_⟩
  · have := hj 0 (by omega); simpa [ndC] using this
  · have := hj 1 (by omega); simpa [ndC] using this
  · have := hj 2 (by omega); simpa [ndC] using this
  · have := hj 3 (by omega); simpa [ndC] using this
  · have := hj 4 (by omega); simpa [ndC] using this
  · have := hj 5 (by omega); simpa [ndC] using this
theorem Own.room {X : Type} {C : X → List Value} {e : TypeId} {c : Nat} {W : World} {B : Nat} {a : Option Addr} {n cap : Nat} {l : List X} (hC : ∀ x, (C x).length = c) (z : X) (h : Own C e c W B (.slice a n cap) l) : n = l.length ∧ (a = none → cap = 0) ∧ l.length ≤ cap ∧ cap ≤ maxLen := by
  obtain ⟨a', cap', e', h1, _, _⟩ := h.sl hC z
  cases e'
  refine ⟨rfl, fun q => (h1 q).2, ?_⟩
  rcases h.2 with ⟨e2, h0⟩ | ⟨g, cp, cur, e2, _, _, h3, h4, _⟩
  · simp only [Value.slice.injEq] at e2; unfold maxLen; omega
  · simp only [Value.slice.injEq] at e2; obtain ⟨_, _, rfl⟩ := e2; exact ⟨h3, h4⟩
theorem Own.rows {X : Type} [Inhabited X] {C : X → List Value} {e : TypeId} {c : Nat} {W : World} {B : Nat} {a : Option Addr} {n cap : Nat} {l : List X} (hC : ∀ x, (C x).length = c) (h : Own C e c W B (.slice a n cap) l) : RowOf C c W a l := by
  obtain ⟨a', cap', e', _, _, h3⟩ := h.sl hC default
  cases e'
  intro i hi
  obtain ⟨g, e1, _, _, hj⟩ := h3 i hi
  exact ⟨g, 0, e1, fun j hjj => by rw [Nat.zero_add]; exact hj j hjj⟩
/-- Nodes of one's own can be read. -/
theorem OwnN.at {W : World} {B : Nat} {a : Option Addr} {n cap : Nat} {zs : List NdV} (h : OwnN W B (.slice a n cap) zs) (hl : zs.length ≤ 1099511627776) (hk : ∀ z ∈ zs, z.x.terms.length ≤ 1099511627776) : n = zs.length ∧ NdsAt W a cap zs := by
  obtain ⟨h1, h2, h3, h4⟩ := Own.room ndC_len default h.row
  refine ⟨h1, h.row.rows ndC_len, h2, h3, hl, fun z hz => ?_⟩
  have ht := h.terms z hz
  obtain ⟨_, k2, k3, _⟩ := Own.room tmC_len tm0 ht
  exact ⟨rowOf_term (Own.rows tmC_len ht), k2, k3, hk z hz⟩
/-- A list of nodes with where it lies. -/
structure LsV where
  ys : List NdV
  a : Option Addr
  cap : Nat
instance : Inhabited LsV := ⟨⟨[], none, 0⟩⟩
def lsC (y : LsV) : List Value := [.slice y.a y.ys.length y.cap]
theorem lsC_len (y : LsV) : (lsC y).length = 1 := rfl
theorem lsC_one (y : LsV) : ∀ u ∈ lsC y, u.oneCell' = true := by
  intro u hu
  simp only [lsC, List.mem_cons, List.not_mem_nil, or_false] at hu
  subst hu; rfl
theorem infoNodes : (Try.prog.info? 28).map (fun i => (i.zero, i.size, i.bytes)) = some (some (.slice none 0 0), 1, 24) := by kernel_rfl
/-- The nodes that a list of lists says. -/
def LsV.nds (y : LsV) : List Nd := y.ys.map (·.x)
/-- A slice of slices of nodes. -/
structure LssAt (W : World) (a : Option Addr) (cap : Nat) (L : List LsV) : Prop where
  row : RowOf lsC 1 W a L
  nil : a = none → cap = 0
  le : L.length ≤ cap
  few : L.length ≤ 1099511627776
  each : ∀ y ∈ L, NdsAt W y.a y.cap y.ys
theorem LssAt.below {W W' : World} {a : Option Addr} {cap : Nat} {L : List LsV} (h : LssAt W a cap L) (k : Below W.heap.size W W') : LssAt W' a cap L :=
  ⟨h.row.below lsC_len k, h.nil, h.le, h.few, fun y hy => (h.each y hy).below k⟩
theorem LssAt.cell {W : World} {a : Option Addr} {cap : Nat} {L : List LsV} (h : LssAt W a cap L) (k : Nat) (hk : k < L.length) : ∃ b off, a = some ⟨b, off, none⟩ ∧ W.cell? ⟨b, off + k, none⟩ = some (.slice (L.getD k default).a (L.getD k default).ys.length (L.getD k default).cap) := by
  obtain ⟨b, off, e, hj⟩ := h.row k hk
  refine ⟨b, off, e, ?_⟩
  have := hj 0 (by omega)
  simpa [lsC] using this
theorem getD_mem {X : Type} (d : X) {l : List X} {k : Nat} (h : k < l.length) : l.getD k d ∈ l := by
  rw [List.getD_eq_getElem?_getD, List.getElem?_eq_getElem h]; exact List.getElem_mem h
theorem map_getD {X Y : Type} (f : X → Y) (d : X) (z : Y) {l : List X} {k : Nat} (h : k < l.length) : (l.map f).getD k z = f (l.getD k d) := by
  simp [List.getD_eq_getElem?_getD, h]
theorem getD_set {X : Type} (d : X) (l : List X) (k i : Nat) (y : X) (hk : k < l.length) : (l.set k y).getD i d = if i = k then y else l.getD i d := by
  rw [List.getD_eq_getElem?_getD, List.getD_eq_getElem?_getD, List.getElem?_set]
  by_cases e : k = i
  · subst e; simp [hk]
  · rw [if_neg e, if_neg (fun q => e q.symm)]
/-- 'n[k:]'. -/
theorem nds_drop {W : World} {a : Option Addr} {cap : Nat} {ys : List NdV} (h : NdsAt W a cap ys) (k : Nat) (hk : k ≤ ys.length) :
    ∃ a2, (∀ X, (Instr.slice 28 (.slice a ys.length cap) (some (.int .i64 k)) none none).run Try.prog X = .ok (.slice a2 (ys.length - k) (cap - k)) X) ∧ NdsAt W a2 (cap - k) (ys.drop k) := by
  have hle := h.le
  refine ⟨if cap = k then a else a.map (·.add (k * 6)), fun X => ?_, ?_⟩
  · rw [run_slice_l X 28 _ ys.length cap (by kernel_rfl) .i64 k (by omega) (by omega), size_node]
    rfl
  · refine ⟨?_, ?_, by rw [List.length_drop]; omega, by rw [List.length_drop]; have := h.few; omega, fun y hy => h.terms y (List.mem_of_mem_drop hy)⟩
    · by_cases e : cap = k
      · intro i hi
        rw [List.length_drop] at hi; omega
      · rw [if_neg e]
        cases a with
        | none => have := h.nil rfl; omega
        | some ad =>
          intro i hi
          have hi0 : i < ys.length - k := by rw [List.length_drop] at hi; exact hi
          obtain ⟨b, off, e1, _⟩ := h.row 0 (by omega)
          cases e1
          have := h.row.drop k i hi
          rw [Option.map_some, addr_addO]; exact this
    · intro e
      split at e
      · omega
      · cases a with
        | none => have := h.nil rfl; omega
        | some ad => cases e
/-- 'n[:k]'. -/
theorem nds_take {W : World} {a : Option Addr} {cap : Nat} {ys : List NdV} (h : NdsAt W a cap ys) (k : Nat) (hk : k ≤ ys.length) (X : World) :
    (Instr.slice 28 (.slice a ys.length cap) none (some (.int .i64 k)) none).run Try.prog X = .ok (.slice a k cap) X := by
  have hle := h.le
  rw [run_slice_h X 28 a ys.length cap (by kernel_rfl) .i64 k (by omega) (by omega), size_node]
  show Result.ok (sliced a 0 k cap 6) X = _
  unfold sliced
  rw [show a.map (·.add (0 * 6)) = a by cases a <;> simp [Addr.add]]
  simp
end Go.Proofs.Ytipbjoeekbgnbaa

namespace Go.Proofs.Ytipbjoeekbgnbaa
open Go.RowKit
set_option linter.unusedVariables false
set_option maxRecDepth 100000

theorem scan_go (q : Int) (l : List Nd) (k : Nat) (hk : k < l.length) : scanW q (l.drop k) = if wrap64 (q + wrap64 ((l.getD k nd0).n - 1)) ≤ 0 then (1, wrap64 (q + wrap64 ((l.getD k nd0).n - 1)) == 0) else ((scanW (wrap64 (q + wrap64 ((l.getD k nd0).n - 1))) (l.drop (k + 1))).1 + 1, (scanW (wrap64 (q + wrap64 ((l.getD k nd0).n - 1))) (l.drop (k + 1))).2) := by
  have e : l.getD k nd0 = l[k] := by simp [List.getD_eq_getElem?_getD, hk]
  rw [List.drop_eq_getElem_cons hk, e]; rfl
set_option maxHeartbeats 4000000 in
theorem treeSize_any (a : Option Addr) (cap : Nat) (l : List Nd) (W : World) (h : NodeRow W a l) (hl : l.length ≤ 1099511627776) :
    Calls Try.prog 51 #[.slice a l.length cap] W fun e W' => e = .returned (.tuple #[.int .i64 (scanW 1 l).1, .bool (scanW 1 l).2]) ∧ Below W.heap.size W W' := by
  have HR : Hid (NodeRow W a l) := h
  clear h
  go_enter Try.func51, Try.ntmps51
  go_wp2
  go_loopw [4, 9] (fun s i wr => ∃ (k : Nat) (q : Int), k ≤ l.length ∧ i = .int .i64 k ∧ s = .int .i64 q ∧ Below W.heap.size W wr ∧ scanW 1 l = ((scanW q (l.drop k)).1 + k, (scanW q (l.drop k)).2)) (fun _ i _ => l.length - (intOf i).toNat)
  case atStart => exact ⟨0, 1, Nat.zero_le _, rfl, rfl, Below.refl _ _, rfl⟩
  case round =>
    obtain ⟨k, q, hk, rfl, rfl, hb, he⟩ := hrel
    have HB : Hid (Below W.heap.size W wr) := hb
    have HE : Hid (scanW 1 l = ((scanW q (l.drop k)).1 + k, (scanW q (l.drop k)).2)) := he
    clear hb he
    by_cases hlt : k < l.length
    · obtain ⟨b, off, rfl, n0, n1, n2, n3, ⟨ta, tc, n4, ht⟩, n5⟩ := (HR.out.below HB.out) k hlt
      have HG : Hid _ := scan_go q l k hlt
      generalize l.getD k nd0 = x at *
      obtain ⟨op, xn, fr, to, ts, num⟩ := x
      simp only at n0 n1 n2 n3 n4 n5 HG
      have HB2 : Hid (Below W.heap.size W (wr.alloc (.cells #[.int .i64 op, .int .i64 xn, .int .i64 fr, .int .i64 to, .slice ta ts.length tc, .int .i64 num] 24))) := HB.out.alloc HB.out.size _
      clear ht
      by_cases hz : wrap64 (q + wrap64 (xn - 1)) ≤ 0
      · have HZ : Hid (scanW 1 l = (k + 1, wrap64 (q + wrap64 (xn - 1)) == 0)) := by
          have := HG.out
          rw [if_pos hz] at this
          show _ = _
          rw [HE.out, this, Nat.add_comm]
        have hq : wrap64 ((k : Int) + 1) = ((k + 1 : Nat) : Int) := by unfold wrap64; omega
        clear HG HE
        go_wp2
        go_ret2
        exact ⟨by rw [HZ.out]; rfl, HB2.out⟩
      · have HZ : Hid (scanW 1 l = ((scanW (wrap64 (q + wrap64 (xn - 1))) (l.drop (k + 1))).1 + (k + 1), (scanW (wrap64 (q + wrap64 (xn - 1))) (l.drop (k + 1))).2)) := by
          have := HG.out
          rw [if_neg hz] at this
          show _ = _
          rw [HE.out, this]
          simp only [Prod.mk.injEq, and_true]; omega
        clear HG HE
        go_wp2
        go_roundw
        case rel => exact ⟨k + 1, _, by omega, by go_num, rfl, HB2.out, HZ.out⟩
        case measure => simp [intOf]; omega
    · have hkk : k = l.length := by omega
      have HZ : Hid (scanW 1 l = (l.length, false)) := by
        show _ = _
        rw [HE.out, hkk, List.drop_length]
        simp [scanW]
      clear hkk HE
      go_wp2
      go_ret2
      exact ⟨by rw [HZ.out]; rfl, HB.out⟩
/-- Whether it is one part with all of its parts. -/
def wholeB (l : List Nd) : Bool := (scanW 1 l).2 && (scanW 1 l).1 == l.length
set_option maxHeartbeats 1000000 in
theorem whole_any (a : Option Addr) (cap : Nat) (l : List Nd) (W : World) (h : NodeRow W a l) (hl : l.length ≤ 1099511627776) :
    Calls Try.prog 41 #[.slice a l.length cap] W fun e W' => e = .returned (.bool (wholeB l)) ∧ Below W.heap.size W W' := by
  have HC := treeSize_any a cap l W h hl
  have HE : Hid (wholeB l = ((scanW 1 l).2 && (scanW 1 l).1 == l.length)) := rfl
  clear h
  generalize (scanW 1 l).1 = s at *
  generalize hq : (scanW 1 l).2 = q at *
  clear hq
  cases q with
  | false =>
    go_enter Try.func41, Try.ntmps41
    go_wp2_with fail
    refine Calls.mono HC ?_
    rintro e W1 ⟨rfl, hb⟩
    go_wp2
    go_ret
    exact ⟨ret_bool HE.out.symm, hb⟩
  | true =>
    have he : ((s : Int) == (l.length : Int)) = (s == l.length) := by
      by_cases e : s = l.length
      · subst e; simp
      · have h1 : (s == l.length) = false := by simpa using e
        have h2 : ((s : Int) == (l.length : Int)) = false := by rw [beq_eq_false_iff_ne]; omega
        rw [h1, h2]
    go_enter Try.func41, Try.ntmps41
    go_wp2_with fail
    refine Calls.mono HC ?_
    rintro e W1 ⟨rfl, hb⟩
    go_wp2
    go_ret
    exact ⟨ret_bool (by rw [HE.out]; simp []), hb⟩
end Go.Proofs.Ytipbjoeekbgnbaa

namespace Go.Proofs.Ytipbjoeekbgnbaa
open Go.RowKit
set_option linter.unusedVariables false
set_option maxRecDepth 100000

def slLen : Value → Nat
  | .slice _ n _ => n
  | _ => 0
/-- What Split tells. -/
def SplitTells (W : World) (ys : List NdV) (e : Ending) (W' : World) : Prop := ∃ v L, e = .returned v ∧ Own lsC 28 1 W' W.heap.size v L ∧ L.map LsV.nds = splitL ((ys.map (·.x)).drop 1) ∧ (∀ y ∈ L, NdsAt W y.a y.cap y.ys) ∧ L.length ≤ ys.length ∧ Below W.heap.size W W'
end Go.Proofs.Ytipbjoeekbgnbaa

namespace Go.Proofs.Ytipbjoeekbgnbaa
open Go.RowKit
set_option linter.unusedVariables false
set_option maxRecDepth 100000

theorem grow_run (n : Nat) (W : World) (h0 : 0 < n) (hn : n ≤ 1099511627776) :
    ∃ G Y, (∀ ty, (Builtin.append_ #[28, 3] ty #[.slice none 0 0, .int .i64 n]).run Try.prog W = .ok (.slice (some ⟨W.heap.size, 0, none⟩) n G) Y) ∧ n ≤ G ∧ G ≤ 9223372036854775807 ∧ Own ndC 24 6 Y W.heap.size (.slice (some ⟨W.heap.size, 0, none⟩) 0 G) [] ∧ Below W.heap.size W Y := by
  obtain ⟨i0, hi, hz0, hz1, hz2⟩ := info_parts infoNode
  have hold : (Builtin.firstCells i0.size 0 (.slice none 0 0)).run Try.prog W.drew = .ok (#[] : Array Value) W.drew := run_firstCells_none W.drew i0.size 0 0 0
  have hbig : n * i0.bytes ≤ 140737488355328 := by rw [hz2]; omega
  have hGn := grownCap_ge W n 0 24
  have hG := grownCap_le_maxLen W n 0 24 (by unfold maxLen; omega)
  have hr := fun ty => Lib.run_append_grow_zeros (P := Try.prog) W 28 3 ty 24 i0 _ .i64 .i64 Try.underlying28 Try.underlying3 hi hz0 none 0 0 [] hold n h0 (by rw [hz1]; omega) (by omega) (by omega) (by omega) (growslice_fits (by omega) (by rw [Nat.zero_add]; exact hbig))
  simp only [Nat.zero_add] at hr
  refine ⟨_, _, hr, hGn, by unfold maxLen at hG; omega, ⟨by simp [cellsL], .inr ⟨W.heap.size, _, _, rfl, Nat.le_refl _, heap_alloc_new W.drew _, Nat.zero_le _, hG, ?_, by simp [cellsL]⟩⟩, (Below.refl _ _).drew.alloc (Nat.le_refl _) _⟩
  simp only [Array.size_append, List.size_toArray, size_zeroCells]
  simp [Value.cells]
  omega
/-- How many nodes, and which, lists say together. -/
def tot (L : List LsV) : Nat := (L.map fun y => y.ys.length).sum
def flat (L : List LsV) : List NdV := L.flatMap (·.ys)
theorem tot_append (A B : List LsV) : tot (A ++ B) = tot A + tot B := by unfold tot; simp
theorem flat_len (L : List LsV) : (flat L).length = tot L := by
  induction L with
  | nil => rfl
  | cons y L ih => unfold flat tot at *; simp [ih]
theorem take_getD {X : Type} (d : X) (L : List X) (k : Nat) (hk : k < L.length) : L.take (k + 1) = L.take k ++ [L.getD k d] := by
  rw [List.take_succ_eq_append_getElem hk]; simp [List.getD_eq_getElem?_getD, hk]
theorem tot_take (L : List LsV) (k : Nat) (hk : k < L.length) : tot (L.take (k + 1)) = tot (L.take k) + (L.getD k default).ys.length := by
  rw [take_getD default L k hk]; unfold tot; simp
theorem flat_take (L : List LsV) (k : Nat) (hk : k < L.length) : flat (L.take (k + 1)) = flat (L.take k) ++ (L.getD k default).ys := by
  rw [take_getD default L k hk]; unfold flat; simp
theorem tot_le (L : List LsV) (k : Nat) : tot (L.take k) ≤ tot L := by
  have := tot_append (L.take k) (L.drop k)
  rw [List.take_append_drop] at this; omega
end Go.Proofs.Ytipbjoeekbgnbaa

namespace Go.Proofs.Ytipbjoeekbgnbaa
open Go.RowKit
set_option linter.unusedVariables false
set_option maxRecDepth 100000

structure CpyInv (W wr : World) (v : Value) (ys zs : List NdV) (k : Nat) : Prop where
  own : Own ndC 24 6 wr W.heap.size v zs
  len : zs.length = ys.length
  eqx : ∀ i, (zs.getD i default).x = (ys.getD i default).x
  old : ∀ i, k ≤ i → zs.getD i default = ys.getD i default
  new : ∀ i, i < k → i < zs.length → OwnT wr W.heap.size (zs.getD i default) ∧ ∀ g, v.ownBlock = some g → (Value.slice (zs.getD i default).ta (zs.getD i default).x.terms.length (zs.getD i default).tc).ownBlock ≠ some g
  bel : Below W.heap.size W wr
theorem CpyInv.stays {W wr wr' : World} {v : Value} {ys zs : List NdV} {k : Nat} (h : CpyInv W wr v ys zs k) (b : Below wr.heap.size wr wr') : CpyInv W wr' v ys zs k :=
  ⟨h.own.below b, h.len, h.eqx, h.old, fun i hi hl => ⟨(h.new i hi hl).1.below b, (h.new i hi hl).2⟩, h.bel.trans (b.mono h.bel.size)⟩
/-- One more node has its own terms. -/
theorem CpyInv.step {W wr : World} {g n cap : Nat} {ys zs : List NdV} {k : Nat} (h : CpyInv W wr (.slice (some ⟨g, 0, none⟩) n cap) ys zs k) (hk : k < zs.length) (ta : Option Addr) (tc : Nat)
    (ho : Own tmC 36 2 wr W.heap.size (.slice ta (zs.getD k default).x.terms.length tc) (zs.getD k default).x.terms) (hne : (Value.slice ta (zs.getD k default).x.terms.length tc).ownBlock ≠ some g) :
    CpyInv W (wr.setCell ⟨g, k * 6 + 4, none⟩ (.slice ta (zs.getD k default).x.terms.length tc)) (.slice (some ⟨g, 0, none⟩) n cap) ys (zs.set k ⟨(zs.getD k default).x, ta, tc⟩) (k + 1) := by
  have hm : Mod [g] wr (wr.setCell ⟨g, k * 6 + 4, none⟩ (.slice ta (zs.getD k default).x.terms.length tc)) := ⟨rfl, rfl, rfl, by simp, fun q hq hs => Below.heap_setCell _ _ _ _ (by simpa using hs)⟩
  have hg := (Own.lt h.own g rfl).1
  refine ⟨Own.store ndC_len default h.own k hk 4 (by omega) _ _ rfl, by rw [List.length_set]; exact h.len, fun i => ?_, fun i hi => ?_, fun i hi hl => ?_, h.bel.trans (hm.belowOf h.bel.size (by simpa using hg))⟩
  · rw [getD_set _ _ _ _ _ hk]
    split
    · rename_i e; rw [e]; exact h.eqx k
    · exact h.eqx i
  · rw [getD_set _ _ _ _ _ hk, if_neg (by omega)]
    exact h.old i (by omega)
  · rw [List.length_set] at hl
    rw [getD_set _ _ _ _ _ hk]
    split
    · refine ⟨Own.mod (S := [g]) ho hm (fun q hq => by simp; intro e; rw [e] at hq; exact hne hq), fun q hq => ?_⟩
      cases hq
      exact hne
    · rename_i e
      obtain ⟨k1, k2⟩ := h.new i (by omega) hl
      exact ⟨Own.mod (S := [g]) k1 hm (fun q hq => by simp; intro e; rw [e] at hq; exact k2 g rfl hq), k2⟩
theorem CpyInv.done {W wr : World} {v : Value} {ys zs : List NdV} (h : CpyInv W wr v ys zs ys.length) : OwnN wr W.heap.size v zs ∧ zs.map (·.x) = ys.map (·.x) := by
  refine ⟨⟨h.own, fun z hz => ?_, fun z hz => ?_⟩, ?_⟩
  · obtain ⟨i, hi, rfl⟩ := List.getElem_of_mem hz
    have := (h.new i (by rw [← h.len]; exact hi) hi).1
    simpa [List.getD_eq_getElem?_getD, hi] using this
  · obtain ⟨i, hi, rfl⟩ := List.getElem_of_mem hz
    have := (h.new i (by rw [← h.len]; exact hi) hi).2
    simpa [List.getD_eq_getElem?_getD, hi] using this
  · apply List.ext_getElem
    · simp [h.len]
    · intro i h1 h2
      have := h.eqx i
      have hi1 : i < zs.length := by simpa using h1
      have hi2 : i < ys.length := by simpa using h2
      simpa [List.getD_eq_getElem?_getD, hi1, hi2] using this
/-- (Was: a plain address. Nothing is asked any more.) -/
def Plain (_ : Option Addr) : Prop := True
theorem OwnN.mod {S : List Nat} {W W' : World} {B : Nat} {v : Value} {zs : List NdV} (h : OwnN W B v zs) (m : Mod S W W') (hv : ∀ g, v.ownBlock = some g → g ∉ S) (ht : ∀ z ∈ zs, ∀ g, (Value.slice z.ta z.x.terms.length z.tc).ownBlock = some g → g ∉ S) : OwnN W' B v zs :=
  ⟨h.row.mod m hv, fun z hz => Own.mod (h.terms z hz) m (ht z hz), h.apart⟩
theorem OwnN.below {W W' : World} {B : Nat} {v : Value} {zs : List NdV} (h : OwnN W B v zs) (k : Below W.heap.size W W') : OwnN W' B v zs := h.mod (S := []) (Mod.of_below k) (by simp) (by simp)
theorem Own.lower {X : Type} {C : X → List Value} {e : TypeId} {c : Nat} {W : World} {B B' : Nat} {v : Value} {l : List X} (h : Own C e c W B' v l) (hB : B ≤ B') : Own C e c W B v l :=
  ⟨h.1, by
    rcases h.2 with q | ⟨g', cap', cur, q1, q2, q3⟩
    · exact .inl q
    · exact .inr ⟨g', cap', cur, q1, Nat.le_trans hB q2, q3⟩⟩
theorem OwnN.lower {W : World} {B B' : Nat} {v : Value} {zs : List NdV} (h : OwnN W B' v zs) (hB : B ≤ B') : OwnN W B v zs := ⟨h.row.lower hB, fun z hz => (h.terms z hz).lower hB, h.apart⟩
end Go.Proofs.Ytipbjoeekbgnbaa

namespace Go.Proofs.Ytipbjoeekbgnbaa
open Go.RowKit
set_option linter.unusedVariables false
set_option maxRecDepth 100000

/-- Lists of nodes of which the first k lie in rows of their own, from block B on. -/
structure KidInv (W : World) (B : Nat) (wr : World) (v : Value) (L0 L : List LsV) (k : Nat) : Prop where
  own : Own lsC 28 1 wr W.heap.size v L
  len : L.length = L0.length
  nds : ∀ i, (L.getD i default).nds = (L0.getD i default).nds
  old : ∀ i, k ≤ i → L.getD i default = L0.getD i default
  new : ∀ i, i < k → i < L.length → OwnN wr B (.slice (L.getD i default).a (L.getD i default).ys.length (L.getD i default).cap) (L.getD i default).ys
  bel : Below W.heap.size W wr
  le : B ≤ wr.heap.size
theorem KidInv.stays {W wr wr' : World} {B : Nat} {v : Value} {L0 L : List LsV} {k : Nat} (h : KidInv W B wr v L0 L k) (b : Below wr.heap.size wr wr') : KidInv W B wr' v L0 L k :=
  ⟨h.own.below b, h.len, h.nds, h.old, fun i hi hl => (h.new i hi hl).below b, h.bel.trans (b.mono h.bel.size), Nat.le_trans h.le b.size⟩
/-- One more list has its own row. -/
theorem KidInv.step {W wr : World} {B g n cap : Nat} {L0 L : List LsV} {k : Nat} (h : KidInv W B wr (.slice (some ⟨g, 0, none⟩) n cap) L0 L k) (hk : k < L.length) (hg : g < B) (a : Option Addr) (c : Nat) (zs : List NdV)
    (ho : OwnN wr B (.slice a zs.length c) zs) (he : zs.map (·.x) = (L.getD k default).nds) :
    KidInv W B (wr.setCell ⟨g, k, none⟩ (.slice a zs.length c)) (.slice (some ⟨g, 0, none⟩) n cap) L0 (L.set k ⟨zs, a, c⟩) (k + 1) := by
  have hm : Mod [g] wr (wr.setCell ⟨g, k, none⟩ (.slice a zs.length c)) := ⟨rfl, rfl, rfl, by simp, fun q hq hs => Below.heap_setCell _ _ _ _ (by simpa using hs)⟩
  have hgl := Own.lt h.own g rfl
  have hoff : ∀ {y : LsV}, OwnN wr B (.slice y.a y.ys.length y.cap) y.ys → OwnN (wr.setCell ⟨g, k, none⟩ (.slice a zs.length c)) B (.slice y.a y.ys.length y.cap) y.ys := fun {y} q =>
    q.mod hm (fun g' hh => by have := (Own.lt q.row g' hh).1; simp; omega) (fun z hz g' hh => by have := (Own.lt (q.terms z hz) g' hh).1; simp; omega)
  have hst := Own.store lsC_len default h.own k hk 0 (by omega) (.slice a zs.length c) ⟨zs, a, c⟩ rfl
  rw [Nat.mul_one, Nat.add_zero] at hst
  refine ⟨hst, by rw [List.length_set]; exact h.len, fun i => ?_, fun i hi => ?_, fun i hi hl => ?_, h.bel.trans (hm.belowOf h.bel.size (by simpa using hgl.1)), by simpa using h.le⟩
  · rw [getD_set _ _ _ _ _ hk]
    split
    · rename_i e; subst e; rw [← h.nds]; exact he
    · exact h.nds i
  · rw [getD_set _ _ _ _ _ hk, if_neg (by omega)]
    exact h.old i (by omega)
  · rw [List.length_set] at hl
    rw [getD_set _ _ _ _ _ hk]
    split
    · exact hoff (y := ⟨zs, a, c⟩) ho
    · exact hoff (h.new i (by omega) hl)
/-- What the lists say has not turned. -/
theorem KidInv.done {W wr : World} {B : Nat} {v : Value} {L0 L : List LsV} (h : KidInv W B wr v L0 L L0.length) (hall : ∀ y ∈ L0, NdsAt W y.a y.cap y.ys) : L.map LsV.nds = L0.map LsV.nds ∧ ∀ y ∈ L, NdsAt wr y.a y.cap y.ys := by
  constructor
  · apply List.ext_getElem
    · simp [h.len]
    · intro i h1 h2
      have := h.nds i
      have hi1 : i < L.length := by simpa using h1
      have hi2 : i < L0.length := by simpa using h2
      simpa [List.getD_eq_getElem?_getD, hi1, hi2] using this
  · intro y hy
    obtain ⟨i, hi, rfl⟩ := List.getElem_of_mem hy
    have hi0 : i < L0.length := by rw [← h.len]; exact hi
    have q := h.new i hi0 hi
    have e := h.nds i
    have k := hall _ (getD_mem default hi0)
    rw [show L[i] = L.getD i default by simp [List.getD_eq_getElem?_getD, hi]]
    generalize L.getD i default = y at *
    generalize L0.getD i default = y0 at *
    unfold LsV.nds at e
    refine (q.at ?_ fun z hz => ?_).2
    · have := congrArg List.length e
      rw [List.length_map, List.length_map] at this
      rw [this]; exact k.few
    · have hm : z.x ∈ y.ys.map (·.x) := List.mem_map_of_mem hz
      rw [e, List.mem_map] at hm
      obtain ⟨z0, hz0, he⟩ := hm
      rw [← he]; exact (k.terms z0 hz0).few
/-- What Kids tells. -/
def KidsTells (W : World) (ys : List NdV) (e : Ending) (W' : World) : Prop := ∃ v L, e = .returned v ∧ Own lsC 28 1 W' W.heap.size v L ∧ L.map LsV.nds = splitL ((ys.map (·.x)).drop 1) ∧ (∀ y ∈ L, NdsAt W' y.a y.cap y.ys) ∧ L.length ≤ ys.length ∧ Below W.heap.size W W'
end Go.Proofs.Ytipbjoeekbgnbaa
