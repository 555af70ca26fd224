/- KindsParts: what its answer comes to; nodes that came in. Conditions: there. -/
import Derived.Test.YtpgdkgilmcipkaaKqD
import Derived.Test.YtpgdkgilmcipkaaKrI
import Derived.Test.YtpgdkgilmcipkaaTrK
namespace Go.Proofs.Ytpgdkgilmcipkaa
open Go.RowKit Go.Deep Go.ChangeShapes Go.WideShapes Go.ChangeAt
set_option linter.unusedVariables false
set_option maxRecDepth 100000

/-- Is a part's own interval none? -/
def ownB (x : Nd) : Bool := (x.to != -1 && (decide (x.to < x.fr) || decide (1000 < x.to))) || decide (1000 < x.fr)
theorem ownB_iff (x : Nd) : ownB x = true ↔ (x.to ≠ -1 ∧ x.to < x.fr) ∨ 1000 < x.fr ∨ 1000 < x.to := by
  unfold ownB
  simp only [Bool.or_eq_true, Bool.and_eq_true, bne_iff_ne, decide_eq_true_eq]
  omega
theorem own_part {x : Nd} (l : List Sig) (h : fitsB x = true) (h2 : x.op ≠ 2) : (partE l x = 0) ↔ ownB x = false := by
  have hb : (ownB x = false) ↔ ¬ ((x.to ≠ -1 ∧ x.to < x.fr) ∨ 1000 < x.fr ∨ 1000 < x.to) := by
    rw [← ownB_iff]; simp
  rw [hb]
  unfold partE
  rw [if_neg h2]
  split
  · unfold intervalE
    split
    · rename_i q; exact ⟨fun k => by omega, fun k => absurd q k⟩
    · rename_i q; exact ⟨fun _ => q, fun _ => rfl⟩
  · rename_i h8
    unfold fitsB at h
    simp only [Bool.and_eq_true] at h
    have h3 := h.1.2
    unfold fitsIB at h3
    rw [if_neg h8] at h3
    simp only [Bool.and_eq_true, beq_iff_eq] at h3
    obtain ⟨e1, e2⟩ := h3
    rw [e1, e2]
    exact ⟨fun _ => by omega, fun _ => rfl⟩
/-- A formula passes just if its parts do and its own interval does. -/
theorem kp_true (l : List Sig) {n : List Nd} (h : validB n = true) (h2 : (n.getD 0 nd0).op ≠ 2) (L : List LsV) (hL : L.map LsV.nds = splitL (n.drop 1)) (o : Bool) (ho : ownB (n.getD 0 nd0) = o) :
    ((checkE l n == 0) == (L.all (fun y => checkE l y.nds == 0) && !o)) = true := by
  subst ho
  cases n with
  | nil => simp [validB, restD] at h
  | cons x t =>
    simp only [List.getD_cons_zero, List.drop_one, List.tail_cons] at h2 hL ⊢
    have hfx := (kids_of h).1
    have h3 := checkE_kids l h
    have h4 := own_part l hfx h2
    have h5 : L.all (fun y => checkE l y.nds == 0) = (splitL t).all (fun p => checkE l p == 0) := by rw [← hL, List.all_map]; rfl
    rw [h5, beq_iff_eq, Bool.eq_iff_iff]
    simp only [beq_iff_eq, Bool.and_eq_true, List.all_eq_true, Bool.not_eq_true']
    rw [h3, h4]
theorem allL_take {X : Type} (d : X) (f : X → Bool) (L : List X) (k : Nat) (hk : k < L.length) : (L.take (k + 1)).all f = ((L.take k).all f && f (L.getD k d)) := by
  rw [take_getD d L k hk]; simp
theorem splitL_mem {n : List Nd} (h : validB n = true) {p : List Nd} (hp : p ∈ splitL (n.drop 1)) {y : Nd} (hy : y ∈ p) : y ∈ n := by
  cases n with
  | nil => simp [validB, restD] at h
  | cons x t =>
    simp only [List.drop_one, List.tail_cons] at hp
    have := (kids_of h).2.2.1
    rw [List.mem_cons]; right
    rw [← this, List.mem_flatten]
    exact ⟨p, hp, hy⟩
/-- A slice of nodes that came in, with where their terms lie. -/
theorem open_nodesV {H : Type} {enc : TypeId × Value → H} {W : World} {fuel : Nat} {a : Option Addr} {len cap : Nat} {x : DataW H × List MemPlace} (h : DataW.trod enc Try.prog W 0 (fun _ => true) true fuel 28 [.slice a len cap] = some x) :
    ∃ ys : List NdV, ys.length = len ∧ RowOf ndC 6 W a ys ∧ (∀ y ∈ ys, NdKnown W y) ∧ len ≤ cap ∧ (len ≤ 9223372036854775807 ∧ (a = none → cap = 0)) := by
  obtain ⟨l, h1, h2, h3, h4, h5, h6⟩ := open_rows ndC _ (by omega) Try.underlying28 cells_node node_in h
  unfold maxLen at h5
  exact ⟨l, h1, h2, h3, h4, by omega, h6⟩
theorem known_fit {W : World} {ys : List NdV} (h : ∀ y ∈ ys, NdKnown W y) : NodesFit (ys.map (·.x)) := by
  intro z hz
  simp only [List.mem_map] at hz
  obtain ⟨y, hy, rfl⟩ := hz
  obtain ⟨_, k2, _, ⟨k4, k5, _⟩, _, k6, _⟩ := h y hy
  exact ⟨k2, by omega, k6.2⟩
/-- Nodes that came in, if they are few. -/
theorem known_at {W : World} {a : Option Addr} {cap : Nat} {ys : List NdV} (hr : RowOf ndC 6 W a ys) (h : ∀ y ∈ ys, NdKnown W y) (hc : ys.length ≤ cap) (hn : a = none → cap = 0) (hf : ys.length ≤ 1099511627776) (ht : ∀ y ∈ ys, y.x.terms.length ≤ 1099511627776) : NdsAt W a cap ys :=
  ⟨hr, hn, hc, hf, fun y hy => by
    obtain ⟨t1, _, _, ⟨t4, _, t6⟩, _⟩ := h y hy
    exact ⟨t1, t6, t4, ht y hy⟩⟩
end Go.Proofs.Ytpgdkgilmcipkaa
