/- What trace's laws have in common: trees made of trees, All of what is a tree, Rows. Conditions: there. -/
import Derived.Test.YtipbjoeekbgnbaaTdL
import Derived.Test.YtipbjoeekbgnbaaCtI
namespace Go.Proofs.Ytipbjoeekbgnbaa
open Go.RowKit
set_option linter.unusedVariables false
set_option maxRecDepth 100000

theorem exO_congr (names : List ByteArray) (rows : List RwV) {l m : List NdV} (h : l.map (·.x) = m.map (·.x)) (j : Nat) : exO names rows l j ↔ exO names rows m j := by
  have key : ∀ l : List NdV, exO names rows l j ↔ ∃ x ∈ l.map (·.x), x.op = 2 ∧ atO names rows x j = true := fun l => by
    unfold exO
    simp only [List.mem_map]
    exact ⟨fun ⟨z, hz, q⟩ => ⟨z.x, ⟨z, hz, rfl⟩, q⟩, fun ⟨_, ⟨z, hz, rfl⟩, q⟩ => ⟨z, hz, q⟩⟩
  rw [key l, key m, h]
/-- The same nodes elsewhere are the same trees. -/
theorem Fo.relabel : ∀ (f : Fo) (zs : List NdV), zs.map (·.x) = f.flat.map (·.x) → ∃ f' : Fo, f'.flat = zs ∧ f'.len = f.len ∧ (f.ok → f'.ok) ∧ ∀ names rows, f'.sem names rows = f.sem names rows
  | .nil, zs, h => by
    have : zs = [] := by simpa [Fo.flat] using h
    subst this
    exact ⟨.nil, rfl, rfl, id, fun _ _ => rfl⟩
  | .cons y k s, zs, h => by
    cases zs with
    | nil => simp [Fo.flat] at h
    | cons z zt =>
      simp only [Fo.flat, List.map_cons, List.map_append, List.cons.injEq] at h
      obtain ⟨zk, zs', e, h1, h2⟩ := List.map_eq_append_iff.1 h.2
      obtain ⟨k', a1, a2, a3, a4⟩ := Fo.relabel k zk h1
      obtain ⟨s', b1, b2, b3, b4⟩ := Fo.relabel s zs' h2
      refine ⟨.cons z k' s', by simp [Fo.flat, a1, b1, e], by simp [Fo.len, b2], fun ⟨o1, o2, o3, o4⟩ => ⟨by rw [h.1, a2]; exact o1, by rw [h.1]; exact o2, a3 o3, b3 o4⟩, fun names rows => ?_⟩
      simp only [Fo.sem, a4, b4, h.1]
/-- One forest behind another. -/
def Fo.app : Fo → Fo → Fo
  | .nil, g => g
  | .cons y k s, g => .cons y k (s.app g)
theorem Fo.app_flat (f g : Fo) : (f.app g).flat = f.flat ++ g.flat := by
  induction f with
  | nil => rfl
  | cons y k s _ ih => simp [Fo.app, Fo.flat, ih]
theorem Fo.app_len (f g : Fo) : (f.app g).len = f.len + g.len := by
  induction f with
  | nil => simp [Fo.app, Fo.len]
  | cons y k s _ ih => simp [Fo.app, Fo.len, ih]; omega
theorem Fo.app_ok {f g : Fo} (h : f.ok) (k : g.ok) : (f.app g).ok := by
  induction f with
  | nil => exact k
  | cons y k' s _ ih => exact ⟨h.1, h.2.1, h.2.2.1, ih h.2.2.2⟩
theorem Fo.app_sem (names : List ByteArray) (rows : List RwV) (f g : Fo) : (f.app g).sem names rows = f.sem names rows ++ g.sem names rows := by
  induction f with
  | nil => rfl
  | cons y k s _ ih => simp [Fo.app, Fo.sem, ih]
/-- What All tells of any tree: an error, or verdicts in a list of their own. -/
def AllSays (W : World) (fe : Int) (l : List Int) (e : Ending) (W' : World) : Prop := ∃ va n c, e = .returned (.tuple #[.slice va n c, .int .i64 fe]) ∧ Below W.heap.size W W' ∧ (fe = 0 → n = l.length ∧ Own inC 3 1 W' W.heap.size (.slice va n c) l)
theorem all9 (a : Option Addr) (cap : Nat) (y : NdV) (k : Fo) (nma : Option Addr) (nmc : Nat) (names : List ByteArray) (ra : Option Addr) (rc : Nat) (rows : List RwV) (W : World) (h : NdsAt W a cap (y :: k.flat)) (hfit : NodesFit ((y :: k.flat).map (·.x))) (hok : (Fo.cons y k .nil).ok) (hr : RwsAt W nma names ra rows) :
    Calls Try.prog 10 #[.slice a (y :: k.flat).length cap, .slice nma names.length nmc, .slice ra rows.length rc] W (AllSays W (faultE ((y :: k.flat).map (·.x))) (verd names rows y k rows.length)) := by
  by_cases he : faultE ((y :: k.flat).map (·.x)) = 0
  · refine (all_good9 a cap y k nma nmc names ra rc rows W h hfit hok hr he).mono ?_
    rintro e W' ⟨va, c, rfl, h1, h2⟩
    exact ⟨va, _, c, by rw [he], h2, fun _ => ⟨rfl, h1⟩⟩
  · refine (all_bad9 a cap (y :: k.flat) _ _ W h hfit he).mono ?_
    rintro e W' ⟨rfl, h2⟩
    exact ⟨none, 0, 0, rfl, h2, fun q => absurd q he⟩
theorem lss_pair {X : World} {a b : Option Addr} {ca cb : Nat} {ys zs : List NdV} (h : NdsAt X a ca ys) (k : NdsAt X b cb zs) : LssAt (X.alloc (.cells #[.slice a ys.length ca, .slice b zs.length cb] 28)) (some ⟨X.heap.size, 0, none⟩) 2 [⟨ys, a, ca⟩, ⟨zs, b, cb⟩] :=
  ⟨fun i hi => by
    have hi2 : i = 0 ∨ i = 1 := by simp at hi; omega
    refine ⟨X.heap.size, 0, rfl, fun j hj => ?_⟩
    obtain rfl : j = 0 := by omega
    rcases hi2 with rfl | rfl <;> simp [go_sem, lsC], (fun e => by cases e), Nat.le_refl _, by simp, fun y hy => by
    have hb : Below X.heap.size X (X.alloc (.cells #[.slice a ys.length ca, .slice b zs.length cb] 28)) := (Below.refl _ _).alloc (Nat.le_refl _) _
    simp only [List.mem_cons, List.not_mem_nil, or_false] at hy
    rcases hy with rfl | rfl
    · exact h.below hb
    · exact k.below hb⟩
/-- A tree in hand: its nodes in memory. -/
structure FmAt (W : World) (a : Option Addr) (cap : Nat) (y : NdV) (k : Fo) : Prop where
  nds : NdsAt W a cap (y :: k.flat)
  fit : NodesFit ((y :: k.flat).map (·.x))
  ok : (Fo.cons y k .nil).ok
  few : (y :: k.flat).length ≤ 1000
theorem FmAt.below {W W' : World} {a : Option Addr} {cap : Nat} {y : NdV} {k : Fo} (h : FmAt W a cap y k) (q : Below W.heap.size W W') : FmAt W' a cap y k := ⟨h.nds.below q, h.fit, h.ok, h.few⟩
/-- What came in and is valid is a tree in hand. -/
theorem known_tree {W : World} {a : Option Addr} {cap : Nat} {ys : List NdV} (hr : RowOf ndC 6 W a ys) (hk : ∀ y ∈ ys, NdKnown W y) (hc : ys.length ≤ cap) (hn : a = none → cap = 0) (hv : validB (ys.map (·.x)) = true) : ∃ y k, ys = y :: k.flat ∧ FmAt W a cap y k := by
  have hlen := (valid_rest hv).1
  rw [List.length_map] at hlen
  have hfits : ∀ y ∈ ys, fitsB y.x = true := fun y hy => valid_fitsM hv _ (List.mem_map_of_mem hy)
  have hterm : ∀ y ∈ ys, y.x.terms.length ≤ 1099511627776 := fun y hy => by
    have := hfits y hy
    unfold fitsB fitsAB at this
    simp only [Bool.and_eq_true] at this
    have h3 := this.2
    split at h3
    · simp only [Bool.and_eq_true, decide_eq_true_eq] at h3; omega
    · simp only [Bool.and_eq_true, beq_iff_eq] at h3; omega
  have hs := valid_scan hv
  rw [List.length_map] at hs
  obtain ⟨f, l1, l2, l3⟩ := parse_of ys 1 (by omega) (by omega) (fun y hy => ⟨fitsB_n (hfits y hy), by have := (hk y hy).2.2.2.2.2.1; unfold B64 at this; omega⟩) hs
  cases f with
  | nil => simp [Fo.len] at l1
  | cons y k s =>
    cases s with
    | cons y2 k2 s2 => simp [Fo.len] at l1
    | nil =>
      have e : ys = y :: k.flat := by rw [← l2]; simp [Fo.flat]
      refine ⟨y, k, e, ⟨by rw [← e]; exact known_at hr hk hc hn (by omega) hterm, by rw [← e]; exact known_fit hk, Fo.ok_of _ l3 fun z hz => ?_, by rw [← e]; omega⟩⟩
      rw [l2] at hz
      obtain ⟨_, k2, k3, _, _, _, _, _, k9⟩ := hk z hz
      exact fits_good (hfits z hz) k2 k3 k9
end Go.Proofs.Ytipbjoeekbgnbaa

namespace Go.Proofs.Ytipbjoeekbgnbaa
open Go.RowKit
set_option linter.unusedVariables false
set_option maxRecDepth 100000

/-- A tree that was made: a node and the trees within it. -/
def TreeMade (W : World) (x : Nd) (F : Fo) (e : Ending) (W' : World) : Prop :=
  ∃ a c z k, e = .returned (.slice a (z :: k.flat).length c) ∧ FmAt W' a c z k ∧ z.x = { x with n := (F.len : Int) } ∧ (∀ names rows, k.sem names rows = F.sem names rows) ∧ k.flat.map (·.x) = F.flat.map (·.x) ∧ Below W.heap.size W W'
theorem all_if {X : Type} [Inhabited X] (p : X → Bool) (l : List X) (h : ∀ j, j < l.length → p (l.getD j default) = true) : l.all p = true := by
  rw [List.all_eq_true]
  intro x hx
  obtain ⟨i, hi, rfl⟩ := List.getElem_of_mem hx
  have := h i hi
  simpa [List.getD_eq_getElem?_getD, hi] using this
theorem all_not {X : Type} [Inhabited X] (p : X → Bool) (l : List X) (k : Nat) (hk : k < l.length) (h : p (l.getD k default) = false) : l.all p = false := by
  rw [List.all_eq_false]
  refine ⟨l[k], List.getElem_mem hk, ?_⟩
  simpa [List.getD_eq_getElem?_getD, hk] using h
def rowsB (rows : List RwV) (n : Nat) : Bool := decide (rows.length ≤ 60) && decide (n ≤ 30) && rows.all fun r => decide (r.zs.length ≤ 40)
set_option maxHeartbeats 2000000 in
theorem rows_any (ra nma : Option Addr) (rc nmc n : Nat) (rows : List RwV) (W : World) (h : RoRow W ra rows) :
    Calls Try.prog 5 #[.slice ra rows.length rc, .slice nma n nmc] W fun e W' => e = .returned (.bool (rowsB rows n)) ∧ W' = W := by
  have HR : Hid (RoRow W ra rows) := h
  clear h
  by_cases h1 : rows.length ≤ 60
  · by_cases h2 : n ≤ 30
    · have HE : Hid (rowsB rows n = rows.all fun r => decide (r.zs.length ≤ 40)) := by simp [Hid, rowsB, h1, h2]
      go_enter Try.func5, Try.ntmps5
      have HY : Hid ((∀ j, j < rows.length → (rows.getD j default).zs.length ≤ 40) → rowsB rows n = true) := fun q => by
        rw [HE.out]; exact all_if _ rows fun j hj => by simpa using q j hj
      have HN : Hid (∀ k, k < rows.length → ¬ (rows.getD k default).zs.length ≤ 40 → rowsB rows n = false) := fun k hk q => by
        rw [HE.out]; exact all_not _ rows k hk (by simpa using q)
      go_wp2
      go_loopw [5] (fun i wr => ∃ k : Nat, k ≤ rows.length ∧ i = .int .i64 k ∧ wr = W ∧ ∀ j, j < k → (rows.getD j default).zs.length ≤ 40) (fun i _ => rows.length - (intOf i).toNat)
      case atStart => exact ⟨0, Nat.zero_le _, rfl, rfl, fun j hj => by omega⟩
      case round =>
        obtain ⟨k, hk, rfl, rfl, hj⟩ := hrel
        have HJ : Hid (∀ j, j < k → (rows.getD j default).zs.length ≤ 40) := hj
        clear hj
        by_cases hlt : k < rows.length
        · obtain ⟨b, off, rfl, c0, _⟩ := HR.out k hlt
          by_cases h40 : (rows.getD k default).zs.length ≤ 40
          · have HJ2 : Hid (∀ j, j < k + 1 → (rows.getD j default).zs.length ≤ 40) := fun j hj => by
              rcases Nat.lt_succ_iff_lt_or_eq.1 hj with z | z
              · exact HJ.out j z
              · subst z; exact h40
            generalize (rows.getD k default).zs.length = zl at *
            go_wp2
            go_roundw
            case rel => exact ⟨k + 1, by omega, by go_num, by trivial, HJ2.out⟩
            case measure => simp [intOf]; omega
          · have HF : Hid (rowsB rows n = false) := HN.out k hlt h40
            generalize (rows.getD k default).zs.length = zl at *
            go_wp2
            go_ret
            exact ⟨ret_bool HF.out.symm, rfl⟩
        · have hkk : k = rows.length := by omega
          have HF : Hid (rowsB rows n = true) := HY.out (by rw [← hkk]; exact HJ.out)
          clear hkk
          go_wp2
          go_ret
          exact ⟨ret_bool HF.out.symm, rfl⟩
    · have HE : Hid (rowsB rows n = false) := by simp [Hid, rowsB, h2]
      go_enter Try.func5, Try.ntmps5
      go_wp2
      go_ret
      exact ⟨ret_bool HE.out.symm, rfl⟩
  · have HE : Hid (rowsB rows n = false) := by simp [Hid, rowsB, h1]
    go_enter Try.func5, Try.ntmps5
    go_wp2
    go_ret
    exact ⟨ret_bool HE.out.symm, rfl⟩
end Go.Proofs.Ytipbjoeekbgnbaa
