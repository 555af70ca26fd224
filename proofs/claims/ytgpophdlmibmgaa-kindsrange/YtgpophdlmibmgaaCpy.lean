/- The contract of kinds' copied: nodes in rows of their own, and their terms. Conditions: what came in, at most 2^40 nodes, each of at most 2^40 terms. -/
import Derived.Test.YtgpophdlmibmgaaCln
namespace Go.Proofs.Ytgpophdlmibmgaa
open Go.RowKit
set_option linter.unusedVariables false
set_option maxRecDepth 100000

/-- A node whose terms lie in a row of its own. -/
def OwnT (W : World) (B : Nat) (y : NdV) : Prop := Own tmC 64 2 W B (.slice y.ta y.x.terms.length y.tc) y.x.terms
/-- Nodes in a row of one's own, their terms too, none of them in the nodes' row. -/
structure OwnN (W : World) (B : Nat) (v : Value) (zs : List NdV) : Prop where
  row : Own ndC 46 6 W B v zs
  terms : ∀ z ∈ zs, OwnT W B z
  apart : ∀ z ∈ zs, ∀ g, v.ownBlock = some g → (Value.slice z.ta z.x.terms.length z.tc).ownBlock ≠ some g
structure CpyInv (W wr : World) (v : Value) (ys zs : List NdV) (k : Nat) : Prop where
  own : Own ndC 46 6 wr W.heap.size v zs
  len : zs.length = ys.length
  eqx : ∀ i, (zs.getD i default).x = (ys.getD i default).x
  old : ∀ i, k ≤ i → zs.getD i default = ys.getD i default
  new : ∀ i, i < k → i < zs.length → OwnT wr W.heap.size (zs.getD i default) ∧ ∀ g, v.ownBlock = some g → (Value.slice (zs.getD i default).ta (zs.getD i default).x.terms.length (zs.getD i default).tc).ownBlock ≠ some g
  bel : Below W.heap.size W wr
theorem CpyInv.stays {W wr wr' : World} {v : Value} {ys zs : List NdV} {k : Nat} (h : CpyInv W wr v ys zs k) (b : Below wr.heap.size wr wr') : CpyInv W wr' v ys zs k :=
  ⟨h.own.below b, h.len, h.eqx, h.old, fun i hi hl => ⟨(h.new i hi hl).1.below b, (h.new i hi hl).2⟩, h.bel.trans (b.mono h.bel.size)⟩
theorem getD_set {X : Type} (d : X) (l : List X) (k i : Nat) (y : X) (hk : k < l.length) : (l.set k y).getD i d = if i = k then y else l.getD i d := by
  rw [List.getD_eq_getElem?_getD, List.getD_eq_getElem?_getD, List.getElem?_set]
  by_cases e : k = i
  · subst e; simp [hk]
  · rw [if_neg e, if_neg (fun q => e q.symm)]
/-- One more node has its own terms. -/
theorem CpyInv.step {W wr : World} {g n cap : Nat} {ys zs : List NdV} {k : Nat} (h : CpyInv W wr (.slice (some ⟨g, 0, none⟩) n cap) ys zs k) (hk : k < zs.length) (ta : Option Addr) (tc : Nat)
    (ho : Own tmC 64 2 wr W.heap.size (.slice ta (zs.getD k default).x.terms.length tc) (zs.getD k default).x.terms) (hne : (Value.slice ta (zs.getD k default).x.terms.length tc).ownBlock ≠ some g) :
    CpyInv W (wr.setCell ⟨g, k * 6 + 4, none⟩ (.slice ta (zs.getD k default).x.terms.length tc)) (.slice (some ⟨g, 0, none⟩) n cap) ys (zs.set k ⟨(zs.getD k default).x, ta, tc⟩) (k + 1) := by
  have hm : Mod [g] wr (wr.setCell ⟨g, k * 6 + 4, none⟩ (.slice ta (zs.getD k default).x.terms.length tc)) := ⟨rfl, rfl, rfl, by simp, fun q hq hs => Below.heap_setCell _ _ _ _ (by simpa using hs)⟩
  have hg := (Own.lt h.own g rfl).1
  refine ⟨Own.store ndC_len default h.own k hk 4 (by omega) _ _ rfl, by rw [List.length_set]; exact h.len, fun i => ?_, fun i hi => ?_, fun i hi hl => ?_, h.bel.trans (hm.belowOf h.bel.size (by simpa using hg))⟩
  · rw [getD_set _ _ _ _ _ hk]
    split
    · rename_i e; rw [e]; exact h.eqx k
    · exact h.eqx i
  · rw [getD_set _ _ _ _ _ hk, if_neg (by omega)]
    exact h.old i (by omega)
  · rw [List.length_set] at hl
    rw [getD_set _ _ _ _ _ hk]
    split
    · refine ⟨Own.mod (S := [g]) ho hm (fun q hq => by simp; intro e; rw [e] at hq; exact hne hq), fun q hq => ?_⟩
      cases hq
      exact hne
    · rename_i e
      obtain ⟨k1, k2⟩ := h.new i (by omega) hl
      exact ⟨Own.mod (S := [g]) k1 hm (fun q hq => by simp; intro e; rw [e] at hq; exact k2 g rfl hq), k2⟩
theorem CpyInv.done {W wr : World} {v : Value} {ys zs : List NdV} (h : CpyInv W wr v ys zs ys.length) : OwnN wr W.heap.size v zs ∧ zs.map (·.x) = ys.map (·.x) := by
  refine ⟨⟨h.own, fun z hz => ?_, fun z hz => ?_⟩, ?_⟩
  · obtain ⟨i, hi, rfl⟩ := List.getElem_of_mem hz
    have := (h.new i (by rw [← h.len]; exact hi) hi).1
    simpa [List.getD_eq_getElem?_getD, hi] using this
  · obtain ⟨i, hi, rfl⟩ := List.getElem_of_mem hz
    have := (h.new i (by rw [← h.len]; exact hi) hi).2
    simpa [List.getD_eq_getElem?_getD, hi] using this
  · apply List.ext_getElem
    · simp [h.len]
    · intro i h1 h2
      have := h.eqx i
      have hi1 : i < zs.length := by simpa using h1
      have hi2 : i < ys.length := by simpa using h2
      simpa [List.getD_eq_getElem?_getD, hi1, hi2] using this
theorem RowOf.below {X : Type} [Inhabited X] {C : X → List Value} {c : Nat} (hC : ∀ x, (C x).length = c) {w w' : World} {a : Option Addr} {l : List X} (h : RowOf C c w a l) (k : Below w.heap.size w w') : RowOf C c w' a l := by
  intro i hi
  obtain ⟨b, off, e, hj⟩ := h i hi
  refine ⟨b, off, e, fun j hjj => ?_⟩
  have h1 := hj j hjj
  rw [List.getElem?_eq_getElem (by rw [hC]; exact hjj)] at h1 ⊢
  exact cell_up k h1
theorem TermRow.rowOf {W : World} {a : Option Addr} {l : List Tm} (h : TermRow W a l) : RowOf tmC 2 W a l := by
  intro i hi
  obtain ⟨b, off, e, h0, h1⟩ := h i hi
  refine ⟨b, off, e, fun j hj => ?_⟩
  rw [show (default : Tm) = tm0 from rfl]
  have : j = 0 ∨ j = 1 := by omega
  rcases this with rfl | rfl
  · simpa [tmC] using h0
  · simpa [tmC] using h1
/-- (Was: a plain address. Nothing is asked any more.) -/
def Plain (_ : Option Addr) : Prop := True
set_option maxHeartbeats 4000000 in
theorem copied_any (a : Option Addr) (cap : Nat) (ys : List NdV) (W : World) (h : RowOf ndC 6 W a ys) (ha : a = none → cap = 0) (hsp : Plain a) (hc : ys.length ≤ cap) (hl : ys.length ≤ 1099511627776)
    (hk : ∀ y ∈ ys, TermRow W y.ta y.x.terms ∧ (y.ta = none → y.tc = 0) ∧ Plain y.ta ∧ y.x.terms.length ≤ y.tc ∧ y.x.terms.length ≤ 1099511627776) :
    Calls Try.prog 32 #[.slice a ys.length cap] W fun e W' => ∃ v zs, e = .returned v ∧ OwnN W' W.heap.size v zs ∧ zs.map (·.x) = ys.map (·.x) ∧ Below W.heap.size W W' := by
  have HK : Hid (∀ y ∈ ys, TermRow W y.ta y.x.terms ∧ (y.ta = none → y.tc = 0) ∧ Plain y.ta ∧ y.x.terms.length ≤ y.tc ∧ y.x.terms.length ≤ 1099511627776) := hk
  have HC := cloneNode_any a cap ys W h ha hl hc
  clear h ha hsp hk
  go_enter Try.func32, Try.ntmps32
  go_wp2_with fail
  refine Calls.mono HC ?_
  rintro e W1 ⟨v, rfl, ho, hb⟩
  have HI0 : Hid (CpyInv W W1 v ys ys 0) := ⟨ho, rfl, fun _ => rfl, fun _ _ => rfl, fun i hi => by omega, hb⟩
  obtain ⟨a9, c9, rfl, _, _, _⟩ := ho.sl ndC_len default
  clear ho hb HC
  go_wp2
  go_loopw [10] (fun i wr => ∃ k : Nat, k ≤ ys.length ∧ i = .int .i64 k ∧ ∃ zs, CpyInv W wr (.slice a9 ys.length c9) ys zs k) (fun i _ => ys.length - (intOf i).toNat)
  case atStart => exact ⟨0, Nat.zero_le _, rfl, ys, HI0.out⟩
  case round =>
    obtain ⟨k, hk, rfl, zs, hi⟩ := hrel
    have HI : Hid (CpyInv W wr (.slice a9 ys.length c9) ys zs k) := hi
    clear hi
    by_cases hlt : k < ys.length
    · have hltz : k < zs.length := by rw [HI.out.len]; exact hlt
      obtain ⟨a8, c8, hv8, _, _, hrow⟩ := HI.out.own.sl ndC_len default
      simp only [Value.slice.injEq] at hv8
      obtain ⟨e8, e9, rfl⟩ := hv8
      clear e9
      subst e8
      obtain ⟨g, rfl, _, hglt, hj⟩ := hrow k hltz
      have hfz : ∀ j, wr.frozen? ⟨g, j, none⟩ = false := fun j => Own.frz HI.out.own j
      have j0 := hj 0 (by omega)
      have j1 := hj 1 (by omega)
      have j2 := hj 2 (by omega)
      have j3 := hj 3 (by omega)
      have j4 := hj 4 (by omega)
      have j5 := hj 5 (by omega)
      simp only [ndC, Nat.add_zero] at j0 j1 j2 j3 j4 j5
      have hold : zs.getD k default = ys.getD k default := HI.out.old k (Nat.le_refl _)
      obtain ⟨t1, t2, t3, t4, t5⟩ := HK.out (zs.getD k default) (by rw [hold, List.getD_eq_getElem?_getD, List.getElem?_eq_getElem hlt]; exact List.getElem_mem hlt)
      have HCl : Hid (∀ X, Below wr.heap.size wr X → Calls Try.prog 49 #[.slice (zs.getD k default).ta (zs.getD k default).x.terms.length (zs.getD k default).tc] X fun e W' => ∃ v, e = .returned v ∧ Own tmC 64 2 W' X.heap.size v (zs.getD k default).x.terms ∧ Below X.heap.size X W') :=
        fun X hX => cloneTerm_any _ _ _ X ((t1.below (HI.out.bel.trans (hX.mono HI.out.bel.size))).rowOf) t2 t5 t4
      have HSt : Hid (∀ X ta tc, Below wr.heap.size wr X → Own tmC 64 2 X wr.heap.size (.slice ta (zs.getD k default).x.terms.length tc) (zs.getD k default).x.terms → ∃ zs', CpyInv W (X.setCell ⟨g, k * 6 + 4, none⟩ (.slice ta (zs.getD k default).x.terms.length tc)) (.slice (some ⟨g, 0, none⟩) ys.length c9) ys zs' (k + 1)) := fun X ta tc hX ho => by
        refine ⟨_, (HI.out.stays hX).step hltz ta tc ?_ ?_⟩
        · exact ⟨ho.1, by
            rcases ho.2 with q | ⟨g', cap', cur, q1, q2, q3⟩
            · exact .inl q
            · exact .inr ⟨g', cap', cur, q1, Nat.le_trans HI.out.bel.size q2, q3⟩⟩
        · intro e
          have := (Own.lt ho g e).1
          omega
      clear t1 t2 t3 t4 t5 hold hrow hj
      generalize zs.getD k default = y at *
      obtain ⟨⟨op, nn, fr, to, ts, num⟩, ta0, tc0⟩ := y
      simp at j0 j1 j2 j3 j4 j5
      simp only at HCl HSt
      have hne : g ≠ wr.heap.size := by omega
      have f4 := hfz (k * 6 + 4)
      have HB2 : Hid (Below wr.heap.size wr (wr.alloc (.cells #[.int .i64 op, .int .i64 nn, .int .i64 fr, .int .i64 to, .slice ta0 ts.length tc0, .int .i64 num] 46))) := (Below.refl _ _).alloc (Nat.le_refl _) _
      clear hfz
      go_wp2_with fail
      refine Calls.mono (HCl.out _ HB2.out) ?_
      rintro e W3 ⟨v3, rfl, ho3, hb3⟩
      obtain ⟨ta3, tc3, rfl, _, _, _⟩ := ho3.sl tmC_len tm0
      have HB3 : Hid (Below wr.heap.size wr W3) := HB2.out.trans (hb3.mono HB2.out.size)
      have q4 : W3.cell? ⟨g, k * 6 + 4, none⟩ = some (.slice ta0 ts.length tc0) := cell_up HB3.out j4
      have qf : W3.frozen? ⟨g, k * 6 + 4, none⟩ = false := by rw [HB3.out.frozen (p := ⟨g, k * 6 + 4, none⟩) hglt]; exact f4
      have HO3 : Hid (Own tmC 64 2 W3 wr.heap.size (.slice ta3 ts.length tc3) ts) := ⟨ho3.1, by
        rcases ho3.2 with q | ⟨g', cap', cur, q1, q2, q3⟩
        · exact .inl q
        · exact .inr ⟨g', cap', cur, q1, by simp at q2; omega, q3⟩⟩
      clear ho3 hb3
      obtain ⟨zs', hst⟩ := HSt.out W3 ta3 tc3 HB3.out HO3.out
      have HST : Hid (CpyInv W (W3.setCell ⟨g, k * 6 + 4, none⟩ (.slice ta3 ts.length tc3)) (.slice (some ⟨g, 0, none⟩) ys.length c9) ys zs' (k + 1)) := hst
      clear hst
      go_wp2
      go_roundw
      case rel => exact ⟨k + 1, by omega, by go_num, zs', HST.out⟩
      case measure => simp [intOf]; omega
    · have hkk : k = ys.length := by omega
      have HZ : Hid (CpyInv W wr (.slice a9 ys.length c9) ys zs ys.length) := by have := HI.out; rw [hkk] at this; exact this
      clear hkk
      go_wp2
      go_ret
      exact ⟨_, zs, rfl, HZ.out.done.1, HZ.out.done.2, HZ.out.bel⟩
end Go.Proofs.Ytgpophdlmibmgaa
