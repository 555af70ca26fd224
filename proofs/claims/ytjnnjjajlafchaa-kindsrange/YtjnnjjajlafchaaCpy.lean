/- The contract of tree's Join: the nodes of lists one behind the other, in rows of their own, and their terms. Conditions: at most 2^40 nodes in all, each of at most 2^40 terms. -/
import Derived.Test.YtjnnjjajlafchaaTrC
namespace Go.Proofs.Ytjnnjjajlafchaa
open Go.RowKit
set_option linter.unusedVariables false
set_option maxRecDepth 100000

structure CpyInv (W wr : World) (v : Value) (ys zs : List NdV) (k : Nat) : Prop where
  own : Own ndC 67 6 wr W.heap.size v zs
  len : zs.length = ys.length
  eqx : ∀ i, (zs.getD i default).x = (ys.getD i default).x
  old : ∀ i, k ≤ i → zs.getD i default = ys.getD i default
  new : ∀ i, i < k → i < zs.length → OwnT wr W.heap.size (zs.getD i default) ∧ ∀ g, v.ownBlock = some g → (Value.slice (zs.getD i default).ta (zs.getD i default).x.terms.length (zs.getD i default).tc).ownBlock ≠ some g
  bel : Below W.heap.size W wr
theorem CpyInv.stays {W wr wr' : World} {v : Value} {ys zs : List NdV} {k : Nat} (h : CpyInv W wr v ys zs k) (b : Below wr.heap.size wr wr') : CpyInv W wr' v ys zs k :=
  ⟨h.own.below b, h.len, h.eqx, h.old, fun i hi hl => ⟨(h.new i hi hl).1.below b, (h.new i hi hl).2⟩, h.bel.trans (b.mono h.bel.size)⟩
/-- One more node has its own terms. -/
theorem CpyInv.step {W wr : World} {g n cap : Nat} {ys zs : List NdV} {k : Nat} (h : CpyInv W wr (.slice (some ⟨g, 0, none⟩) n cap) ys zs k) (hk : k < zs.length) (ta : Option Addr) (tc : Nat)
    (ho : Own tmC 74 2 wr W.heap.size (.slice ta (zs.getD k default).x.terms.length tc) (zs.getD k default).x.terms) (hne : (Value.slice ta (zs.getD k default).x.terms.length tc).ownBlock ≠ some g) :
    CpyInv W (wr.setCell ⟨g, k * 6 + 4, none⟩ (.slice ta (zs.getD k default).x.terms.length tc)) (.slice (some ⟨g, 0, none⟩) n cap) ys (zs.set k ⟨(zs.getD k default).x, ta, tc⟩) (k + 1) := by
  have hm : Mod [g] wr (wr.setCell ⟨g, k * 6 + 4, none⟩ (.slice ta (zs.getD k default).x.terms.length tc)) := ⟨rfl, rfl, rfl, by simp, fun q hq hs => Below.heap_setCell _ _ _ _ (by simpa using hs)⟩
  have hg := (Own.lt h.own g rfl).1
  refine ⟨Own.store ndC_len default h.own k hk 4 (by omega) _ _ rfl, by rw [List.length_set]; exact h.len, fun i => ?_, fun i hi => ?_, fun i hi hl => ?_, h.bel.trans (hm.belowOf h.bel.size (by simpa using hg))⟩
  · rw [getD_set _ _ _ _ _ hk]
    split
    · rename_i e; rw [e]; exact h.eqx k
    · exact h.eqx i
  · rw [getD_set _ _ _ _ _ hk, if_neg (by omega)]
    exact h.old i (by omega)
  · rw [List.length_set] at hl
    rw [getD_set _ _ _ _ _ hk]
    split
    · refine ⟨Own.mod (S := [g]) ho hm (fun q hq => by simp; intro e; rw [e] at hq; exact hne hq), fun q hq => ?_⟩
      cases hq
      exact hne
    · rename_i e
      obtain ⟨k1, k2⟩ := h.new i (by omega) hl
      exact ⟨Own.mod (S := [g]) k1 hm (fun q hq => by simp; intro e; rw [e] at hq; exact k2 g rfl hq), k2⟩
theorem CpyInv.done {W wr : World} {v : Value} {ys zs : List NdV} (h : CpyInv W wr v ys zs ys.length) : OwnN wr W.heap.size v zs ∧ zs.map (·.x) = ys.map (·.x) := by
  refine ⟨⟨h.own, fun z hz => ?_, fun z hz => ?_⟩, ?_⟩
  · obtain ⟨i, hi, rfl⟩ := List.getElem_of_mem hz
    have := (h.new i (by rw [← h.len]; exact hi) hi).1
    simpa [List.getD_eq_getElem?_getD, hi] using this
  · obtain ⟨i, hi, rfl⟩ := List.getElem_of_mem hz
    have := (h.new i (by rw [← h.len]; exact hi) hi).2
    simpa [List.getD_eq_getElem?_getD, hi] using this
  · apply List.ext_getElem
    · simp [h.len]
    · intro i h1 h2
      have := h.eqx i
      have hi1 : i < zs.length := by simpa using h1
      have hi2 : i < ys.length := by simpa using h2
      simpa [List.getD_eq_getElem?_getD, hi1, hi2] using this
/-- (Was: a plain address. Nothing is asked any more.) -/
def Plain (_ : Option Addr) : Prop := True
set_option maxHeartbeats 4000000 in
theorem join_any (a : Option Addr) (cap : Nat) (L : List LsV) (W : World) (h : LssAt W a cap L) (ht : tot L ≤ 1099511627776) :
    Calls Try.prog 34 #[.slice a L.length cap] W fun e W' => ∃ v zs, e = .returned v ∧ OwnN W' W.heap.size v zs ∧ zs.map (·.x) = (flat L).map (·.x) ∧ Below W.heap.size W W' := by
  have HK : Hid (∀ y ∈ flat L, TmsAt W y) := fun y hy => by
    unfold flat at hy
    rw [List.mem_flatMap] at hy
    obtain ⟨z, hz, hy⟩ := hy
    exact (h.each z hz).terms y hy
  have HC := concat_any a cap L W h ht
  have hl : (flat L).length ≤ 1099511627776 := by rw [flat_len]; exact ht
  clear h ht
  generalize flat L = ys at *
  go_enter Try.func34, Try.ntmps34
  go_wp2_with fail
  refine Calls.mono HC ?_
  rintro e W1 ⟨v, rfl, ho, hb⟩
  have HI0 : Hid (CpyInv W W1 v ys ys 0) := ⟨ho, rfl, fun _ => rfl, fun _ _ => rfl, fun i hi => by omega, hb⟩
  obtain ⟨a9, c9, rfl, _, _, _⟩ := ho.sl ndC_len default
  clear ho hb HC
  go_wp2
  go_loopw [10] (fun i wr => ∃ k : Nat, k ≤ ys.length ∧ i = .int .i64 k ∧ ∃ zs, CpyInv W wr (.slice a9 ys.length c9) ys zs k) (fun i _ => ys.length - (intOf i).toNat)
  case atStart => exact ⟨0, Nat.zero_le _, rfl, ys, HI0.out⟩
  case round =>
    obtain ⟨k, hk, rfl, zs, hi⟩ := hrel
    have HI : Hid (CpyInv W wr (.slice a9 ys.length c9) ys zs k) := hi
    clear hi
    by_cases hlt : k < ys.length
    · have hltz : k < zs.length := by rw [HI.out.len]; exact hlt
      obtain ⟨a8, c8, hv8, _, _, hrow⟩ := HI.out.own.sl ndC_len default
      simp only [Value.slice.injEq] at hv8
      obtain ⟨e8, e9, rfl⟩ := hv8
      clear e9
      subst e8
      obtain ⟨g, rfl, _, hglt, hj⟩ := hrow k hltz
      have hfz : ∀ j, wr.frozen? ⟨g, j, none⟩ = false := fun j => Own.frz HI.out.own j
      have j0 := hj 0 (by omega)
      have j1 := hj 1 (by omega)
      have j2 := hj 2 (by omega)
      have j3 := hj 3 (by omega)
      have j4 := hj 4 (by omega)
      have j5 := hj 5 (by omega)
      simp only [ndC, Nat.add_zero] at j0 j1 j2 j3 j4 j5
      have hold : zs.getD k default = ys.getD k default := HI.out.old k (Nat.le_refl _)
      obtain ⟨t1, t2, t4, t5⟩ := HK.out (zs.getD k default) (by rw [hold, List.getD_eq_getElem?_getD, List.getElem?_eq_getElem hlt]; exact List.getElem_mem hlt)
      have HCl : Hid (∀ X, Below wr.heap.size wr X → Calls Try.prog 52 #[.slice (zs.getD k default).ta (zs.getD k default).x.terms.length (zs.getD k default).tc] X fun e W' => ∃ v, e = .returned v ∧ Own tmC 74 2 W' X.heap.size v (zs.getD k default).x.terms ∧ Below X.heap.size X W') :=
        fun X hX => cloneTerm_any _ _ _ X ((t1.below (HI.out.bel.trans (hX.mono HI.out.bel.size))).rowOf) t2 t5 t4
      have HSt : Hid (∀ X ta tc, Below wr.heap.size wr X → Own tmC 74 2 X wr.heap.size (.slice ta (zs.getD k default).x.terms.length tc) (zs.getD k default).x.terms → ∃ zs', CpyInv W (X.setCell ⟨g, k * 6 + 4, none⟩ (.slice ta (zs.getD k default).x.terms.length tc)) (.slice (some ⟨g, 0, none⟩) ys.length c9) ys zs' (k + 1)) := fun X ta tc hX ho => by
        refine ⟨_, (HI.out.stays hX).step hltz ta tc ?_ ?_⟩
        · exact ⟨ho.1, by
            rcases ho.2 with q | ⟨g', cap', cur, q1, q2, q3⟩
            · exact .inl q
            · exact .inr ⟨g', cap', cur, q1, Nat.le_trans HI.out.bel.size q2, q3⟩⟩
        · intro e
          have := (Own.lt ho g e).1
          omega
      clear t1 t2 t4 t5 hold hrow hj
      generalize zs.getD k default = y at *
      obtain ⟨⟨op, nn, fr, to, ts, num⟩, ta0, tc0⟩ := y
      simp at j0 j1 j2 j3 j4 j5
      simp only at HCl HSt
      have hne : g ≠ wr.heap.size := by omega
      have f4 := hfz (k * 6 + 4)
      have HB2 : Hid (Below wr.heap.size wr (wr.alloc (.cells #[.int .i64 op, .int .i64 nn, .int .i64 fr, .int .i64 to, .slice ta0 ts.length tc0, .int .i64 num] 67))) := (Below.refl _ _).alloc (Nat.le_refl _) _
      clear hfz
      go_wp2_with fail
      refine Calls.mono (HCl.out _ HB2.out) ?_
      rintro e W3 ⟨v3, rfl, ho3, hb3⟩
      obtain ⟨ta3, tc3, rfl, _, _, _⟩ := ho3.sl tmC_len tm0
      have HB3 : Hid (Below wr.heap.size wr W3) := HB2.out.trans (hb3.mono HB2.out.size)
      have q4 : W3.cell? ⟨g, k * 6 + 4, none⟩ = some (.slice ta0 ts.length tc0) := cell_up HB3.out j4
      have qf : W3.frozen? ⟨g, k * 6 + 4, none⟩ = false := by rw [HB3.out.frozen (p := ⟨g, k * 6 + 4, none⟩) hglt]; exact f4
      have HO3 : Hid (Own tmC 74 2 W3 wr.heap.size (.slice ta3 ts.length tc3) ts) := ⟨ho3.1, by
        rcases ho3.2 with q | ⟨g', cap', cur, q1, q2, q3⟩
        · exact .inl q
        · exact .inr ⟨g', cap', cur, q1, by simp at q2; omega, q3⟩⟩
      clear ho3 hb3
      obtain ⟨zs', hst⟩ := HSt.out W3 ta3 tc3 HB3.out HO3.out
      have HST : Hid (CpyInv W (W3.setCell ⟨g, k * 6 + 4, none⟩ (.slice ta3 ts.length tc3)) (.slice (some ⟨g, 0, none⟩) ys.length c9) ys zs' (k + 1)) := hst
      clear hst
      go_wp2
      go_roundw
      case rel => exact ⟨k + 1, by omega, by go_num, zs', HST.out⟩
      case measure => simp [intOf]; omega
    · have hkk : k = ys.length := by omega
      have HZ : Hid (CpyInv W wr (.slice a9 ys.length c9) ys zs ys.length) := by have := HI.out; rw [hkk] at this; exact this
      clear hkk
      go_wp2
      go_ret
      exact ⟨_, zs, rfl, HZ.out.done.1, HZ.out.done.2, HZ.out.bel⟩
theorem OwnN.mod {S : List Nat} {W W' : World} {B : Nat} {v : Value} {zs : List NdV} (h : OwnN W B v zs) (m : Mod S W W') (hv : ∀ g, v.ownBlock = some g → g ∉ S) (ht : ∀ z ∈ zs, ∀ g, (Value.slice z.ta z.x.terms.length z.tc).ownBlock = some g → g ∉ S) : OwnN W' B v zs :=
  ⟨h.row.mod m hv, fun z hz => Own.mod (h.terms z hz) m (ht z hz), h.apart⟩
theorem OwnN.below {W W' : World} {B : Nat} {v : Value} {zs : List NdV} (h : OwnN W B v zs) (k : Below W.heap.size W W') : OwnN W' B v zs := h.mod (S := []) (Mod.of_below k) (by simp) (by simp)
theorem Own.lower {X : Type} {C : X → List Value} {e : TypeId} {c : Nat} {W : World} {B B' : Nat} {v : Value} {l : List X} (h : Own C e c W B' v l) (hB : B ≤ B') : Own C e c W B v l :=
  ⟨h.1, by
    rcases h.2 with q | ⟨g', cap', cur, q1, q2, q3⟩
    · exact .inl q
    · exact .inr ⟨g', cap', cur, q1, Nat.le_trans hB q2, q3⟩⟩
theorem OwnN.lower {W : World} {B B' : Nat} {v : Value} {zs : List NdV} (h : OwnN W B' v zs) (hB : B ≤ B') : OwnN W B v zs := ⟨h.row.lower hB, fun z hz => (h.terms z hz).lower hB, h.apart⟩
/-- Join of one list. -/
theorem join_one (a : Option Addr) (cap : Nat) (ys : List NdV) (X : World) (h : NdsAt X a cap ys) :
    Calls Try.prog 34 #[.slice (some ⟨X.heap.size, 0, none⟩) 1 1] (X.alloc (.cells #[.slice a ys.length cap] 53)) fun e W' => ∃ v zs, e = .returned v ∧ OwnN W' X.heap.size v zs ∧ zs.map (·.x) = ys.map (·.x) ∧ Below X.heap.size X W' := by
  have hx2 : Below X.heap.size X (X.alloc (.cells #[.slice a ys.length cap] 53)) := (Below.refl _ _).alloc (Nat.le_refl _) _
  have hf1 := h.few
  have := join_any (some ⟨X.heap.size, 0, none⟩) 1 [⟨ys, a, cap⟩] (X.alloc (.cells #[.slice a ys.length cap] 53))
    ⟨fun i hi => by
      obtain rfl : i = 0 := by simpa using hi
      exact ⟨X.heap.size, 0, rfl, fun j hj => by obtain rfl : j = 0 := by omega
                                                 simp [go_sem, lsC]⟩, (fun e => by cases e), Nat.le_refl _, by simp, fun y hy => by simp only [List.mem_singleton] at hy; subst hy; exact h.below hx2⟩ (by unfold tot; simp; exact hf1)
  refine this.mono ?_
  rintro e W' ⟨v, zs, rfl, q1, q2, q3⟩
  exact ⟨v, zs, rfl, q1.lower (by simp), by rw [q2]; unfold flat; simp, hx2.trans (q3.mono hx2.size)⟩
end Go.Proofs.Ytjnnjjajlafchaa
