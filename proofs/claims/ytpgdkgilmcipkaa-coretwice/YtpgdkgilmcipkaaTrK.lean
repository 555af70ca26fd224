/- The contract of tree's Kids. Conditions: at most 2^40 nodes, each of at most 2^40 terms; names of at most 2^63 - 1 bytes. -/
import Derived.Test.YtpgdkgilmcipkaaTrE
import Derived.Test.YtpgdkgilmcipkaaCpy
namespace Go.Proofs.Ytpgdkgilmcipkaa
open Go.RowKit
set_option linter.unusedVariables false
set_option maxRecDepth 100000

/-- Lists of nodes of which the first k lie in rows of their own, from block B on. -/
structure KidInv (W : World) (B : Nat) (wr : World) (v : Value) (L0 L : List LsV) (k : Nat) : Prop where
  own : Own lsC 28 1 wr W.heap.size v L
  len : L.length = L0.length
  nds : ∀ i, (L.getD i default).nds = (L0.getD i default).nds
  old : ∀ i, k ≤ i → L.getD i default = L0.getD i default
  new : ∀ i, i < k → i < L.length → OwnN wr B (.slice (L.getD i default).a (L.getD i default).ys.length (L.getD i default).cap) (L.getD i default).ys
  bel : Below W.heap.size W wr
  le : B ≤ wr.heap.size
theorem KidInv.stays {W wr wr' : World} {B : Nat} {v : Value} {L0 L : List LsV} {k : Nat} (h : KidInv W B wr v L0 L k) (b : Below wr.heap.size wr wr') : KidInv W B wr' v L0 L k :=
  ⟨h.own.below b, h.len, h.nds, h.old, fun i hi hl => (h.new i hi hl).below b, h.bel.trans (b.mono h.bel.size), Nat.le_trans h.le b.size⟩
/-- One more list has its own row. -/
theorem KidInv.step {W wr : World} {B g n cap : Nat} {L0 L : List LsV} {k : Nat} (h : KidInv W B wr (.slice (some ⟨g, 0, none⟩) n cap) L0 L k) (hk : k < L.length) (hg : g < B) (a : Option Addr) (c : Nat) (zs : List NdV)
    (ho : OwnN wr B (.slice a zs.length c) zs) (he : zs.map (·.x) = (L.getD k default).nds) :
    KidInv W B (wr.setCell ⟨g, k, none⟩ (.slice a zs.length c)) (.slice (some ⟨g, 0, none⟩) n cap) L0 (L.set k ⟨zs, a, c⟩) (k + 1) := by
  have hm : Mod [g] wr (wr.setCell ⟨g, k, none⟩ (.slice a zs.length c)) := ⟨rfl, rfl, rfl, by simp, fun q hq hs => Below.heap_setCell _ _ _ _ (by simpa using hs)⟩
  have hgl := Own.lt h.own g rfl
  have hoff : ∀ {y : LsV}, OwnN wr B (.slice y.a y.ys.length y.cap) y.ys → OwnN (wr.setCell ⟨g, k, none⟩ (.slice a zs.length c)) B (.slice y.a y.ys.length y.cap) y.ys := fun {y} q =>
    q.mod hm (fun g' hh => by have := (Own.lt q.row g' hh).1; simp; omega) (fun z hz g' hh => by have := (Own.lt (q.terms z hz) g' hh).1; simp; omega)
  have hst := Own.store lsC_len default h.own k hk 0 (by omega) (.slice a zs.length c) ⟨zs, a, c⟩ rfl
  rw [Nat.mul_one, Nat.add_zero] at hst
  refine ⟨hst, by rw [List.length_set]; exact h.len, fun i => ?_, fun i hi => ?_, fun i hi hl => ?_, h.bel.trans (hm.belowOf h.bel.size (by simpa using hgl.1)), by simpa using h.le⟩
  · rw [getD_set _ _ _ _ _ hk]
    split
    · rename_i e; subst e; rw [← h.nds]; exact he
    · exact h.nds i
  · rw [getD_set _ _ _ _ _ hk, if_neg (by omega)]
    exact h.old i (by omega)
  · rw [List.length_set] at hl
    rw [getD_set _ _ _ _ _ hk]
    split
    · exact hoff (y := ⟨zs, a, c⟩) ho
    · exact hoff (h.new i (by omega) hl)
/-- What the lists say has not turned. -/
theorem KidInv.done {W wr : World} {B : Nat} {v : Value} {L0 L : List LsV} (h : KidInv W B wr v L0 L L0.length) (hall : ∀ y ∈ L0, NdsAt W y.a y.cap y.ys) : L.map LsV.nds = L0.map LsV.nds ∧ ∀ y ∈ L, NdsAt wr y.a y.cap y.ys := by
  constructor
  · apply List.ext_getElem
    · simp [h.len]
    · intro i h1 h2
      have := h.nds i
      have hi1 : i < L.length := by simpa using h1
      have hi2 : i < L0.length := by simpa using h2
      simpa [List.getD_eq_getElem?_getD, hi1, hi2] using this
  · intro y hy
    obtain ⟨i, hi, rfl⟩ := List.getElem_of_mem hy
    have hi0 : i < L0.length := by rw [← h.len]; exact hi
    have q := h.new i hi0 hi
    have e := h.nds i
    have k := hall _ (getD_mem default hi0)
    rw [show L[i] = L.getD i default by simp [List.getD_eq_getElem?_getD, hi]]
    generalize L.getD i default = y at *
    generalize L0.getD i default = y0 at *
    unfold LsV.nds at e
    refine (q.at ?_ fun z hz => ?_).2
    · have := congrArg List.length e
      rw [List.length_map, List.length_map] at this
      rw [this]; exact k.few
    · have hm : z.x ∈ y.ys.map (·.x) := List.mem_map_of_mem hz
      rw [e, List.mem_map] at hm
      obtain ⟨z0, hz0, he⟩ := hm
      rw [← he]; exact (k.terms z0 hz0).few
/-- What Kids tells. -/
def KidsTells (W : World) (ys : List NdV) (e : Ending) (W' : World) : Prop := ∃ v L, e = .returned v ∧ Own lsC 28 1 W' W.heap.size v L ∧ L.map LsV.nds = splitL ((ys.map (·.x)).drop 1) ∧ (∀ y ∈ L, NdsAt W' y.a y.cap y.ys) ∧ L.length ≤ ys.length ∧ Below W.heap.size W W'
set_option maxHeartbeats 4000000 in
theorem kids_any (a : Option Addr) (cap : Nat) (ys : List NdV) (W : World) (h : NdsAt W a cap ys) (hf : NodesFit (ys.map (·.x))) (hv : validB (ys.map (·.x)) = true) :
    Calls Try.prog 12 #[.slice a ys.length cap] W (KidsTells W ys) := by
  have HV := valid_any a cap (ys.map (·.x)) W h.nodes (by rw [List.length_map]; exact h.le) hf (by rw [List.length_map]; have := h.few; omega)
  rw [List.length_map, hv] at HV
  have HS : Hid (∀ X, Below W.heap.size W X → Calls Try.prog 29 #[.slice a ys.length cap] X (SplitTells X ys)) := fun X hX => split_any a cap ys X (h.below hX)
  have hfew := h.few
  have HW : Hid (∀ v L X, Own lsC 28 1 X W.heap.size v L → L.map LsV.nds = splitL ((ys.map (·.x)).drop 1) → (∀ y ∈ L, NdsAt X y.a y.cap y.ys) → L.length ≤ ys.length → Below W.heap.size W X → KidsTells W ys (.returned v) X) := fun v L X q1 q2 q3 q4 q5 => ⟨v, L, rfl, q1, q2, q3, q4, q5⟩
  clear h hf hv
  go_enter Try.func12, Try.ntmps12
  go_wp2_with fail
  refine Calls.mono HV ?_
  rintro e W1 ⟨rfl, hb1⟩
  have HB1 : Hid (Below W.heap.size W W1) := hb1
  clear hb1 HV
  go_wp2_with fail
  refine Calls.mono (HS.out W1 HB1.out) ?_
  rintro e W2 ⟨v2, L0, rfl, ho2, hs2, hall2, hlen2, hb2⟩
  have HS2 : Hid (L0.map LsV.nds = splitL ((ys.map (·.x)).drop 1)) := hs2
  have HA2 : Hid (∀ y ∈ L0, NdsAt W1 y.a y.cap y.ys) := hall2
  have HB2 : Hid (Below W1.heap.size W1 W2) := hb2
  have HI0 : Hid (KidInv W1 W2.heap.size W2 v2 L0 L0 0) := ⟨ho2, rfl, fun _ => rfl, fun _ _ => rfl, fun i hi => by omega, hb2, Nat.le_refl _⟩
  have HG : Hid (∀ g, v2.ownBlock = some g → g < W2.heap.size) := fun g hg => (Own.lt ho2 g hg).2
  obtain ⟨a2, c2, rfl, _, _, _⟩ := ho2.sl lsC_len default
  clear ho2 hs2 hall2 hb2 HS
  go_wp2
  go_loopw [13] (fun i wr => ∃ k : Nat, k ≤ L0.length ∧ i = .int .i64 k ∧ ∃ L, KidInv W1 W2.heap.size wr (.slice a2 L0.length c2) L0 L k) (fun i _ => L0.length - (intOf i).toNat)
  case atStart => exact ⟨0, Nat.zero_le _, rfl, L0, HI0.out⟩
  case round =>
    obtain ⟨k, hk, rfl, L, hi⟩ := hrel
    have HI : Hid (KidInv W1 W2.heap.size wr (.slice a2 L0.length c2) L0 L k) := hi
    clear hi
    by_cases hlt : k < L0.length
    · have hltL : k < L.length := by rw [HI.out.len]; exact hlt
      obtain ⟨a8, c8, hv8, _, _, hrow⟩ := HI.out.own.sl lsC_len default
      simp only [Value.slice.injEq] at hv8
      obtain ⟨e8, e9, rfl⟩ := hv8
      clear e9
      subst e8
      obtain ⟨g, rfl, _, hglt, hj⟩ := hrow k hltL
      have hg2 : g < W2.heap.size := HG.out g rfl
      have hfz : wr.frozen? ⟨g, k, none⟩ = false := Own.frz HI.out.own k
      have j0 := hj 0 (by omega)
      simp only [lsC, Nat.add_zero, Nat.mul_one] at j0
      have hold : L.getD k default = L0.getD k default := HI.out.old k (Nat.le_refl _)
      have hb8 : Below W1.heap.size W1 wr := HI.out.bel
      have hat : NdsAt W1 (L.getD k default).a (L.getD k default).cap (L.getD k default).ys := by rw [hold]; exact HA2.out _ (getD_mem default hlt)
      have HJ : Hid (∀ X, Below wr.heap.size wr X → Calls Try.prog 30 #[.slice (some ⟨X.heap.size, 0, none⟩) 1 1] (X.alloc (.cells #[.slice (L.getD k default).a (L.getD k default).ys.length (L.getD k default).cap] 28)) fun e W' => ∃ v zs, e = .returned v ∧ OwnN W' (X.alloc (.cells #[.slice (L.getD k default).a (L.getD k default).ys.length (L.getD k default).cap] 28)).heap.size v zs ∧ zs.map (·.x) = (L.getD k default).nds ∧ Below X.heap.size X W') := fun X hX => by
        have hx1 : Below W1.heap.size W1 X := hb8.trans (hX.mono hb8.size)
        have hx2 : Below X.heap.size X (X.alloc (.cells #[.slice (L.getD k default).a (L.getD k default).ys.length (L.getD k default).cap] 28)) := (Below.refl _ _).alloc (Nat.le_refl _) _
        have hx3 : Below W1.heap.size W1 (X.alloc (.cells #[.slice (L.getD k default).a (L.getD k default).ys.length (L.getD k default).cap] 28)) := hx1.alloc hx1.size _
        have hf1 := hat.few
        have := join_any (some ⟨X.heap.size, 0, none⟩) 1 [L.getD k default] (X.alloc (.cells #[.slice (L.getD k default).a (L.getD k default).ys.length (L.getD k default).cap] 28))
          ⟨fun i hi => by
            obtain rfl : i = 0 := by simpa using hi
            exact ⟨X.heap.size, 0, rfl, fun j hj => by obtain rfl : j = 0 := by omega
                                                       simp [go_sem, lsC]⟩, (fun e => by cases e), Nat.le_refl _, by simp, fun y hy => by simp only [List.mem_singleton] at hy; subst hy; exact hat.below hx3⟩ (by unfold tot; simp; exact hf1)
        refine this.mono ?_
        rintro e W' ⟨v, zs, rfl, q1, q2, q3⟩
        exact ⟨v, zs, rfl, q1, by rw [q2]; unfold flat LsV.nds; simp, hx2.trans (q3.mono hx2.size)⟩
      have HST : Hid (∀ X a c zs, Below wr.heap.size wr X → OwnN X W2.heap.size (.slice a zs.length c) zs → zs.map (·.x) = (L.getD k default).nds → ∃ L', KidInv W1 W2.heap.size (X.setCell ⟨g, k, none⟩ (.slice a zs.length c)) (.slice (some ⟨g, 0, none⟩) L0.length c2) L0 L' (k + 1)) := fun X a c zs hX q1 q2 => ⟨_, (HI.out.stays hX).step hltL hg2 a c zs q1 q2⟩
      have hle8 : W2.heap.size ≤ wr.heap.size := HI.out.le
      clear hat hold hrow hj
      generalize L.getD k default = y at *
      obtain ⟨yy, ya, yc⟩ := y
      simp only at j0 HJ HST
      go_wp2_with fail
      refine Calls.mono (HJ.out wr (Below.refl _ _)) ?_
      rintro e W3 ⟨v3, zs, rfl, ho3, hz3, hb3⟩
      have HB3 : Hid (Below wr.heap.size wr W3) := hb3
      have ho4 := ho3.lower (B := W2.heap.size) (by simp; omega)
      obtain ⟨a3, c3, rfl, _, _, _⟩ := ho4.row.sl ndC_len default
      have q4 : W3.cell? ⟨g, k, none⟩ = some (.slice ya yy.length yc) := cell_up HB3.out j0
      have qf : W3.frozen? ⟨g, k, none⟩ = false := by rw [HB3.out.frozen (p := ⟨g, k, none⟩) hglt]; exact hfz
      obtain ⟨L', hst⟩ := HST.out W3 a3 c3 zs HB3.out ho4 hz3
      have HST2 : Hid (KidInv W1 W2.heap.size (W3.setCell ⟨g, k, none⟩ (.slice a3 zs.length c3)) (.slice (some ⟨g, 0, none⟩) L0.length c2) L0 L' (k + 1)) := hst
      clear hst ho3 ho4 hz3 hb3
      go_wp2
      go_roundw
      case rel => exact ⟨k + 1, by omega, by go_num, L', HST2.out⟩
      case measure => simp [intOf]; omega
    · have hkk : k = L0.length := by omega
      have HZ : Hid (KidInv W1 W2.heap.size wr (.slice a2 L0.length c2) L0 L L0.length) := by have := HI.out; rw [hkk] at this; exact this
      clear hkk HI
      go_wp2
      go_ret
      obtain ⟨z1, z2⟩ := HZ.out.done HA2.out
      exact HW.out _ L wr (HZ.out.own.lower HB1.out.size) (by rw [z1]; exact HS2.out) z2 (by rw [HZ.out.len]; exact hlen2) (HB1.out.trans (HZ.out.bel.mono HB1.out.size))
end Go.Proofs.Ytpgdkgilmcipkaa
