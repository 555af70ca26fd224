/- The contract of tree's Split. Conditions: at most 2^40 nodes, each of at most 2^40 terms. -/
import Derived.Test.YtpgdkgilmcipkaaTrB
namespace Go.Proofs.Ytpgdkgilmcipkaa
open Go.RowKit
set_option linter.unusedVariables false
set_option maxRecDepth 100000

def slLen : Value → Nat
  | .slice _ n _ => n
  | _ => 0
/-- What Split tells. -/
def SplitTells (W : World) (ys : List NdV) (e : Ending) (W' : World) : Prop := ∃ v L, e = .returned v ∧ Own lsC 28 1 W' W.heap.size v L ∧ L.map LsV.nds = splitL ((ys.map (·.x)).drop 1) ∧ (∀ y ∈ L, NdsAt W y.a y.cap y.ys) ∧ L.length ≤ ys.length ∧ Below W.heap.size W W'
set_option maxHeartbeats 4000000 in
theorem split_any (a : Option Addr) (cap : Nat) (ys : List NdV) (W : World) (h : NdsAt W a cap ys) :
    Calls Try.prog 29 #[.slice a ys.length cap] W (SplitTells W ys) := by
  by_cases h0 : ys.length = 0
  · obtain rfl : ys = [] := List.length_eq_zero_iff.1 h0
    have HE : Hid (SplitTells W [] (.returned (.slice none 0 0)) W) := ⟨_, [], rfl, Own.nil _ _ _ _ _, rfl, (fun y hy => by cases hy), Nat.le_refl _, Below.refl _ _⟩
    clear h
    go_enter Try.func29, Try.ntmps29
    go_wp2
    go_ret
    exact HE.out
  · obtain ⟨a2, hd2, h2⟩ := nds_drop h 1 (by omega)
    have hd : ∀ X, (Instr.slice 28 (.slice a ys.length cap) (some (.int .i64 1)) none none).run Try.prog X = .ok (.slice a2 (ys.length - 1) (cap - 1)) X := hd2
    have HS0 : Hid (NdsAt W a2 (cap - 1) (ys.drop 1)) := h2
    have hfew := h.few
    have HW : Hid (∀ v L X, Own lsC 28 1 X W.heap.size v L → L.map LsV.nds = splitL ((ys.map (·.x)).drop 1) → (∀ y ∈ L, NdsAt W y.a y.cap y.ys) → L.length ≤ ys.length → Below W.heap.size W X → SplitTells W ys (.returned v) X) := fun v L X q1 q2 q3 q4 q5 => ⟨v, L, rfl, q1, q2, q3, q4, q5⟩
    have hne : ((ys.length : Int) == 0) = false := by rw [beq_eq_false_iff_ne]; omega
    have HL1 : Hid ((ys.drop 1).length = ys.length - 1) := List.length_drop
    have HM1 : Hid ((ys.map (·.x)).drop 1 = (ys.drop 1).map (·.x)) := (List.map_drop).symm
    clear hd2 h2 h
    go_enter Try.func29, Try.ntmps29
    go_wp2
    go_loopw [3, 4] (fun kv rv wr => ∃ L zs ra rc ka kn kc, rv = .slice ra zs.length rc ∧ kv = .slice ka kn kc ∧ Own lsC 28 1 wr W.heap.size (.slice ka kn kc) L ∧ NdsAt W ra rc zs ∧ (∀ y ∈ L, NdsAt W y.a y.cap y.ys) ∧ splitL ((ys.map (·.x)).drop 1) = L.map LsV.nds ++ splitL (zs.map (·.x)) ∧ Below W.heap.size W wr ∧ L.length + zs.length ≤ ys.length) (fun _ r _ => slLen r)
    case atStart => exact ⟨[], ys.drop 1, a2, cap - 1, none, 0, 0, by rw [HL1.out], rfl, Own.nil _ _ _ _ _, HS0.out, (fun y hy => by cases hy), by rw [HM1.out]; rfl, Below.refl _ _, by rw [HL1.out]; simp⟩
    case round =>
      obtain ⟨L, zs, ra, rc, ka, kn, kc, rfl, rfl, ho, hn, hall, hs, hb, hlen⟩ := hrel
      have HB : Hid (Below W.heap.size W wr) := hb
      have HO : Hid (Own lsC 28 1 wr W.heap.size (.slice ka kn kc) L) := ho
      have HALL : Hid (∀ y ∈ L, NdsAt W y.a y.cap y.ys) := hall
      have HS : Hid (splitL ((ys.map (·.x)).drop 1) = L.map LsV.nds ++ splitL (zs.map (·.x))) := hs
      have HN : Hid (NdsAt W ra rc zs) := hn
      clear hb ho hall hs hn
      by_cases hz : 0 < zs.length
      · have HC := treeSize_any ra rc (zs.map (·.x)) wr (HN.out.below HB.out).nodes (by rw [List.length_map]; exact HN.out.few)
        rw [List.length_map] at HC
        have HSP : Hid (splitL (zs.map (·.x)) = (zs.map (·.x)).take (scanW 1 (zs.map (·.x))).1 :: splitL ((zs.map (·.x)).drop (scanW 1 (zs.map (·.x))).1)) := splitL_ne (by rw [List.length_map]; exact hz)
        have hs1 : (scanW 1 (zs.map (·.x))).1 ≤ zs.length := by have := scanW_le (zs.map (·.x)) 1; rwa [List.length_map] at this
        have hs0 : 0 < (scanW 1 (zs.map (·.x))).1 := by
          cases zs with
          | nil => simp at hz
          | cons z zs => exact scanW_pos 1 z.x _
        generalize (scanW 1 (zs.map (·.x))).1 = s at *
        generalize (scanW 1 (zs.map (·.x))).2 = sb at *
        have ht := nds_take HN.out s hs1
        obtain ⟨a3, hd3, h3⟩ := nds_drop HN.out s hs1
        have HN3 : Hid (NdsAt W a3 (rc - s) (zs.drop s)) := h3
        have HL3 : Hid ((zs.drop s).length = zs.length - s) := List.length_drop
        have HX : Hid (∀ W2, Below W.heap.size W W2 → Below wr.heap.size wr W2 → ∃ va vn vc X, (Builtin.append_ #[39, 39] 39 #[.slice ka kn kc, .slice (some ⟨W2.heap.size, 0, none⟩) 1 1]).run Try.prog (W2.alloc (.cells #[.slice ra s rc] 28)) = .ok (.slice va vn vc) X ∧ Own lsC 28 1 X W.heap.size (.slice va vn vc) (L ++ [⟨zs.take s, ra, rc⟩]) ∧ Below W.heap.size W X) := fun W2 b1 b2 => by
          have hfew' := HN.out.few
          obtain ⟨v', X, hr, ho, hg, _⟩ := Own.append lsC_len lsC_one Try.underlying39 infoNodes rfl (by omega) (W2.alloc (.cells #[.slice ra s rc] 28)) W.heap.size (.slice ka kn kc) L (HO.out.below (b2.alloc b2.size _)) ⟨zs.take s, ra, rc⟩ W2.heap.size
            (by intro j hj; obtain rfl : j = 0 := by omega
                simp only [go_sem, lsC, List.length_take, Nat.min_eq_left hs1]; simp) (by unfold maxLen; omega) (by omega) (by have := b1.size; simp; omega)
          obtain ⟨va, vc, rfl, _⟩ := ho.sl lsC_len default
          refine ⟨va, _, vc, X, hr, ho, (b1.alloc b1.size _).trans ((Mod.grown hg).belowOf (by have := b1.size; simp; omega) fun g hh => ?_)⟩
          exact (Own.lt HO.out g (by simpa using hh)).1
        have HNEW : Hid (∀ y ∈ L ++ [(⟨zs.take s, ra, rc⟩ : LsV)], NdsAt W y.a y.cap y.ys) := fun y hy => by
          rcases List.mem_append.1 hy with hy | hy
          · exact HALL.out y hy
          · simp only [List.mem_singleton] at hy
            subst hy
            exact HN.out.take s
        have HSN : Hid (splitL ((ys.map (·.x)).drop 1) = (L ++ [(⟨zs.take s, ra, rc⟩ : LsV)]).map LsV.nds ++ splitL ((zs.drop s).map (·.x))) := by
          show _ = _
          rw [HS.out, HSP.out]
          simp [LsV.nds]
        clear h3 HALL HS HN HSP
        go_wp2_with fail
        refine Calls.mono HC ?_
        rintro e W2 ⟨rfl, hb2⟩
        have HB2 : Hid (Below W.heap.size W W2) := HB.out.trans (hb2.mono HB.out.size)
        obtain ⟨va, vn, vc, X, hr, hx⟩ := HX.out W2 HB2.out hb2
        have HR : Hid _ := hr
        have HXX : Hid (Own lsC 28 1 X W.heap.size (.slice va vn vc) (L ++ [⟨zs.take s, ra, rc⟩]) ∧ Below W.heap.size W X) := hx
        clear hr hx hb2 HX HC HO
        go_wp2_with (at_builtin; refine append_runO (by rfl) _ _ (by rfl) (by rfl) _ _ _ _ (by rfl) (by rfl) HR.out ?_)
        go_roundw
        case rel => exact ⟨_, zs.drop s, a3, rc - s, va, vn, vc, by rw [HL3.out], rfl, HXX.out.1, HN3.out, HNEW.out, HSN.out, HXX.out.2, by rw [HL3.out]; simp; omega⟩
        case measure => simp [slLen]; omega
      · obtain rfl : zs = [] := List.length_eq_zero_iff.1 (by omega)
        have HSN : Hid (L.map LsV.nds = splitL ((ys.map (·.x)).drop 1)) := by
          show _ = _
          rw [HS.out]; simp [splitL_nil]
        clear HS HN
        simp only [List.length_nil] at *
        go_wp2
        go_ret
        exact HW.out _ _ _ HO.out HSN.out HALL.out (by omega) HB.out
end Go.Proofs.Ytpgdkgilmcipkaa
