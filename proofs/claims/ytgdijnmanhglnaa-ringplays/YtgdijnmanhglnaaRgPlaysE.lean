/- The contracts of the document's own ring: Push, Ago, Max, Min. Conditions: a ring of at most 2000 numbers. -/
import Derived.Test.YtgdijnmanhglnaaRgPlaysD
namespace Go.Proofs.Ytgdijnmanhglnaa
open Go.RowKit
set_option linter.unusedVariables false
set_option maxRecDepth 100000

set_option maxHeartbeats 4000000 in
theorem qpush_any {W : World} {r n : Nat} {xs : List Int} {S : List Nat} (h : RefR W r n xs.reverse S) (hx : xs.length ≤ n) (hn : n ≤ 2000) (hS : ∀ i ∈ S, i < W.heap.size) (a : Option Addr) (zs : List Int) (cap : Nat) (hz : IntRow W a zs) (ho : 0 < zs.length → Off a [r]) (hl : zs.length ≤ 1000) :
    Calls Try.prog 14 #[.pointer (some ⟨r, 0, none⟩), .slice a zs.length cap] W fun e w' => e = .returned (.tuple #[]) ∧ RefR w' r n (pushL n xs zs).reverse S ∧ Mod [r] W w' := by
  have HR : Hid (RefR W r n xs.reverse S) := h
  have HZ : Hid (IntRow W a zs) := hz
  have HO : Hid (0 < zs.length → Off a [r]) := ho
  have HL : Hid (xs.length ≤ n) := hx
  have HS : Hid (∀ i ∈ S, i < W.heap.size) := hS
  clear h hz ho hx hS
  go_enter Try.func14, Try.ntmps14
  go_wp2
  go_loopw [4] (fun i wr => ∃ k : Nat, k ≤ zs.length ∧ i = .int .i64 k ∧ RefR wr r n (pushL n xs (zs.take k)).reverse S ∧ Mod [r] W wr) (fun i _ => zs.length - (intOf i).toNat)
  case atStart => exact ⟨0, Nat.zero_le _, rfl, by rw [List.take_zero, pushL_nil _ _ HL.out]; exact HR.out, Mod.refl _ _⟩
  case round =>
    obtain ⟨k, hk, rfl, hring, hmod⟩ := hrel
    have HRr : Hid (RefR wr r n (pushL n xs (zs.take k)).reverse S) := hring
    have HM : Hid (Mod [r] W wr) := hmod
    clear hring hmod
    by_cases hlt : k < zs.length
    · obtain ⟨b', off, hab, hc⟩ := (HZ.out.mod HM.out (HO.out (by omega))) k hlt
      have hbr : b' ≠ r := by have := HO.out (by omega) _ hab; simpa using this
      cases hab
      obtain ⟨aL, cL, R⟩ := HRr.out
      have HRA : Hid (RefRAt wr r n (pushL n xs (zs.take k)).reverse S aL cL) := R
      clear R HRr
      have HT : Hid (pushL n xs (zs.take (k + 1)) = (zs.getD k 0 :: pushL n xs (zs.take k)).take n) := pushL_snoc n xs zs k hlt
      have hyl : (pushL n xs (zs.take k)).length ≤ n := by rw [pushL_len]; omega
      generalize pushL n xs (zs.take k) = ys at *
      generalize zs.getD k 0 = x at *
      have HP := pushR n ys x hyl
      have HX : Hid (wr.cell? ⟨b', off + k, none⟩ = some (.int .i64 x)) := hc
      obtain ⟨L, hL⟩ : ∃ L, ys.reverse = L := ⟨_, rfl⟩
      have hLl : L.length ≤ n := by rw [← hL]; simpa using hyl
      rw [hL] at HRA HP
      have HPQ : Hid ((if n < (L ++ [x]).length then (L ++ [x]).drop 1 else L ++ [x]) = ((x :: ys).take n).reverse) := HP
      clear hL HP hc
      go_wp2_with fail
      refine push_tail wr r n k zs.length cap b' off x L S aL cL _ _ _ _ _ _ _ _ _ _ _ _ _ _ _ _ _ _ _ _ _ _ _ _ _ _ _ _ _ _ _ _ _ _ _ _ _ _ _ _ _ HRA.out HX.out hbr hlt (by omega) (by omega) (fun c a dd vv w h => by cases dd <;> exact h) ?_
      intro X g3 cap3 hB hrow hg hc3 v1 vq
      have hP : RefRAt (X.setCell ⟨r, 1, none⟩ (.slice (some ⟨g3, 0, none⟩) (L ++ [x]).length cap3)) r n (L ++ [x]) S (some ⟨g3, 0, none⟩) cap3 := HRA.out.put hB hrow (fun h => by cases h) (fun _ y hy hm => by cases hy; have := HS.out _ hm; have := HM.out.size; simp only at *; omega) (by simpa using hc3)
      rw [show (L ++ [x]).length = L.length + 1 by simp] at hP
      have hM' : Mod [r] W (X.setCell ⟨r, 1, none⟩ (.slice (some ⟨g3, 0, none⟩) (L.length + 1) cap3)) := (HM.out.trans (Mod.of_below hB)).setCell _ _ _ (by simp)
      generalize X.setCell ⟨r, 1, none⟩ (.slice (some ⟨g3, 0, none⟩) (L.length + 1) cap3) = Y at *
      have HY : Hid (RefRAt Y r n (L ++ [x]) S (some ⟨g3, 0, none⟩) cap3) := hP
      have HMY : Hid (Mod [r] W Y) := hM'
      have y0 := hP.c0
      have y1 := hP.c1
      rw [show (L ++ [x]).length = L.length + 1 by simp] at y1
      have yf := hP.f 1
      clear hP hM' hB hrow hg HRA HX
      by_cases hfull : n < L.length + 1
      · obtain ⟨a2, c2, hs2, hr2, ho2, hn2, hc2⟩ := slice_from (some ⟨g3, 0, none⟩) cap3 (L ++ [x]) 1 Y HY.out.row HY.out.nil (by simp) HY.out.fit
        have e1 : (L ++ [x]).length - 1 = L.length := by simp
        rw [e1, show (L ++ [x]).length = L.length + 1 by simp] at hs2
        change ∀ W, (Instr.slice 32 (.slice (some ⟨g3, 0, none⟩) (L.length + 1) cap3) (some (.int .i64 1)) none none).run Try.prog W = .ok (.slice a2 L.length c2) W at hs2
        have HN : Hid (RefRAt (Y.drew.setCell ⟨r, 1, none⟩ (.slice a2 ((L ++ [x]).drop 1).length c2)) r n ((L ++ [x]).drop 1) S a2 c2) := HY.out.put (Below.refl _ _).drew (hr2.below (Below.refl _ _).drew) hn2 (fun h => ho2 _ (HY.out.off (by simp))) (by rw [List.length_drop]; omega)
        have HNe : Hid (((L ++ [x]).drop 1).length = L.length) := by show _ = _; rw [List.length_drop]; simp
        clear hr2 ho2 hn2 hc2
        go_wp2
        go_region
        go_wp2
        go_roundw
        case rel => exact ⟨k + 1, by omega, by go_num, by rw [HT.out, ← HPQ.out, if_pos (by simpa using hfull)]; have := HN.out; rw [HNe.out] at this; exact ⟨_, _, this⟩, (HMY.out.drew.setCell _ _ _ (by simp))⟩
        case measure => simp [intOf]; omega
      · go_wp2
        go_region
        go_wp2
        go_roundw
        case rel => exact ⟨k + 1, by omega, by go_num, by rw [HT.out, ← HPQ.out, if_neg (by simpa using hfull)]; exact ⟨_, _, HY.out.drew⟩, HMY.out.drew⟩
        case measure => simp [intOf]; omega
    · have HE : Hid (RefR wr r n (pushL n xs zs).reverse S) := by have := HRr.out; rw [List.take_of_length_le (by omega)] at this; exact this
      clear HRr
      go_wp2
      first | go_end0 | refine bodyPost_ret (results_none rfl _ _ _) rfl ?_
      exact ⟨rfl, HE.out, HM.out⟩
end Go.Proofs.Ytgdijnmanhglnaa
