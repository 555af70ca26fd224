/- FixSums: the law, for every input. Conditions: none but the numbers' own ranges. -/
import Derived.Test.YtapdnahjcadpeaaDoorFxSumA
import Derived.Test.YtapdnahjcadpeaaDoorFxSumB
import Derived.Test.YtapdnahjcadpeaaDoorFxSumC
namespace Go.Proofs.YtapdnahjcadpeaaDoor
open Go.RowKit
set_option linter.unusedVariables false
set_option maxRecDepth 100000

theorem sums_none (k : Int) (a : Option Addr) (len cap : Nat) (w : World) (hm : MaxLenIs w) (ht : PowsAre w) (h : 200 < len ∨ len = 0) :
    Calls Tryd.prog 5 #[.slice a len cap, .int .i64 k] w fun e w' => e = .returned (.bool true) ∧ Below w.heap.size w w' := by
  have HM : Hid (MaxLenIs w) := hm
  have HP : Hid (PowsAre w) := ht
  clear hm ht
  by_cases h1 : (200 : Int) < (len : Int)
  · clear h
    go_enter Tryd.func5, Tryd.ntmps5
    go_wp2_with (go_at_call 7; refine (alive_any _ HM.out HP.out).mono ?_; rintro e w' ⟨rfl, hb⟩)
    go_ret
    exact ⟨rfl, hb⟩
  · obtain rfl : len = 0 := by omega
    clear h h1
    go_enter Tryd.func5, Tryd.ntmps5
    go_wp2_with (go_at_call 7; refine (alive_any _ HM.out HP.out).mono ?_; rintro e w' ⟨rfl, hb⟩)
    go_ret
    exact ⟨rfl, hb⟩
theorem sums_any (a : Option Addr) (len cap : Nat) (zs : List Int) (k : Int) (w : World) (hm : MaxLenIs w) (ht : PowsAre w) (h : IsInts w a len cap zs) (k1 : -9223372036854775808 ≤ k) (k2 : k ≤ 9223372036854775807) :
    Calls Tryd.prog 5 #[.slice a len cap, .int .i64 k] w fun e w' => e = .returned (.bool true) ∧ Below w.heap.size w w' := by
  by_cases hc : 200 < len ∨ len = 0
  · exact sums_none k a len cap w hm ht hc
  · obtain ⟨r1, r2, r3, r4⟩ := h.row
    have hcap : len ≤ cap := by
      rcases h with ⟨_, rfl, rfl, _⟩ | ⟨_, _, hl, _⟩
      · exact Nat.le_refl _
      · exact hl
    obtain ⟨b', off, rfl, _⟩ := r1 0 (by omega)
    have key : Calls Tryd.prog 5 #[.slice (some ⟨b', off, none⟩) (zs.take len).length cap, .int .i64 k] w fun e w' => e = .returned (.bool true) ∧ Below w.heap.size w w' := by
      generalize zs.take len = ys at *
      subst r2
      by_cases hk : 0 ≤ k
      · have hb1 := Int.emod_nonneg k (show (ys.length : Int) ≠ 0 by omega)
        have hb2 := Int.emod_lt_of_pos k (show (0 : Int) < ys.length by omega)
        obtain ⟨kk, hkk⟩ : ∃ kk : Nat, k % (ys.length : Int) = kk := ⟨(k % (ys.length : Int)).toNat, by omega⟩
        cases oa : overF (sumL ys) <;> cases oc : (((false || overF (sumL (ys.take kk))) || overF (sumL (ys.drop kk))) || overF (clampF (sumL (ys.take kk)) + clampF (sumL (ys.drop kk))))
        · exact sums_Aff k b' off cap ys w hm ht r1 r3 (by omega) (by omega) hcap kk (by omega) hk hkk oa oc
        · exact sums_Aft k b' off cap ys w hm ht r1 r3 (by omega) (by omega) hcap kk (by omega) hk hkk oa oc
        · exact sums_Atf k b' off cap ys w hm ht r1 r3 (by omega) (by omega) hcap kk (by omega) hk hkk oa oc
        · exact sums_Att k b' off cap ys w hm ht r1 r3 (by omega) (by omega) hcap kk (by omega) hk hkk oa oc
      · have e0 : k.tmod ys.length = -((-k) % (ys.length : Int)) := by
          have := Int.neg_tmod (-k) ys.length
          rw [Int.neg_neg] at this
          rw [this, Int.tmod_eq_emod_of_nonneg (by omega)]
        have hb1 := Int.emod_nonneg (-k) (show (ys.length : Int) ≠ 0 by omega)
        have hb2 := Int.emod_lt_of_pos (-k) (show (0 : Int) < ys.length by omega)
        by_cases hz : k.tmod ys.length = 0
        · obtain ⟨kk, hkk⟩ : ∃ kk : Nat, k.tmod ys.length = kk := ⟨0, by rw [hz]; rfl⟩
          cases oa : overF (sumL ys) <;> cases oc : (((false || overF (sumL (ys.take kk))) || overF (sumL (ys.drop kk))) || overF (clampF (sumL (ys.take kk)) + clampF (sumL (ys.drop kk))))
          · exact sums_Cff k b' off cap ys w hm ht r1 r3 (by omega) (by omega) hcap kk (by omega) (by omega) hkk oa oc
          · exact sums_Cft k b' off cap ys w hm ht r1 r3 (by omega) (by omega) hcap kk (by omega) (by omega) hkk oa oc
          · exact sums_Ctf k b' off cap ys w hm ht r1 r3 (by omega) (by omega) hcap kk (by omega) (by omega) hkk oa oc
          · exact sums_Ctt k b' off cap ys w hm ht r1 r3 (by omega) (by omega) hcap kk (by omega) (by omega) hkk oa oc
        · obtain ⟨kk, hkk⟩ : ∃ kk : Nat, k.tmod ys.length + ys.length = kk := ⟨(k.tmod ys.length + ys.length).toNat, by omega⟩
          cases oa : overF (sumL ys) <;> cases oc : (((false || overF (sumL (ys.take kk))) || overF (sumL (ys.drop kk))) || overF (clampF (sumL (ys.take kk)) + clampF (sumL (ys.drop kk))))
          · exact sums_Bff k b' off cap ys w hm ht r1 r3 (by omega) (by omega) hcap kk (by omega) (by omega) hkk oa oc
          · exact sums_Bft k b' off cap ys w hm ht r1 r3 (by omega) (by omega) hcap kk (by omega) (by omega) hkk oa oc
          · exact sums_Btf k b' off cap ys w hm ht r1 r3 (by omega) (by omega) hcap kk (by omega) (by omega) hkk oa oc
          · exact sums_Btt k b' off cap ys w hm ht r1 r3 (by omega) (by omega) hcap kk (by omega) (by omega) hkk oa oc
    rw [r2] at key; exact key
end Go.Proofs.YtapdnahjcadpeaaDoor
