/- Wire's fault; slices.Equal of numbers; wire's Same. Conditions: lengths and numbers of 64 bits. -/
import Derived.Test.YtglkoedmonenoaaWrH
namespace Go.Proofs.Ytglkoedmonenoaa
open Go.RowKit
set_option linter.unusedVariables false
set_option maxRecDepth 100000

theorem size_text (d : List UInt8) : (⟨d.toArray⟩ : ByteArray).size = d.length := by show d.toArray.size = _; simp
set_option maxHeartbeats 1000000 in
theorem fault_any (f : FrV) (a : Option Addr) (cap : Nat) (w : World) :
    Calls Try.prog 14 #[frOf f (.slice a f.zs.length cap)] w fun e w' => e = .returned (.int .i64 f.err) ∧ Below w.heap.size w w' := by
  unfold frOf
  have HK : Hid (∀ X, Calls Try.prog 20 #[.int .i64 f.k, .int .i64 9] X fun e w' => e = .returned (.bool (decide (0 ≤ f.k) && decide (f.k ≤ 9))) ∧ w' = X) := fun X => within_any f.k 9 X
  have HF : Hid (∀ X, Calls Try.prog 20 #[.int .i64 f.fr, .int .i64 255] X fun e w' => e = .returned (.bool (decide (0 ≤ f.fr) && decide (f.fr ≤ 255))) ∧ w' = X) := fun X => within_any f.fr 255 X
  have HT : Hid (∀ X, Calls Try.prog 20 #[.int .i64 f.t, .int .i64 140737488355327] X fun e w' => e = .returned (.bool (decide (0 ≤ f.t) && decide (f.t ≤ 140737488355327))) ∧ w' = X) := fun X => within_any f.t 140737488355327 X
  have HE : Hid (f.err = if ((decide (0 ≤ f.k) && decide (f.k ≤ 9)) && (decide (0 ≤ f.fr) && decide (f.fr ≤ 255)) && (decide (0 ≤ f.t) && decide (f.t ≤ 140737488355327))) = true then (if (decide (f.zs.length ≤ 100) && decide (f.d.length ≤ 60000)) = true then 0 else 2) else 1) := rfl
  have hsz := size_text f.d
  generalize (⟨f.d.toArray⟩ : ByteArray) = s at *
  generalize f.err = E at *
  generalize (decide (0 ≤ f.k) && decide (f.k ≤ 9)) = bk at *
  generalize (decide (0 ≤ f.fr) && decide (f.fr ≤ 255)) = bf at *
  generalize (decide (0 ≤ f.t) && decide (f.t ≤ 140737488355327)) = bt at *
  generalize f.k = k at *
  generalize f.fr = fr at *
  generalize f.t = t at *
  rw [← hsz] at HE
  clear hsz
  generalize f.zs.length = n at *
  have hB : Below w.heap.size w (w.alloc (.cells #[.int .i64 k, .int .i64 fr, .int .i64 t, .slice a n cap, .string s] 26)) := (Below.refl _ w).alloc (Nat.le_refl _) _
  have HB : Hid (Below w.heap.size w (w.alloc (.cells #[.int .i64 k, .int .i64 fr, .int .i64 t, .slice a n cap, .string s] 26))) := hB
  clear hB
  cases bk with
  | false =>
    have HE : Hid (E = 1) := by rw [HE.out]; rfl
    go_enter Try.func14, Try.ntmps14
    go_wp2_with fail
    refine Calls.mono (HK.out _) ?_
    rintro e w' ⟨rfl, hw⟩; have hw' := hw.symm; subst hw'; clear hw
    go_wp2
    go_ret
    exact ⟨by rw [HE.out]; rfl, HB.out⟩
  | true =>
  cases bf with
  | false =>
    have HE : Hid (E = 1) := by rw [HE.out]; rfl
    go_enter Try.func14, Try.ntmps14
    go_wp2_with fail
    refine Calls.mono (HK.out _) ?_
    rintro e w' ⟨rfl, hw⟩; have hw' := hw.symm; subst hw'; clear hw
    go_wp2_with fail
    refine Calls.mono (HF.out _) ?_
    rintro e w' ⟨rfl, hw⟩; have hw' := hw.symm; subst hw'; clear hw
    go_wp2
    go_ret
    exact ⟨by rw [HE.out]; rfl, HB.out⟩
  | true =>
  cases bt with
  | false =>
    have HE : Hid (E = 1) := by rw [HE.out]; rfl
    go_enter Try.func14, Try.ntmps14
    go_wp2_with fail
    refine Calls.mono (HK.out _) ?_
    rintro e w' ⟨rfl, hw⟩; have hw' := hw.symm; subst hw'; clear hw
    go_wp2_with fail
    refine Calls.mono (HF.out _) ?_
    rintro e w' ⟨rfl, hw⟩; have hw' := hw.symm; subst hw'; clear hw
    go_wp2_with fail
    refine Calls.mono (HT.out _) ?_
    rintro e w' ⟨rfl, hw⟩; have hw' := hw.symm; subst hw'; clear hw
    go_wp2
    go_ret
    exact ⟨by rw [HE.out]; rfl, HB.out⟩
  | true =>
  have HE : Hid (E = if (decide (n ≤ 100) && decide (s.size ≤ 60000)) = true then 0 else 2) := by rw [HE.out]; rfl
  by_cases c1 : n ≤ 100
  · have c1' : decide ((100 : Int) < (n : Int)) = false := by simp; omega
    by_cases c2 : s.size ≤ 60000
    · have c2' : decide ((60000 : Int) < (s.size : Int)) = false := by simp; omega
      have HE : Hid (E = 0) := by rw [HE.out]; simp [Hid, c1, c2]
      go_enter Try.func14, Try.ntmps14
      go_wp2_with fail
      refine Calls.mono (HK.out _) ?_
      rintro e w' ⟨rfl, hw⟩; have hw' := hw.symm; subst hw'; clear hw
      go_wp2_with fail
      refine Calls.mono (HF.out _) ?_
      rintro e w' ⟨rfl, hw⟩; have hw' := hw.symm; subst hw'; clear hw
      go_wp2_with fail
      refine Calls.mono (HT.out _) ?_
      rintro e w' ⟨rfl, hw⟩; have hw' := hw.symm; subst hw'; clear hw
      go_wp2
      go_ret
      exact ⟨by rw [HE.out]; rfl, HB.out⟩
    · have c2' : decide ((60000 : Int) < (s.size : Int)) = true := by simp; omega
      have HE : Hid (E = 2) := by rw [HE.out]; simp [Hid, c1, c2]
      go_enter Try.func14, Try.ntmps14
      go_wp2_with fail
      refine Calls.mono (HK.out _) ?_
      rintro e w' ⟨rfl, hw⟩; have hw' := hw.symm; subst hw'; clear hw
      go_wp2_with fail
      refine Calls.mono (HF.out _) ?_
      rintro e w' ⟨rfl, hw⟩; have hw' := hw.symm; subst hw'; clear hw
      go_wp2_with fail
      refine Calls.mono (HT.out _) ?_
      rintro e w' ⟨rfl, hw⟩; have hw' := hw.symm; subst hw'; clear hw
      go_wp2
      go_ret
      exact ⟨by rw [HE.out]; rfl, HB.out⟩
  · have c1' : decide ((100 : Int) < (n : Int)) = true := by simp; omega
    have HE : Hid (E = 2) := by rw [HE.out]; simp [Hid, c1]
    go_enter Try.func14, Try.ntmps14
    go_wp2_with fail
    refine Calls.mono (HK.out _) ?_
    rintro e w' ⟨rfl, hw⟩; have hw' := hw.symm; subst hw'; clear hw
    go_wp2_with fail
    refine Calls.mono (HF.out _) ?_
    rintro e w' ⟨rfl, hw⟩; have hw' := hw.symm; subst hw'; clear hw
    go_wp2_with fail
    refine Calls.mono (HT.out _) ?_
    rintro e w' ⟨rfl, hw⟩; have hw' := hw.symm; subst hw'; clear hw
    go_wp2
    go_ret
    exact ⟨by rw [HE.out]; rfl, HB.out⟩

theorem IntRow.at0 {w : World} {a : Option Addr} {zs : List Int} (h : IntRow w a zs) (h0 : 0 < zs.length) : ∃ b off, a = some ⟨b, off, none⟩ ∧ ∀ i, i < zs.length → w.cell? ⟨b, off + i, none⟩ = some (.int .i64 (zs.getD i 0)) := by
  obtain ⟨b, off, rfl, _⟩ := h 0 h0
  refine ⟨b, off, rfl, fun i hi => ?_⟩
  obtain ⟨b', off', e, hc⟩ := h i hi
  cases e; exact hc
theorem IntRow.grow {w w' : World} {a : Option Addr} {zs : List Int} (h : IntRow w a zs) (k : Below w.heap.size w w') : IntRow w' a zs := by
  intro i hi
  obtain ⟨b, off, rfl, hc⟩ := h i hi
  exact ⟨b, off, rfl, (Mod.of_below (S := []) k).cell hc (by simp)⟩
theorem take_succ_eq {xs zs : List Int} {i : Nat} (h : i < xs.length) (h' : i < zs.length) (he : xs.take i = zs.take i) (hx : xs.getD i 0 = zs.getD i 0) : xs.take (i + 1) = zs.take (i + 1) := by
  rw [List.take_add_one, List.take_add_one, he]
  rw [List.getD_eq_getElem?_getD, List.getD_eq_getElem?_getD, List.getElem?_eq_getElem h, List.getElem?_eq_getElem h'] at hx
  rw [List.getElem?_eq_getElem h, List.getElem?_eq_getElem h']
  simp only [Option.getD_some] at hx
  rw [hx]
set_option maxHeartbeats 1000000 in
theorem equals_any {w : World} {a a2 : Option Addr} {cap cap2 : Nat} {xs zs : List Int} (hx : IntRow w a xs) (hz : IntRow w a2 zs) (l1 : xs.length ≤ 9223372036854775807) (l2 : zs.length ≤ 9223372036854775807) :
    Calls Try.prog 17 #[.slice a xs.length cap, .slice a2 zs.length cap2] w fun e w' => e = .returned (.bool (xs == zs)) ∧ Below w.heap.size w w' := by
  by_cases c : xs.length = zs.length
  case neg =>
    have HE : Hid ((xs == zs) = false) := by
      show _ = _
      rw [beq_eq_false_iff_ne]; intro e; exact c (congrArg _ e)
    have c' : ((xs.length : Int) != (zs.length : Int)) = true := by simp; omega
    clear hx hz
    generalize xs.length = n at *
    generalize zs.length = m at *
    go_enter Try.func17, Try.ntmps17
    go_wp2
    go_ret
    exact ⟨by rw [HE.out]; rfl, Below.refl _ _⟩
  have HX : Hid (∀ X, Below w.heap.size w X → IntRow X a xs ∧ IntRow X a2 zs) := fun X h => ⟨hx.grow h, hz.grow h⟩
  have HC : Hid (xs.length = zs.length) := c
  rw [← c]
  have hn : xs.length ≤ 9223372036854775807 := l1
  clear hx hz c l2 l1
  obtain ⟨n, hn'⟩ : ∃ n, xs.length = n := ⟨_, rfl⟩
  have HL : Hid (xs.length = n ∧ zs.length = n) := ⟨hn', by rw [← HC.out]; exact hn'⟩
  rw [hn'] at hn
  rw [hn']
  clear HC hn'
  have c' : ((n : Int) != (n : Int)) = false := by simp
  go_enter Try.func17, Try.ntmps17
  go_wp2
  go_loopw [13] (fun iv wr => ∃ i : Nat, i ≤ n ∧ iv = .int .i64 i ∧ xs.take i = zs.take i ∧ Below w.heap.size w wr) (fun iv _ => n - (intOf iv).toNat)
  case atStart => exact ⟨0, Nat.zero_le _, rfl, rfl, Below.refl _ _⟩
  case round =>
    obtain ⟨i, hi, rfl, he, hB⟩ := hrel
    have HE : Hid (xs.take i = zs.take i ∧ Below w.heap.size w wr) := ⟨he, hB⟩
    clear he hB
    by_cases hlt : i < n
    · obtain ⟨q1, q2⟩ := HX.out wr HE.out.2
      have HL1 := HL.out
      obtain ⟨b1, o1, rfl, hc1⟩ := q1.at0 (by omega)
      obtain ⟨b2, o2, rfl, hc2⟩ := q2.at0 (by omega)
      have k1 := hc1 i (by omega)
      have k2 := hc2 i (by omega)
      clear hc1 hc2 q1 q2
      have HS : Hid (xs.getD i 0 = zs.getD i 0 → xs.take (i + 1) = zs.take (i + 1)) := fun h => take_succ_eq (by omega) (by omega) HE.out.1 h
      have HN : Hid (xs.getD i 0 ≠ zs.getD i 0 → (xs == zs) = false) := fun h => by
        show _ = _
        rw [beq_eq_false_iff_ne]; intro e; exact h (by rw [e])
      clear HL1
      generalize xs.getD i 0 = x at *
      generalize zs.getD i 0 = z at *
      by_cases hxz : x = z
      · have hxz' : (x != z) = false := by simp [hxz]
        have HT : Hid (xs.take (i + 1) = zs.take (i + 1)) := HS.out hxz
        clear hxz
        go_wp2
        go_region
        all_goals
          go_wp2
          go_roundw
          case rel => exact ⟨i + 1, by omega, by go_num, HT.out, HE.out.2.drew⟩
          case measure => simp [intOf]; omega
      · have hxz' : (x != z) = true := by simp [hxz]
        have HT : Hid ((xs == zs) = false) := HN.out hxz
        clear hxz
        go_wp2
        go_region
        all_goals
          go_wp2
          go_ret
          exact ⟨by rw [HT.out]; rfl, HE.out.2.drew⟩
    · have HT : Hid ((xs == zs) = true) := by
        have h := HE.out.1
        rw [List.take_of_length_le (by rw [HL.out.1]; omega), List.take_of_length_le (by rw [HL.out.2]; omega)] at h
        show _ = _
        rw [h]; simp
      go_wp2
      go_ret
      exact ⟨by rw [HT.out]; rfl, HE.out.2⟩
end Go.Proofs.Ytglkoedmonenoaa
