/- FixBytes: every number laid, every bytes got and summed: the law's walk. Conditions: the library's own variables as they are laid. -/
import Derived.Test.YtpojkaeclfgfkaaDoorRBytes2
import Derived.Test.YtpojkaeclfgfkaaDoorAlive
namespace Go.Proofs.YtpojkaeclfgfkaaDoor
open Go.RowKit
set_option linter.unusedVariables false
set_option maxRecDepth 100000

/-- What Put and Get answer, both ways. -/
theorem puts (V n : Int) (v1 : -9223372036854775808 ≤ V) (v2 : V ≤ 9223372036854775807) : ∃ S E, (∀ w, Calls Tryd.prog 36 #[.int .i64 V, .int .i64 n] w fun e w' => e = .returned (.tuple #[.string S, .int .i64 E]) ∧ Below w.heap.size w w') ∧
    ∀ w, Calls Tryd.prog 37 #[.int .i64 V, .int .i64 n] w fun e w' => e = .returned (.tuple #[.string S, .int .i64 E]) ∧ Below w.heap.size w w' := by
  by_cases h : n < 1 ∨ 8 < n
  · exact ⟨⟨#[]⟩, 1, fun w => Calls.mono (put_bad V n w h) (fun e w' h => ⟨h.1, by rw [h.2]; exact Below.refl _ w⟩), fun w => Calls.mono (rput_bad V n w h) (fun e w' h => ⟨h.1, by rw [h.2]; exact Below.refl _ w⟩)⟩
  · obtain ⟨m, rfl⟩ : ∃ m : Nat, n = m := ⟨n.toNat, by omega⟩
    refine ⟨rputS V m, rputE V m, fun w => ?_, fun w => rput_any V m w v1 v2 (by omega) (by omega)⟩
    unfold rputS rputE
    cases hb : fitsB V m with
    | false => exact Calls.mono (put_nofit V m w (by omega) (by omega) hb) (fun e w' h => ⟨h.1, by rw [h.2]; exact Below.refl _ w⟩)
    | true => exact put_yes V m w v1 v2 (by omega) (by omega) hb
theorem gets (s : ByteArray) (hs : s.size ≤ maxLen) : ∃ G E, (∀ w, Calls Tryd.prog 38 #[.string s] w fun e w' => e = .returned (.tuple #[.int .i64 G, .int .i64 E]) ∧ Below w.heap.size w w') ∧
    ∀ w, Calls Tryd.prog 39 #[.string s] w fun e w' => e = .returned (.tuple #[.int .i64 G, .int .i64 E]) ∧ w' = w := by
  by_cases h : s.size < 1 ∨ 8 < s.size
  · exact ⟨0, 1, fun w => Calls.mono (get_no s w hs h) (fun e w' h => ⟨h.1, by rw [h.2]; exact Below.refl _ w⟩), fun w => rget_no s w hs h⟩
  · exact ⟨_, 0, fun w => get_yes s w (by omega) (by omega), fun w => rget_yes s w (by omega) (by omega)⟩

set_option maxHeartbeats 600000 in
theorem bytes_many (v n : Int) (b : ByteArray) (w : World) (hm : MaxLenIs w) (ht : PowsAre w) (h2 : b.size ≤ 140737488351232) (h : 20000 < b.size) :
    Calls Tryd.prog 6 #[.int .i64 v, .int .i64 n, .string b] w fun e w' => e = .returned (.bool true) ∧ Below w.heap.size w w' := by
  have HA : Hid (Calls Tryd.prog 9 #[] w fun e w' => e = .returned (.bool true) ∧ Below w.heap.size w w') := alive_any w hm ht
  clear hm ht
  go_enter Tryd.func6, Tryd.ntmps6
  go_wp2_with fail
  refine Calls.mono HA.out ?_
  rintro e w1 ⟨rfl, hbel⟩
  go_wp2
  go_ret
  exact ⟨rfl, hbel⟩
set_option maxHeartbeats 1000000 in
theorem bytes_few (v n : Int) (b : ByteArray) (w : World) (hm : MaxLenIs w) (ht : PowsAre w) (h : b.size ≤ 20000) (v1 : -9223372036854775808 ≤ v) (v2 : v ≤ 9223372036854775807) :
    Calls Tryd.prog 6 #[.int .i64 v, .int .i64 n, .string b] w fun e w' => e = .returned (.bool true) ∧ Below w.heap.size w w' := by
  obtain ⟨S, E, hp1, hp2⟩ := puts v n v1 v2
  obtain ⟨G, F, hg1, hg2⟩ := gets b (by unfold maxLen; omega)
  have HP1 : Hid (∀ w, Calls Tryd.prog 36 #[.int .i64 v, .int .i64 n] w fun e w' => e = .returned (.tuple #[.string S, .int .i64 E]) ∧ Below w.heap.size w w') := hp1
  have HP2 : Hid (∀ w, Calls Tryd.prog 37 #[.int .i64 v, .int .i64 n] w fun e w' => e = .returned (.tuple #[.string S, .int .i64 E]) ∧ Below w.heap.size w w') := hp2
  have HG1 : Hid (∀ w, Calls Tryd.prog 38 #[.string b] w fun e w' => e = .returned (.tuple #[.int .i64 G, .int .i64 F]) ∧ Below w.heap.size w w') := hg1
  have HG2 : Hid (∀ w, Calls Tryd.prog 39 #[.string b] w fun e w' => e = .returned (.tuple #[.int .i64 G, .int .i64 F]) ∧ w' = w) := hg2
  have HS1 : Hid (∀ w, Calls Tryd.prog 40 #[.string b] w fun e w' => e = .returned (.int .i64 (4294967295 - (crcL b.data.toList : Int))) ∧ w' = w) := fun w => sum_any b w (by unfold maxLen; omega)
  have HS2 : Hid (∀ w, Calls Tryd.prog 41 #[.string b] w fun e w' => e = .returned (.int .i64 (4294967295 - (crcL b.data.toList : Int))) ∧ w' = w) := fun w => rsum_any b w (by unfold maxLen; omega)
  have HE : Hid (MaxLenIs w ∧ PowsAre w) := ⟨hm, ht⟩
  clear hp1 hp2 hg1 hg2 hm ht
  generalize 4294967295 - (crcL b.data.toList : Int) = C at *
  go_enter Tryd.func6, Tryd.ntmps6
  go_wp2_with fail
  refine Calls.mono (HP1.out _) ?_
  rintro e w1 ⟨rfl, hb1⟩
  have HB1 : Hid (Below w.heap.size w w1) := hb1
  clear hb1
  go_wp2_with fail
  refine Calls.mono (HP2.out _) ?_
  rintro e w2 ⟨rfl, hb2⟩
  have HB2 : Hid (Below w.heap.size w w2) := HB1.out.trans (hb2.mono HB1.out.size)
  clear hb2 HB1
  go_wp2_with fail
  refine Calls.mono (HG1.out _) ?_
  rintro e w3 ⟨rfl, hb3⟩
  have HB3 : Hid (Below w.heap.size w w3) := HB2.out.trans (hb3.mono HB2.out.size)
  clear hb3 HB2
  go_wp2_with fail
  refine Calls.mono (HG2.out _) ?_
  rintro e w4 ⟨rfl, hw⟩
  have hw' := hw.symm
  subst hw'
  clear hw
  go_wp2_with fail
  refine Calls.mono (alive_any _ (HE.out.1.stays HB3.out (Nat.le_refl _)) (HE.out.2.stays HB3.out)) ?_
  rintro e w5 ⟨rfl, hb5⟩
  have HB5 : Hid (Below w.heap.size w w5) := HB3.out.trans (hb5.mono HB3.out.size)
  clear hb5 HB3
  have hss : (S.toList == S.toList) = true := beq_self_eq_true _
  go_wp2_with fail
  refine Calls.mono (HS1.out _) ?_
  rintro e w6 ⟨rfl, hw⟩
  have hw' := hw.symm
  subst hw'
  clear hw
  go_wp2_with fail
  refine Calls.mono (HS2.out _) ?_
  rintro e w7 ⟨rfl, hw⟩
  have hw' := hw.symm
  subst hw'
  clear hw
  go_wp2
  go_ret
  exact ⟨rfl, HB5.out⟩
theorem bytes_any (v n : Int) (b : ByteArray) (w : World) (hm : MaxLenIs w) (ht : PowsAre w) (v1 : -9223372036854775808 ≤ v) (v2 : v ≤ 9223372036854775807) (n1 : -9223372036854775808 ≤ n) (n2 : n ≤ 9223372036854775807) (h2 : b.size ≤ 140737488351232) :
    Calls Tryd.prog 6 #[.int .i64 v, .int .i64 n, .string b] w fun e w' => e = .returned (.bool true) ∧ Below w.heap.size w w' := by
  by_cases h : 20000 < b.size
  · exact bytes_many v n b w hm ht h2 h
  · exact bytes_few v n b w hm ht (by omega) v1 v2
end Go.Proofs.YtpojkaeclfgfkaaDoor
