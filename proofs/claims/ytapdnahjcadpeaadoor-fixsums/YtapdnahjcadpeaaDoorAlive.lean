/- The law's own first call: 'alive' tells true, and turns nothing that was there. Conditions: the library's variable MaxLen holds some int, its table of powers of ten what its text lays. -/
import Derived.Test.YtapdnahjcadpeaaDoorText
import Derived.Test.YtapdnahjcadpeaaDoorMul
import Derived.Test.YtapdnahjcadpeaaDoorAdd
import Derived.Deep.RegionWith
import Derived.ChangeAlike
namespace Go.Proofs.YtapdnahjcadpeaaDoor
open Go.RowKit
set_option linter.unusedVariables false
set_option maxRecDepth 100000

theorem calls_exact {p : Option Addr} {v : Int} {W : World} {e : Ending} {w' : World} (h : AccIs W p false) (h1 : -9223372036854775808 ≤ v) (h2 : v ≤ 9223372036854775807) (ht : Tells W p false v e w') : e = .returned (.int .i64 v) ∧ w' = W := by
  refine ⟨by rw [ht.1, clampF_in h1 h2], ?_⟩
  rw [ht.2, overF_in h1 h2, Bool.or_false, accSet_self h]
theorem alive_add (W : World) (b g : Nat) (h : W.cell? ⟨b, 0, none⟩ = some (.bool false)) (hf : W.frozen? ⟨b, 0, none⟩ = false)
    (h0 : W.cell? ⟨g, 0, none⟩ = some (.int .i64 9223372036854775807)) (h1 : W.cell? ⟨g, 1, none⟩ = some (.int .i64 1)) (h2 : W.cell? ⟨g, 2, none⟩ = some (.int .i64 (-1))) :
    Calls Tryd.prog 8 #[.pointer (some ⟨b, 0, none⟩), .slice (some ⟨g, 0, none⟩) 3 3] W fun e w' => e = .returned (.int .i64 9223372036854775807) ∧ w' = W := by
  have ha := accIs_some h hf
  refine Calls.mono (add_any (some ⟨b, 0, none⟩) false (some ⟨g, 0, none⟩) [9223372036854775807, 1, -1] 3 W ha ?_ ?_ (by simp)) fun e w' ht => ?_
  · intro i hi
    refine ⟨g, 0, rfl, ?_⟩
    match i, hi with
    | 0, _ => simpa using h0
    | 1, _ => simpa using h1
    | 2, _ => simpa using h2
  · intro x hx; simp at hx; omega
  · rw [show sumL [9223372036854775807, 1, -1] = 9223372036854775807 by decide] at ht
    exact calls_exact ha (by omega) (by omega) ht
theorem alive_mul (W : World) (b : Nat) (h : W.cell? ⟨b, 0, none⟩ = some (.bool false)) (hf : W.frozen? ⟨b, 0, none⟩ = false) :
    Calls Tryd.prog 12 #[.pointer (some ⟨b, 0, none⟩), .int .i64 2147483648, .int .i64 3, .bool true] W fun e w' => e = .returned (.int .i64 2) ∧ w' = W := by
  have ha := accIs_some h hf
  refine Calls.mono (mul_any (some ⟨b, 0, none⟩) false true 2147483648 3 W ha (by omega) (by omega) (by omega) (by omega)) fun e w' ht => ?_
  rw [show mulF 2147483648 3 true = 2 by decide] at ht
  exact calls_exact ha (by omega) (by omega) ht
theorem parse_15 : parseL [49, 46, 53] = (6442450944, 0) := by decide +kernel
theorem text_15 : textL 6442450944 = [49, 46, 53] := by decide +kernel
theorem crc_123 : crcL [49, 50, 51, 52, 53, 54, 55, 56, 57] = 873187033 := by decide +kernel

theorem MaxLenIs.stays {w w' : World} {B : Nat} (h : MaxLenIs w) (hb : Below B w w') (hB : w.heap.size ≤ B) : MaxLenIs w' := by
  obtain ⟨m, hm⟩ := h
  refine ⟨m, ?_⟩
  rw [hb.cell (p := ⟨2, 0, none⟩) ?_]; exact hm
  have : 2 < w.heap.size := by
    rcases Nat.lt_or_ge 2 w.heap.size with h | h
    · exact h
    · simp [World.cell?, Array.getElem?_eq_none h] at hm
  show 2 < B
  omega

set_option maxHeartbeats 1000000 in
theorem alive_any (w : World) (hm : MaxLenIs w) (ht : PowsAre w) :
    Calls Tryd.prog 7 #[] w fun e w' => e = .returned (.bool true) ∧ Below w.heap.size w w' := by
  have HM : Hid (MaxLenIs w) := hm
  have HP : Hid (PowsAre w) := ht
  clear hm ht
  go_enter Tryd.func7, Tryd.ntmps7
  go_wp2
  go_region_with (go_at_call 8; refine (alive_add _ _ _ (by simp) (by simp) (by simp) (by simp) (by simp)).mono ?_; rintro e w' ⟨rfl, hw⟩; have hw' := hw.symm; subst hw'; clear hw)
  all_goals
    go_wp2_with (go_at_call 12; refine (alive_mul _ _ (by simp) (by simp)).mono ?_; rintro e w' ⟨rfl, hw⟩; have hw' := hw.symm; subst hw'; clear hw)
    have HB : Hid (Below w.heap.size w (((w.alloc (.cells #[.bool false] 26)).alloc (.cells #[.int .i64 9223372036854775807, .int .i64 1, .int .i64 (-1)] 3)).drew)) := (((Below.refl _ w).alloc (Nat.le_refl _) _).alloc (by simp) _).drew
    refine Calls.mono (parse_any ⟨#[49, 46, 53]⟩ _ (by decide) (HM.out.stays HB.out (Nat.le_refl _))) ?_
    rintro e w1 ⟨he, hb⟩
    rw [show (⟨#[49, 46, 53]⟩ : ByteArray).data.toList = [49, 46, 53] from rfl, parse_15, pairV_mk] at he
    subst he
    have HB1 : Hid (Below w.heap.size w w1) := HB.out.trans (hb.mono HB.out.size)
    clear HB hb
    go_wp2_with fail
    refine Calls.mono (text_any 6442450944 _ (by omega) (by omega) (HP.out.stays HB1.out)) ?_
    rintro e w2 ⟨he, hb⟩
    rw [text_15] at he
    subst he
    have HB2 : Hid (Below w.heap.size w w2) := HB1.out.trans (hb.mono HB1.out.size)
    clear HB1 hb
    go_wp2_with fail
    refine Calls.mono (sum_any ⟨#[49, 50, 51, 52, 53, 54, 55, 56, 57]⟩ _ (by decide)) ?_
    rintro e w3 ⟨he, hw⟩
    rw [show (⟨#[49, 50, 51, 52, 53, 54, 55, 56, 57]⟩ : ByteArray).data.toList = [49, 50, 51, 52, 53, 54, 55, 56, 57] from rfl, crc_123] at he
    have hw' := hw.symm
    subst he hw'
    clear hw
    go_wp2
    go_ret
    exact ⟨rfl, HB2.out⟩
end Go.Proofs.YtapdnahjcadpeaaDoor
