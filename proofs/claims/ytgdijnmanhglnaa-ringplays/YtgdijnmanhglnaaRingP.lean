/- The contracts of ring's Len, Size, New, Push, Ago, Clear. Conditions: a ring of 1 to 2000 cells. -/
import Derived.Test.YtgdijnmanhglnaaRingW
namespace Go.Proofs.Ytgdijnmanhglnaa
open Go.RowKit
set_option linter.unusedVariables false
set_option maxRecDepth 100000

theorem size_any {W : World} {b g n : Nat} {xs : List Int} (h : RingIs W b g n xs) :
    Calls Try.prog 24 #[.pointer (some ⟨b, 0, none⟩)] W fun e w' => e = .returned (.int .i64 n) ∧ w' = W := by
  obtain ⟨last, cs, h⟩ := h
  have hc := h.c0
  clear h
  go_enter Try.func24, Try.ntmps24
  go_wp2
  go_ret
  exact ⟨rfl, rfl⟩
theorem len_any {W : World} {b g n : Nat} {xs : List Int} (h : RingIs W b g n xs) :
    Calls Try.prog 23 #[.pointer (some ⟨b, 0, none⟩)] W fun e w' => e = .returned (.int .i64 xs.length) ∧ w' = W := by
  obtain ⟨last, cs, h⟩ := h
  have hc := h.c2
  clear h
  go_enter Try.func23, Try.ntmps23
  go_wp2
  go_ret
  exact ⟨rfl, rfl⟩
theorem size_nil (W : World) : Calls Try.prog 24 #[.pointer none] W fun e w' => e = .returned (.int .i64 0) ∧ w' = W := by
  go_enter Try.func24, Try.ntmps24
  go_wp2
  go_ret
  exact ⟨rfl, rfl⟩
theorem len_nil (W : World) : Calls Try.prog 23 #[.pointer none] W fun e w' => e = .returned (.int .i64 0) ∧ w' = W := by
  go_enter Try.func23, Try.ntmps23
  go_wp2
  go_ret
  exact ⟨rfl, rfl⟩

set_option maxHeartbeats 4000000 in
theorem push_any {W : World} {b g n : Nat} {xs : List Int} (h : RingIs W b g n xs) (hn : n ≤ 2000) (a : Option Addr) (zs : List Int) (cap : Nat) (hz : IntRow W a zs) (ho : 0 < zs.length → Off a [b, g]) (hl : zs.length ≤ 9223372036854775806) :
    Calls Try.prog 12 #[.pointer (some ⟨b, 0, none⟩), .slice a zs.length cap] W fun e w' => e = .returned (.tuple #[]) ∧ RingIs w' b g n (pushL n xs zs) ∧ Mod [b, g] W w' := by
  have HR : Hid (RingIs W b g n xs) := h
  have HZ : Hid (IntRow W a zs) := hz
  have HO : Hid (0 < zs.length → Off a [b, g]) := ho
  have HL : Hid (xs.length ≤ n) := h.len
  have hn1 : 0 < n := by obtain ⟨last, cs, h⟩ := h; have := h.rel.2.1; omega
  have hn0 : ((n : Int) == 0) = false := by rw [beq_eq_false_iff_ne]; omega
  clear h hz ho
  go_enter Try.func12, Try.ntmps12
  go_wp2_with fail
  refine Calls.mono (size_any HR.out) ?_
  rintro e w' ⟨rfl, hw⟩
  have hw' := hw.symm; subst hw'; clear hw
  go_wp2
  go_loopw [11] (fun i wr => ∃ k : Nat, k ≤ zs.length ∧ i = .int .i64 k ∧ RingIs wr b g n (pushL n xs (zs.take k)) ∧ Mod [b, g] W wr) (fun i _ => zs.length - (intOf i).toNat)
  case atStart => exact ⟨0, Nat.zero_le _, rfl, by rw [List.take_zero, pushL_nil _ _ HL.out]; exact HR.out, Mod.refl _ _⟩
  case round =>
    obtain ⟨k, hk, rfl, hring, hmod⟩ := hrel
    have HRr : Hid (RingIs wr b g n (pushL n xs (zs.take k))) := hring
    have HM : Hid (Mod [b, g] W wr) := hmod
    clear hring hmod
    by_cases hlt : k < zs.length
    · obtain ⟨b', off, rfl, hc⟩ := (HZ.out.mod HM.out (HO.out (by omega))) k hlt
      obtain ⟨last, cs, R⟩ := HRr.out
      have HRA : Hid (RingAt wr b g n last cs (pushL n xs (zs.take k))) := R
      have r0 := R.c0
      have r1 := R.c1
      have r2 := R.c2
      have f1 := R.f 1
      have f2 := R.f 2
      have hne := R.ne
      have hne' : b ≠ g := fun e => hne e.symm
      have hlast := R.rel.2.1
      have hm := nextR_mod n last hlast
      have hmn := nextR_lt hlast
      have rm := R.row _ hmn
      have fm := R.fg (nextR n last)
      clear R
      have HT : Hid (pushL n xs (zs.take (k + 1)) = (zs.getD k 0 :: pushL n xs (zs.take k)).take n) := pushL_snoc n xs zs k hlt
      have HLE : (pushL n xs (zs.take k)).length ≤ n := HRr.out.len
      generalize pushL n xs (zs.take k) = ys at *
      generalize zs.getD k 0 = x at *
      go_wp2
      go_region
      go_wp2
      go_region
      go_wp2
      go_region
      go_wp2
      go_roundw
      case rel => exact ⟨k + 1, by omega, by go_num, by rw [HT.out]; exact (HRA.out.pushed x _ (by first | omega | (simp; omega) | (split <;> omega))).drew.drew.drew, (((HM.out.setCell _ _ _ (by simp)).setCell _ _ _ (by simp)).setCell _ _ _ (by simp)).drew.drew.drew⟩
      case measure => simp [intOf]; omega
    · have HE : Hid (RingIs wr b g n (pushL n xs zs)) := by have := HRr.out; rw [List.take_of_length_le (by omega)] at this; exact this
      clear HRr
      go_wp2
      first | go_end0 | refine bodyPost_ret (results_none rfl _ _ _) rfl ?_
      exact ⟨rfl, HE.out, HM.out⟩

set_option maxHeartbeats 2000000 in
theorem ago_in {W : World} {b g n : Nat} {xs : List Int} (h : RingIs W b g n xs) (hn : n ≤ 2000) (i : Nat) (hi : i < xs.length) :
    Calls Try.prog 15 #[.pointer (some ⟨b, 0, none⟩), .int .i64 i] W fun e w' => e = .returned (.tuple #[.int .i64 (xs.getD i 0), .int .i64 0]) ∧ w' = W := by
  have HR : Hid (RingIs W b g n xs) := h
  obtain ⟨last, cs, R⟩ := h
  have r0 := R.c0
  have r1 := R.c1
  have hlast := R.rel.2.1
  have hle := R.rel.2.2.1
  have hx := R.rel.2.2.2 i hi
  have hr := R.row _ (ixR_lt (i := i) hlast (by omega))
  rw [hx] at hr
  clear R hx
  generalize xs.getD i 0 = x at *
  generalize hq : xs.length = q at *
  have HQ : Hid (xs.length = q) := hq
  clear hq
  by_cases hc : i ≤ last
  · rw [show ixR n last i = last - i by unfold ixR; rw [if_pos hc]] at hr
    go_enter Try.func15, Try.ntmps15
    go_wp2_with (go_at_call 23; refine (len_any HR.out).mono ?_; rw [HQ.out]; rintro e w' ⟨rfl, hw⟩; have hw' := hw.symm; subst hw'; clear hw)
    go_ret2
    exact ⟨rfl, rfl⟩
  · rw [show ixR n last i = last + n - i by unfold ixR; rw [if_neg hc]] at hr
    have hr2 : W.cell? ⟨g, ((last : Int) - i + n).toNat, none⟩ = some (.int .i64 x) := by rw [show ((last : Int) - i + n).toNat = last + n - i by omega]; exact hr
    clear hr
    go_enter Try.func15, Try.ntmps15
    go_wp2_with (go_at_call 23; refine (len_any HR.out).mono ?_; rw [HQ.out]; rintro e w' ⟨rfl, hw⟩; have hw' := hw.symm; subst hw'; clear hw)
    go_ret2
    exact ⟨rfl, rfl⟩
set_option maxHeartbeats 2000000 in
theorem ago_out {W : World} {b g n : Nat} {xs : List Int} (h : RingIs W b g n xs) (i : Int) (hi : i < 0 ∨ (xs.length : Int) ≤ i) :
    Calls Try.prog 15 #[.pointer (some ⟨b, 0, none⟩), .int .i64 i] W fun e w' => e = .returned (.tuple #[.int .i64 0, .int .i64 3]) ∧ w' = W := by
  have HR : Hid (RingIs W b g n xs) := h
  clear h
  by_cases h0 : i < 0
  · go_enter Try.func15, Try.ntmps15
    go_wp2_with (go_at_call 23; refine (len_any HR.out).mono ?_; rintro e w' ⟨rfl, hw⟩; have hw' := hw.symm; subst hw'; clear hw)
    go_ret2
    exact ⟨rfl, rfl⟩
  · have h1 : (xs.length : Int) ≤ i := by omega
    clear hi
    go_enter Try.func15, Try.ntmps15
    go_wp2_with (go_at_call 23; refine (len_any HR.out).mono ?_; rintro e w' ⟨rfl, hw⟩; have hw' := hw.symm; subst hw'; clear hw)
    go_ret2
    exact ⟨rfl, rfl⟩
theorem ago_nil (W : World) (i : Int) : Calls Try.prog 15 #[.pointer none, .int .i64 i] W fun e w' => e = .returned (.tuple #[.int .i64 0, .int .i64 3]) ∧ w' = W := by
  by_cases h0 : i < 0
  · go_enter Try.func15, Try.ntmps15
    go_wp2_with (go_at_call 23; refine (len_nil _).mono ?_; rintro e w' ⟨rfl, hw⟩; have hw' := hw.symm; subst hw'; clear hw)
    go_ret2
    exact ⟨rfl, rfl⟩
  · have h1 : 0 ≤ i := by omega
    clear h0
    go_enter Try.func15, Try.ntmps15
    go_wp2_with (go_at_call 23; refine (len_nil _).mono ?_; rintro e w' ⟨rfl, hw⟩; have hw' := hw.symm; subst hw'; clear hw)
    go_ret2
    exact ⟨rfl, rfl⟩
/-- What Ago tells, whatever is asked. -/
def agoV (xs : List Int) (i : Int) : Int := if 0 ≤ i ∧ i < xs.length then xs.getD i.toNat 0 else 0
def agoE (xs : List Int) (i : Int) : Int := if 0 ≤ i ∧ i < xs.length then 0 else 3
theorem ago_any {W : World} {b g n : Nat} {xs : List Int} (h : RingIs W b g n xs) (hn : n ≤ 2000) (i : Int) :
    Calls Try.prog 15 #[.pointer (some ⟨b, 0, none⟩), .int .i64 i] W fun e w' => e = .returned (.tuple #[.int .i64 (agoV xs i), .int .i64 (agoE xs i)]) ∧ w' = W := by
  unfold agoV agoE
  by_cases hi : 0 ≤ i ∧ i < xs.length
  · rw [if_pos hi, if_pos hi]
    have := ago_in h hn i.toNat (by omega)
    rw [show ((i.toNat : Nat) : Int) = i by omega] at this
    exact this
  · rw [if_neg hi, if_neg hi]
    exact ago_out h i (by omega)
theorem clear_nil (W : World) : Calls Try.prog 17 #[.pointer none] W fun e w' => e = .returned (.tuple #[]) ∧ w' = W := by
  go_enter Try.func17, Try.ntmps17
  go_wp2
  first | go_end0 | refine bodyPost_ret (results_none rfl _ _ _) rfl ?_
  exact ⟨rfl, rfl⟩
theorem RingAt.cleared {W : World} {b g n last : Nat} {cs xs : List Int} (h : RingAt W b g n last cs xs) : RingIs (W.setCell ⟨b, 2, none⟩ (.int .i64 0)) b g n [] := by
  have hf := h.f
  have hg := h.fg
  refine ⟨last, cs, ?_, ?_, World.cell?_setCell_same _ _ _ h.c2, fun i => by simp [hf], fun i hi => ?_, fun i => by simp [hg], h.ne, ringRel_nil (by have := h.rel.2.1; omega) _ h.rel.2.1 _ h.rel.1⟩
  · rw [cell_oo _ _ _ _ _ _ (by omega)]; exact h.c0
  · rw [cell_oo _ _ _ _ _ _ (by omega)]; exact h.c1
  · rw [cell_ob _ _ _ _ _ _ h.ne]; exact h.row i hi
theorem clear_any {W : World} {b g n : Nat} {xs : List Int} (h : RingIs W b g n xs) :
    Calls Try.prog 17 #[.pointer (some ⟨b, 0, none⟩)] W fun e w' => e = .returned (.tuple #[]) ∧ RingIs w' b g n [] ∧ Mod [b, g] W w' := by
  obtain ⟨last, cs, R⟩ := h
  have HR : Hid (RingAt W b g n last cs xs) := R
  have r2 := R.c2
  have f2 := R.f 2
  clear R
  go_enter Try.func17, Try.ntmps17
  go_wp2
  first | go_end0 | refine bodyPost_ret (results_none rfl _ _ _) rfl ?_
  exact ⟨rfl, HR.out.cleared, (Mod.refl _ _).setCell _ _ _ (by simp)⟩
theorem new_bad (n : Int) (W : World) (h : n < 1 ∨ 2000 < n) : Calls Try.prog 10 #[.int .i64 n] W fun e w' => e = .returned (.tuple #[.pointer none, .int .i64 1]) ∧ w' = W := by
  by_cases h1 : n < 1
  · go_enter Try.func10, Try.ntmps10
    go_wp2
    go_ret2
    exact ⟨rfl, rfl⟩
  · have h2 : 2000 < n := by omega
    clear h
    go_enter Try.func10, Try.ntmps10
    go_wp2
    go_ret2
    exact ⟨rfl, rfl⟩
theorem new_ok (n : Nat) (W : World) (h1 : 1 ≤ n) (h2 : n ≤ 2000) : Calls Try.prog 10 #[.int .i64 n] W fun e w' => ∃ b g, e = .returned (.tuple #[.pointer (some ⟨b, 0, none⟩), .int .i64 0]) ∧ W.heap.size ≤ b ∧ W.heap.size ≤ g ∧ RingIs w' b g n [] ∧ Below W.heap.size W w' := by
  have hmk := fun (w : World) => run_make_row' (P := Try.prog) 32 3 (.int .i64 0) 8 Try.underlying32 (by kernel_rfl) rfl .i64 .i64 n (by omega) (by omega) w
  go_enter Try.func10, Try.ntmps10
  go_wp2
  go_ret2
  exact ⟨_, _, rfl, by omega, Nat.le_refl _, ring_made W n (by omega), ((Below.refl _ _).alloc (Nat.le_refl _) _).alloc (by simp) _⟩
end Go.Proofs.Ytgdijnmanhglnaa
