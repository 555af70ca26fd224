/- The document's own counter. Conditions: the numbers' own ranges. -/
import Derived.Test.YtgdijnmanhglnaaRingO
namespace Go.Proofs.Ytgdijnmanhglnaa
open Go.RowKit
set_option linter.unusedVariables false
set_option maxRecDepth 100000

/-- The document's counter in memory. -/
structure RefC (W : World) (r : Nat) (most now : Int) : Prop where
  c0 : W.cell? ⟨r, 0, none⟩ = some (.int .i64 now)
  c1 : W.cell? ⟨r, 1, none⟩ = some (.int .i64 most)
  f : ∀ i, W.frozen? ⟨r, i, none⟩ = false
  lo : 0 ≤ now
  hi : now ≤ most
  top : most ≤ 9223372036854775807
theorem RefC.lt {W : World} {r : Nat} {most now : Int} (h : RefC W r most now) : r < W.heap.size := World.block_lt_of_cell? W _ h.c0
theorem RefC.mod {S : List Nat} {W W' : World} {r : Nat} {most now : Int} (h : RefC W r most now) (k : Mod S W W') (hc : r ∉ S) : RefC W' r most now :=
  ⟨k.cell h.c0 hc, k.cell h.c1 hc, fun i => (k.frozen h.lt hc).trans (h.f i), h.lo, h.hi, h.top⟩
theorem RefC.below {W W' : World} {r : Nat} {most now : Int} (h : RefC W r most now) (k : Below W.heap.size W W') : RefC W' r most now := h.mod (S := []) (Mod.of_below k) (by simp)
theorem RefC.drew {W : World} {r : Nat} {most now : Int} (h : RefC W r most now) : RefC W.drew r most now := h.mod (S := []) (Mod.refl _ W).drew (by simp)
theorem RefC.set {W : World} {r : Nat} {most now : Int} (h : RefC W r most now) (v : Int) (h0 : 0 ≤ v) (h1 : v ≤ most) : RefC (W.setCell ⟨r, 0, none⟩ (.int .i64 v)) r most v := by
  have hf := h.f
  exact ⟨World.cell?_setCell_same _ _ _ h.c0, by rw [cell_oo _ _ _ _ _ _ (by omega)]; exact h.c1, fun i => by simp [hf], h0, h1, h.top⟩
set_option maxHeartbeats 4000000 in
theorem qup_some {W : World} {r : Nat} {most now : Int} (h : RefC W r most now) (a : Option Addr) (zs : List Int) (cap : Nat) (hz : IntRow W a zs) (ho : 0 < zs.length → Off a [r]) (h0 : 0 < zs.length) (hl : zs.length ≤ 9223372036854775806) :
    Calls Try.prog 28 #[.pointer (some ⟨r, 0, none⟩), .slice a zs.length cap] W fun e w' => e = .returned (.int .i64 (upL most now zs)) ∧ RefC w' r most (upL most now zs) ∧ Mod [r] W w' := by
  have HR0 : Hid (RefC W r most now) := h
  have HZ : Hid (IntRow W a zs) := hz
  have HO : Hid (0 < zs.length → Off a [r]) := ho
  have hn0 : ((zs.length : Int) == 0) = false := by rw [beq_eq_false_iff_ne]; omega
  clear h hz ho
  go_enter Try.func28, Try.ntmps28
  go_wp2
  go_loopw [5] (fun i wr => ∃ k : Nat, k ≤ zs.length ∧ i = .int .i64 k ∧ RefC wr r most (upL most now (zs.take k)) ∧ Mod [r] W wr) (fun i _ => zs.length - (intOf i).toNat)
  case atStart => exact ⟨0, Nat.zero_le _, rfl, HR0.out, Mod.refl _ _⟩
  case round =>
    obtain ⟨k, hk, rfl, hring, hmod⟩ := hrel
    have HRr : Hid (RefC wr r most (upL most now (zs.take k))) := hring
    have HM : Hid (Mod [r] W wr) := hmod
    clear hring hmod
    by_cases hlt : k < zs.length
    · obtain ⟨b', off, hab, hc⟩ := (HZ.out.mod HM.out (HO.out (by first | omega | simp))) k hlt
      cases hab
      try rw [Nat.zero_add] at hc
      have R := HRr.out
      have r0 := R.c0
      have r1 := R.c1
      have f0 := R.f 0
      have b0 := R.lo
      have b1 := R.hi
      have b2 := R.top
      clear R
      have HT : Hid (upL most now (zs.take (k + 1)) = upS most (upL most now (zs.take k)) (zs.getD k 0)) := upL_take most now zs k hlt
      generalize upL most now (zs.take k) = y at *
      generalize zs.getD k 0 = x at *
      have HB := upS_bd x b0 b1
      by_cases hx : 0 < x
      · by_cases hm : most - y < x
        · have HS : Hid (upS most y x = most) := by show _ = _; unfold upS; omega
          clear HB
          go_wp2
          go_region
          go_wp2
          go_roundw
          case rel => exact ⟨k + 1, by omega, by go_num, by rw [HT.out, HS.out]; exact (HRr.out.set most (by omega) (by omega)).drew, (HM.out.setCell _ _ _ (by simp)).drew⟩
          case measure => simp [intOf]; omega
        · have HS : Hid (upS most y x = y + x) := by show _ = _; unfold upS; omega
          clear HB
          go_wp2
          go_region
          go_wp2
          go_region
          go_wp2
          go_roundw
          case rel => exact ⟨k + 1, by omega, by go_num, by rw [HT.out, HS.out]; exact (HRr.out.set (y + x) (by omega) (by omega)).drew.drew, (HM.out.setCell _ _ _ (by simp)).drew.drew⟩
          case measure => simp [intOf]; omega
      · have HS : Hid (upS most y x = y) := by show _ = _; unfold upS; omega
        clear HB
        go_wp2
        go_roundw
        case rel => exact ⟨k + 1, by omega, by go_num, by rw [HT.out, HS.out]; exact HRr.out, HM.out⟩
        case measure => simp [intOf]; omega
    · have HE : Hid (RefC wr r most (upL most now zs)) := by have := HRr.out; rw [List.take_of_length_le (by omega)] at this; exact this
      have e0 := HE.out.c0
      clear HRr
      go_wp2
      go_ret
      exact ⟨rfl, HE.out, HM.out⟩
set_option maxHeartbeats 4000000 in
theorem qup_none {W : World} {r : Nat} {most now : Int} (h : RefC W r most now) (a : Option Addr) (cap : Nat) :
    Calls Try.prog 28 #[.pointer (some ⟨r, 0, none⟩), .slice a 0 cap] W fun e w' => e = .returned (.int .i64 (upL most now [1])) ∧ RefC w' r most (upL most now [1]) ∧ Mod [r] W w' := by
  have hal := (Below.refl W.heap.size W).alloc (Nat.le_refl _) (.cells #[.int .i64 1] 3)
  have hr := row_lit W [1] #[.int .i64 1] 3 rfl
  obtain ⟨zs, hzs⟩ : ∃ zs : List Int, [1] = zs := ⟨_, rfl⟩
  have h1 : zs.length = 1 := by rw [← hzs]; rfl
  rw [hzs] at hr ⊢
  clear hzs
  have hlt := h.lt
  go_enter Try.func28, Try.ntmps28
  go_wp2_with fail
  obtain ⟨V, hV⟩ : ∃ V, W.alloc (.cells #[.int .i64 1] 3) = V := ⟨_, rfl⟩
  rw [hV] at hal hr
  have HR0 : Hid (RefC V r most now) := h.below hal
  have HZ : Hid (IntRow V (some ⟨W.heap.size, 0, none⟩) zs) := hr
  have HO : Hid (0 < zs.length → Off (some ⟨W.heap.size, 0, none⟩) [r]) := fun _ => off_new _ _ (by simp; omega)
  have HM0 : Hid (Mod [r] W V) := Mod.of_below hal
  clear hal hr h
  rw [hV]
  clear hV
  go_loopw [5] (fun i wr => ∃ k : Nat, k ≤ zs.length ∧ i = .int .i64 k ∧ RefC wr r most (upL most now (zs.take k)) ∧ Mod [r] V wr) (fun i _ => zs.length - (intOf i).toNat)
  case atStart => exact ⟨0, Nat.zero_le _, rfl, HR0.out, Mod.refl _ _⟩
  case round =>
    obtain ⟨k, hk, rfl, hring, hmod⟩ := hrel
    have HRr : Hid (RefC wr r most (upL most now (zs.take k))) := hring
    have HM : Hid (Mod [r] V wr) := hmod
    clear hring hmod
    by_cases hlt : k < zs.length
    · obtain ⟨b', off, hab, hc⟩ := (HZ.out.mod HM.out (HO.out (by first | omega | simp))) k hlt
      cases hab
      try rw [Nat.zero_add] at hc
      have R := HRr.out
      have r0 := R.c0
      have r1 := R.c1
      have f0 := R.f 0
      have b0 := R.lo
      have b1 := R.hi
      have b2 := R.top
      clear R
      have HT : Hid (upL most now (zs.take (k + 1)) = upS most (upL most now (zs.take k)) (zs.getD k 0)) := upL_take most now zs k hlt
      generalize upL most now (zs.take k) = y at *
      generalize zs.getD k 0 = x at *
      have HB := upS_bd x b0 b1
      by_cases hx : 0 < x
      · by_cases hm : most - y < x
        · have HS : Hid (upS most y x = most) := by show _ = _; unfold upS; omega
          clear HB
          go_wp2
          go_region
          go_wp2
          go_roundw
          case rel => exact ⟨k + 1, by omega, by go_num, by rw [HT.out, HS.out]; exact (HRr.out.set most (by omega) (by omega)).drew, (HM.out.setCell _ _ _ (by simp)).drew⟩
          case measure => simp [intOf]; omega
        · have HS : Hid (upS most y x = y + x) := by show _ = _; unfold upS; omega
          clear HB
          go_wp2
          go_region
          go_wp2
          go_region
          go_wp2
          go_roundw
          case rel => exact ⟨k + 1, by omega, by go_num, by rw [HT.out, HS.out]; exact (HRr.out.set (y + x) (by omega) (by omega)).drew.drew, (HM.out.setCell _ _ _ (by simp)).drew.drew⟩
          case measure => simp [intOf]; omega
      · have HS : Hid (upS most y x = y) := by show _ = _; unfold upS; omega
        clear HB
        go_wp2
        go_roundw
        case rel => exact ⟨k + 1, by omega, by go_num, by rw [HT.out, HS.out]; exact HRr.out, HM.out⟩
        case measure => simp [intOf]; omega
    · have HE : Hid (RefC wr r most (upL most now zs)) := by have := HRr.out; rw [List.take_of_length_le (by omega)] at this; exact this
      have e0 := HE.out.c0
      clear HRr
      go_wp2
      go_ret
      exact ⟨rfl, HE.out, (HM0.out.trans HM.out)⟩
theorem qup_any {W : World} {r : Nat} {most now : Int} (h : RefC W r most now) (a : Option Addr) (zs : List Int) (cap : Nat) (hz : IntRow W a zs) (ho : 0 < zs.length → Off a [r]) (hl : zs.length ≤ 9223372036854775806) :
    Calls Try.prog 28 #[.pointer (some ⟨r, 0, none⟩), .slice a zs.length cap] W fun e w' => e = .returned (.int .i64 (upL most now (upsOf zs))) ∧ RefC w' r most (upL most now (upsOf zs)) ∧ Mod [r] W w' := by
  by_cases h0 : zs.length = 0
  · rw [show upsOf zs = [1] by unfold upsOf; rw [if_pos h0], h0]
    exact qup_none h a cap
  · rw [show upsOf zs = zs by unfold upsOf; rw [if_neg h0]]
    exact qup_some h a zs cap hz ho (by omega) hl
end Go.Proofs.Ytgdijnmanhglnaa
