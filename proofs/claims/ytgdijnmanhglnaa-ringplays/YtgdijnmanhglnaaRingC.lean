/- The contracts of ring's NewCount, Up, Zero, Now. Conditions: the numbers' own ranges. -/
import Derived.Test.YtgdijnmanhglnaaRingP
namespace Go.Proofs.Ytgdijnmanhglnaa
open Go.RowKit
set_option linter.unusedVariables false
set_option maxRecDepth 100000

/-- One number is counted. -/
def upS (most now z : Int) : Int := now + min (max z 0) (most - now)
/-- All are. -/
def upL (most now : Int) (zs : List Int) : Int := zs.foldl (upS most) now
theorem upS_bd {most now : Int} (z : Int) (h0 : 0 ≤ now) (h1 : now ≤ most) : 0 ≤ upS most now z ∧ upS most now z ≤ most := by unfold upS; omega
theorem upL_bd {most : Int} (zs : List Int) {now : Int} (h0 : 0 ≤ now) (h1 : now ≤ most) : 0 ≤ upL most now zs ∧ upL most now zs ≤ most := by
  induction zs generalizing now with
  | nil => exact ⟨h0, h1⟩
  | cons z zs ih => have := upS_bd z h0 h1; exact ih this.1 this.2
theorem upL_take (most now : Int) (zs : List Int) (k : Nat) (h : k < zs.length) : upL most now (zs.take (k + 1)) = upS most (upL most now (zs.take k)) (zs.getD k 0) := by
  unfold upL
  rw [List.take_succ_eq_append_getElem h, List.foldl_append]
  simp [List.getD_eq_getElem?_getD, List.getElem?_eq_getElem h]
theorem upL_append (most now : Int) (xs ys : List Int) : upL most now (xs ++ ys) = upL most (upL most now xs) ys := by unfold upL; rw [List.foldl_append]
/-- What Up counts of a list that may be empty. -/
def upsOf (zs : List Int) : List Int := if zs.length = 0 then [1] else zs
/-- A counter in memory. -/
structure CountAt (W : World) (c : Nat) (most now : Int) : Prop where
  c0 : W.cell? ⟨c, 0, none⟩ = some (.int .i64 most)
  c1 : W.cell? ⟨c, 1, none⟩ = some (.int .i64 now)
  f : ∀ i, W.frozen? ⟨c, i, none⟩ = false
  lo : 0 ≤ now
  hi : now ≤ most
  top : most ≤ 9223372036854775807
theorem CountAt.lt {W : World} {c : Nat} {most now : Int} (h : CountAt W c most now) : c < W.heap.size := World.block_lt_of_cell? W _ h.c0
theorem CountAt.mod {S : List Nat} {W W' : World} {c : Nat} {most now : Int} (h : CountAt W c most now) (k : Mod S W W') (hc : c ∉ S) : CountAt W' c most now :=
  ⟨k.cell h.c0 hc, k.cell h.c1 hc, fun i => (k.frozen h.lt hc).trans (h.f i), h.lo, h.hi, h.top⟩
theorem CountAt.below {W W' : World} {c : Nat} {most now : Int} (h : CountAt W c most now) (k : Below W.heap.size W W') : CountAt W' c most now :=
  h.mod (S := []) (Mod.of_below k) (by simp)
theorem CountAt.set {W : World} {c : Nat} {most now : Int} (h : CountAt W c most now) (v : Int) (h0 : 0 ≤ v) (h1 : v ≤ most) : CountAt (W.setCell ⟨c, 1, none⟩ (.int .i64 v)) c most v := by
  have hf := h.f
  exact ⟨by rw [cell_oo _ _ _ _ _ _ (by omega)]; exact h.c0, World.cell?_setCell_same _ _ _ h.c1, fun i => by simp [hf], h0, h1, h.top⟩
theorem CountAt.setv {W : World} {c : Nat} {most now : Int} (h : CountAt W c most now) (v u : Int) (hv : v = u) (h0 : 0 ≤ u) (h1 : u ≤ most) : CountAt (W.setCell ⟨c, 1, none⟩ (.int .i64 v)) c most u := by
  subst hv; exact h.set v h0 h1
theorem CountAt.drew {W : World} {c : Nat} {most now : Int} (h : CountAt W c most now) : CountAt W.drew c most now := h.mod (S := []) (Mod.refl _ W).drew (by simp)

theorem now_any {W : World} {c : Nat} {most now : Int} (h : CountAt W c most now) :
    Calls Try.prog 29 #[.pointer (some ⟨c, 0, none⟩)] W fun e w' => e = .returned (.int .i64 now) ∧ w' = W := by
  have hc := h.c1
  clear h
  go_enter Try.func29, Try.ntmps29
  go_wp2
  go_ret
  exact ⟨rfl, rfl⟩
theorem zero_any {W : World} {c : Nat} {most now : Int} (h : CountAt W c most now) :
    Calls Try.prog 26 #[.pointer (some ⟨c, 0, none⟩)] W fun e w' => e = .returned (.tuple #[]) ∧ CountAt w' c most 0 ∧ Mod [c] W w' := by
  have HC : Hid (CountAt W c most now) := h
  have hc := h.c1
  have hf := h.f 1
  clear h
  go_enter Try.func26, Try.ntmps26
  go_wp2
  first | go_end0 | refine bodyPost_ret (results_none rfl _ _ _) rfl ?_
  exact ⟨rfl, HC.out.set 0 (by omega) (by have := HC.out.lo; have := HC.out.hi; omega), (Mod.refl _ _).setCell _ _ _ (by simp)⟩
theorem newcount_bad (n : Int) (W : World) (h : n < 0) : Calls Try.prog 25 #[.int .i64 n] W fun e w' => e = .returned (.tuple #[.pointer none, .int .i64 1]) ∧ w' = W := by
  go_enter Try.func25, Try.ntmps25
  go_wp2
  go_ret2
  exact ⟨rfl, rfl⟩
theorem newcount_ok (n : Int) (W : World) (h : 0 ≤ n) (h2 : n ≤ 9223372036854775807) : Calls Try.prog 25 #[.int .i64 n] W fun e w' => ∃ c, e = .returned (.tuple #[.pointer (some ⟨c, 0, none⟩), .int .i64 0]) ∧ W.heap.size ≤ c ∧ CountAt w' c n 0 ∧ Below W.heap.size W w' := by
  go_enter Try.func25, Try.ntmps25
  go_wp2
  go_ret2
  exact ⟨_, rfl, Nat.le_refl _, ⟨by simp, by simp, fun i => World.frozen?_alloc_at _ _ _ _ rfl, by omega, h, h2⟩, (Below.refl _ _).alloc (Nat.le_refl _) _⟩

set_option maxHeartbeats 4000000 in
theorem up_some {W : World} {c : Nat} {most now : Int} (h : CountAt W c most now) (a : Option Addr) (zs : List Int) (cap : Nat) (hz : IntRow W a zs) (ho : 0 < zs.length → Off a [c]) (h0 : 0 < zs.length) (hl : zs.length ≤ 9223372036854775806) :
    Calls Try.prog 27 #[.pointer (some ⟨c, 0, none⟩), .slice a zs.length cap] W fun e w' => e = .returned (.int .i64 (upL most now zs)) ∧ CountAt w' c most (upL most now zs) ∧ Mod [c] W w' := by
  have HR : Hid (CountAt W c most now) := h
  have HZ : Hid (IntRow W a zs) := hz
  have HO : Hid (0 < zs.length → Off a [c]) := ho
  have hn0 : ((zs.length : Int) == 0) = false := by rw [beq_eq_false_iff_ne]; omega
  clear h hz ho
  go_enter Try.func27, Try.ntmps27
  go_wp2
  go_loopw [17] (fun i wr => ∃ k : Nat, k ≤ zs.length ∧ i = .int .i64 k ∧ CountAt wr c most (upL most now (zs.take k)) ∧ Mod [c] W wr) (fun i _ => zs.length - (intOf i).toNat)
  case atStart => exact ⟨0, Nat.zero_le _, rfl, HR.out, Mod.refl _ _⟩
  case round =>
    obtain ⟨k, hk, rfl, hring, hmod⟩ := hrel
    have HRr : Hid (CountAt wr c most (upL most now (zs.take k))) := hring
    have HM : Hid (Mod [c] W wr) := hmod
    clear hring hmod
    by_cases hlt : k < zs.length
    · obtain ⟨b', off, rfl, hc⟩ := (HZ.out.mod HM.out (HO.out (by omega))) k hlt
      have R := HRr.out
      have r0 := R.c0
      have r1 := R.c1
      have f1 := R.f 1
      have b0 := R.lo
      have b1 := R.hi
      have b2 := R.top
      clear R
      have HT : Hid (upL most now (zs.take (k + 1)) = upS most (upL most now (zs.take k)) (zs.getD k 0)) := upL_take most now zs k hlt
      generalize upL most now (zs.take k) = y at *
      generalize zs.getD k 0 = x at *
      have HB := upS_bd x b0 b1
      have HS : Hid (upS most y x = y + min (max x 0) (most - y)) := rfl
      go_wp2
      go_region
      go_wp2
      go_roundw
      case rel => exact ⟨k + 1, by omega, by go_num, by rw [HT.out]; exact (HRr.out.setv _ _ (by unfold upS; first | rfl | omega | (simp; omega)) HB.1 HB.2).drew, (HM.out.setCell _ _ _ (by simp)).drew⟩
      case measure => simp [intOf]; omega
    · have HE : Hid (CountAt wr c most (upL most now zs)) := by have := HRr.out; rw [List.take_of_length_le (by omega)] at this; exact this
      have e1 := HE.out.c1
      clear HRr
      go_wp2
      go_ret
      exact ⟨rfl, HE.out, HM.out⟩
theorem row_one (W : World) (x : Int) (o : Obj) (ho : o = .cells #[.int .i64 x] 3) : IntRow (W.alloc o) (some ⟨W.heap.size, 0, none⟩) [x] := by
  subst ho
  intro i hi
  obtain rfl : i = 0 := by simpa using hi
  exact ⟨W.heap.size, 0, rfl, by simp⟩
theorem off_new (g : Nat) (S : List Nat) (h : g ∉ S) : Off (some ⟨g, 0, none⟩) S := fun x hx => by cases hx; exact h
set_option maxHeartbeats 2000000 in
theorem up_any {W : World} {c : Nat} {most now : Int} (h : CountAt W c most now) (a : Option Addr) (zs : List Int) (cap : Nat) (hz : IntRow W a zs) (ho : 0 < zs.length → Off a [c]) (hl : zs.length ≤ 9223372036854775806) :
    Calls Try.prog 27 #[.pointer (some ⟨c, 0, none⟩), .slice a zs.length cap] W fun e w' => e = .returned (.int .i64 (upL most now (upsOf zs))) ∧ CountAt w' c most (upL most now (upsOf zs)) ∧ Mod [c] W w' := by
  by_cases h0 : zs.length = 0
  · rw [show upsOf zs = [1] by unfold upsOf; rw [if_pos h0]]
    obtain rfl : zs = [] := List.length_eq_zero_iff.1 h0
    have hal := (Below.refl W.heap.size W).alloc (Nat.le_refl _) (.cells #[.int .i64 1] 3)
    have HU := up_some (W := W.alloc (.cells #[.int .i64 1] 3)) (h.below hal) (some ⟨W.heap.size, 0, none⟩) [1] 1 (row_one W 1 _ rfl) (fun _ => off_new _ _ (by have := h.lt; simp; omega)) (by simp) (by simp)
    have HU' : Hid (Calls Try.prog 27 #[.pointer (some ⟨c, 0, none⟩), .slice (some ⟨W.heap.size, 0, none⟩) 1 1] (W.alloc (.cells #[.int .i64 1] 3)) fun e w' => e = .returned (.int .i64 (upL most now [1])) ∧ CountAt w' c most (upL most now [1]) ∧ Mod [c] (W.alloc (.cells #[.int .i64 1] 3)) w') := HU
    have HM : Hid (Mod [c] W (W.alloc (.cells #[.int .i64 1] 3))) := Mod.of_below hal
    clear HU hal h hz ho h0
    generalize upL most now [1] = u at *
    go_enter Try.func27, Try.ntmps27
    go_wp2_with fail
    refine Calls.mono HU'.out ?_
    rintro e w1 ⟨rfl, h1, h2⟩
    have H1 : Hid (CountAt w1 c most u) := h1
    have H2 : Hid (Mod [c] W w1) := HM.out.trans h2
    clear h1 h2
    go_wp2
    go_ret
    exact ⟨rfl, H1.out, H2.out⟩
  · rw [show upsOf zs = zs by unfold upsOf; rw [if_neg h0]]
    exact up_some h a zs cap hz ho (by omega) hl
theorem up_nil (W : World) (a : Option Addr) (n cap : Nat) : Calls Try.prog 27 #[.pointer none, .slice a n cap] W fun e w' => e = .returned (.int .i64 0) ∧ w' = W := by
  go_enter Try.func27, Try.ntmps27
  go_wp2
  go_ret
  exact ⟨rfl, rfl⟩
theorem now_nil (W : World) : Calls Try.prog 29 #[.pointer none] W fun e w' => e = .returned (.int .i64 0) ∧ w' = W := by
  go_enter Try.func29, Try.ntmps29
  go_wp2
  go_ret
  exact ⟨rfl, rfl⟩
theorem zero_nil (W : World) : Calls Try.prog 26 #[.pointer none] W fun e w' => e = .returned (.tuple #[]) ∧ w' = W := by
  go_enter Try.func26, Try.ntmps26
  go_wp2
  first | go_end0 | refine bodyPost_ret (results_none rfl _ _ _) rfl ?_
  exact ⟨rfl, rfl⟩
end Go.Proofs.Ytgdijnmanhglnaa
