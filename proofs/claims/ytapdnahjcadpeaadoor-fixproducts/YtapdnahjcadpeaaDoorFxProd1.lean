/- FixProducts: walks, a theorem a way. Conditions: the numbers' own ranges. -/
import Derived.Test.YtapdnahjcadpeaaDoorFxProdM
import Derived.Test.YtapdnahjcadpeaaDoorLive
import Derived.Test.YtapdnahjcadpeaaDoorDivF
namespace Go.Proofs.YtapdnahjcadpeaaDoor
open Go.RowKit
set_option linter.unusedVariables false
set_option maxRecDepth 100000

set_option maxHeartbeats 8000000 in
theorem prod_zt (x y : Int) (w : World) (hm : MaxLenIs w) (ht : PowsAre w) (x1 : -9223372036854775808 ≤ x) (x2 : x ≤ 9223372036854775807) (y1 : -9223372036854775808 ≤ y) (y2 : y ≤ 9223372036854775807) (hO : (overF (mulF x y false) || overF (mulF x y true)) = true) (hy : y = 0) :
    Calls Tryd.prog 6 #[.int .i64 x, .int .i64 y] w fun e w' => e = .returned (.bool true) ∧ Below w.heap.size w w' := by
  have HM : Hid (MaxLenIs w) := hm
  have HP : Hid (PowsAre w) := ht
  clear hm ht
  have HA0 : Hid (∀ A W o, Live w A W o → Calls Tryd.prog 12 #[.pointer (some ⟨A, 0, none⟩), .int .i64 x, .int .i64 y, .bool false] W fun e W' => e = .returned (.int .i64 (clampF (mulF x y false))) ∧ Live w A W' (o || overF (mulF x y false)) ∧ Kept A W W') := fun A W o h => by
    exact mul_live h false x1 x2 y1 y2
  have HA1 : Hid (∀ A W o, Live w A W o → Calls Tryd.prog 12 #[.pointer (some ⟨A, 0, none⟩), .int .i64 x, .int .i64 y, .bool true] W fun e W' => e = .returned (.int .i64 (clampF (mulF x y true))) ∧ Live w A W' (o || overF (mulF x y true)) ∧ Kept A W W') := fun A W o h => by
    exact mul_live h true x1 x2 y1 y2
  have HA2 : Hid (∀ A W o, Live w A W o → Calls Tryd.prog 12 #[.pointer (some ⟨A, 0, none⟩), .int .i64 y, .int .i64 x, .bool false] W fun e W' => e = .returned (.int .i64 (clampF (mulF x y false))) ∧ Live w A W' (o || overF (mulF x y false)) ∧ Kept A W W') := fun A W o h => by
    rw [mulF_comm]; exact mul_live h false y1 y2 x1 x2
  have HA3 : Hid (∀ A W o, Live w A W o → Calls Tryd.prog 12 #[.pointer (some ⟨A, 0, none⟩), .int .i64 y, .int .i64 x, .bool true] W fun e W' => e = .returned (.int .i64 (clampF (mulF x y true))) ∧ Live w A W' (o || overF (mulF x y true)) ∧ Kept A W W') := fun A W o h => by
    rw [mulF_comm]; exact mul_live h true y1 y2 x1 x2
  have HB0 : Hid (∀ A W o, Live w A W o → Calls Tryd.prog 12 #[.pointer (some ⟨A, 0, none⟩), .int .i64 x, .int .i64 4294967296, .bool false] W fun e W' => e = .returned (.int .i64 x) ∧ Live w A W' (o || false) ∧ Kept A W W') := fun A W o h => by
    have t := mul_live h false x1 x2 (y := 4294967296) (by omega) (by omega)
    unfold Says at t; rw [mulF_one, clampF_in x1 x2, overF_in x1 x2] at t; exact t
  have HB1 : Hid (∀ A W o, Live w A W o → Calls Tryd.prog 12 #[.pointer (some ⟨A, 0, none⟩), .int .i64 x, .int .i64 0, .bool true] W fun e W' => e = .returned (.int .i64 0) ∧ Live w A W' (o || false) ∧ Kept A W W') := fun A W o h => by
    have t := mul_live h true x1 x2 (y := 0) (by omega) (by omega)
    unfold Says at t; rw [mulF_zero, clampF_in (by omega) (by omega), overF_in (by omega) (by omega)] at t; exact t
  have HB2 : Hid (∀ A W o, Live w A W o → Calls Tryd.prog 12 #[.pointer (some ⟨A, 0, none⟩), .int .i64 x, .int .i64 (-4294967296), .bool false] W fun e W' => e = .returned (.int .i64 (clampF (-x))) ∧ Live w A W' (o || overF (-x)) ∧ Kept A W W') := fun A W o h => by
    have t := mul_live h false x1 x2 (y := -4294967296) (by omega) (by omega)
    unfold Says at t; rw [mulF_minus] at t; exact t
  have HB3 : Hid (∀ A W o, Live w A W o → Calls Tryd.prog 16 #[.pointer (some ⟨A, 0, none⟩), .int .i64 x] W fun e W' => e = .returned (.int .i64 (clampF (-x))) ∧ Live w A W' (o || overF (-x)) ∧ Kept A W W') := fun A W o h => by
    exact neg_live h x1 x2
  have f1 : clampF (mulF x y false) ≤ clampF (mulF x y true) := clampF_mono (mulF_up x y).1
  have f2 : -9223372036854775808 ≤ clampF (mulF x y false) ∧ clampF (mulF x y true) ≤ 9223372036854775807 := ⟨(clampF_bd _).1, (clampF_bd _).2⟩
  have HO : Hid (((((false || overF (mulF x y false)) || overF (mulF x y true)) || overF (mulF x y false)) || overF (mulF x y true)) = true) := by show _ = _; rw [or4]; exact hO
  clear hO
  have HN : Hid (clampF (-x) = clampF (-x)) := rfl
  generalize clampF (mulF x y false) = lo at *
  generalize clampF (mulF x y true) = hi at *
  generalize overF (mulF x y false) = o0 at *
  generalize overF (mulF x y true) = o1 at *
  generalize clampF (-x) = nx at *
  generalize overF (-x) = onx at *
  clear HN
  subst hy
  have L0 : Hid (Live w w.heap.size (w.alloc (.cells #[.bool false] 26)) false) := Live.make w w false (Below.refl _ _)
  go_enter Tryd.func6, Tryd.ntmps6
  go_wp2_with fail
  refine Calls.mono (HA0.out _ _ _ L0.out) ?_
  rintro e X1 ⟨rfl, lx, kx⟩
  have L1 : Hid (Live w w.heap.size X1 (false || o0)) := lx
  clear lx kx L0 
  go_wp2_with fail
  refine Calls.mono (HA1.out _ _ _ L1.out) ?_
  rintro e X2 ⟨rfl, lx, kx⟩
  have L2 : Hid (Live w w.heap.size X2 ((false || o0) || o1)) := lx
  clear lx kx L1 
  go_wp2_with fail
  refine Calls.mono (HA2.out _ _ _ L2.out) ?_
  rintro e X3 ⟨rfl, lx, kx⟩
  have L3 : Hid (Live w w.heap.size X3 (((false || o0) || o1) || o0)) := lx
  clear lx kx L2 
  go_wp2_with fail
  refine Calls.mono (HA3.out _ _ _ L3.out) ?_
  rintro e X4 ⟨rfl, lx, kx⟩
  have L4 : Hid (Live w w.heap.size X4 ((((false || o0) || o1) || o0) || o1)) := lx
  clear lx kx L3 
  rw [HO.out] at L4
  have c4 := L4.out.cell
  have B0 : Hid (Live w X4.heap.size (X4.alloc (.cells #[.bool false] 26)) false) := Live.make w X4 false L4.out.below
  go_wp2_with fail
  clear c4
  refine Calls.mono (HB0.out _ _ _ B0.out) ?_
  rintro e X5 ⟨rfl, lx, kx⟩
  have B1 : Hid (Live w X4.heap.size X5 (false || false)) := lx
  clear lx kx B0 
  go_wp2_with fail
  refine Calls.mono (HB1.out _ _ _ B1.out) ?_
  rintro e X6 ⟨rfl, lx, kx⟩
  have B2 : Hid (Live w X4.heap.size X6 ((false || false) || false)) := lx
  clear lx kx B1 
  have c4 := B2.out.cell
  simp only [Bool.or_false] at c4
  go_wp2_with fail
  clear c4
  refine Calls.mono (HB2.out _ _ _ B2.out) ?_
  rintro e X7 ⟨rfl, lx, kx⟩
  have B3 : Hid (Live w X4.heap.size X7 (((false || false) || false) || onx)) := lx
  clear lx kx B2 
  go_wp2_with fail
  refine Calls.mono (HB3.out _ _ _ B3.out) ?_
  rintro e X8 ⟨rfl, lx, kx⟩
  have B4 : Hid (Live w X4.heap.size X8 ((((false || false) || false) || onx) || onx)) := lx
  clear lx kx B3 
  go_wp2_with fail
  refine Calls.mono (alive_live B4.out HM.out HP.out) ?_
  rintro e Z ⟨rfl, lz, _⟩
  have HB : Hid (Below w.heap.size w Z) := lz.below
  clear lz
  go_wp2
  go_ret
  exact ⟨rfl, HB.out⟩
set_option maxHeartbeats 8000000 in
theorem prod_zf (x y : Int) (w : World) (hm : MaxLenIs w) (ht : PowsAre w) (x1 : -9223372036854775808 ≤ x) (x2 : x ≤ 9223372036854775807) (y1 : -9223372036854775808 ≤ y) (y2 : y ≤ 9223372036854775807) (hO : (overF (mulF x y false) || overF (mulF x y true)) = false) (hy : y = 0) :
    Calls Tryd.prog 6 #[.int .i64 x, .int .i64 y] w fun e w' => e = .returned (.bool true) ∧ Below w.heap.size w w' := by
  have HM : Hid (MaxLenIs w) := hm
  have HP : Hid (PowsAre w) := ht
  clear hm ht
  have HA0 : Hid (∀ A W o, Live w A W o → Calls Tryd.prog 12 #[.pointer (some ⟨A, 0, none⟩), .int .i64 x, .int .i64 y, .bool false] W fun e W' => e = .returned (.int .i64 (clampF (mulF x y false))) ∧ Live w A W' (o || overF (mulF x y false)) ∧ Kept A W W') := fun A W o h => by
    exact mul_live h false x1 x2 y1 y2
  have HA1 : Hid (∀ A W o, Live w A W o → Calls Tryd.prog 12 #[.pointer (some ⟨A, 0, none⟩), .int .i64 x, .int .i64 y, .bool true] W fun e W' => e = .returned (.int .i64 (clampF (mulF x y true))) ∧ Live w A W' (o || overF (mulF x y true)) ∧ Kept A W W') := fun A W o h => by
    exact mul_live h true x1 x2 y1 y2
  have HA2 : Hid (∀ A W o, Live w A W o → Calls Tryd.prog 12 #[.pointer (some ⟨A, 0, none⟩), .int .i64 y, .int .i64 x, .bool false] W fun e W' => e = .returned (.int .i64 (clampF (mulF x y false))) ∧ Live w A W' (o || overF (mulF x y false)) ∧ Kept A W W') := fun A W o h => by
    rw [mulF_comm]; exact mul_live h false y1 y2 x1 x2
  have HA3 : Hid (∀ A W o, Live w A W o → Calls Tryd.prog 12 #[.pointer (some ⟨A, 0, none⟩), .int .i64 y, .int .i64 x, .bool true] W fun e W' => e = .returned (.int .i64 (clampF (mulF x y true))) ∧ Live w A W' (o || overF (mulF x y true)) ∧ Kept A W W') := fun A W o h => by
    rw [mulF_comm]; exact mul_live h true y1 y2 x1 x2
  have HB0 : Hid (∀ A W o, Live w A W o → Calls Tryd.prog 12 #[.pointer (some ⟨A, 0, none⟩), .int .i64 x, .int .i64 4294967296, .bool false] W fun e W' => e = .returned (.int .i64 x) ∧ Live w A W' (o || false) ∧ Kept A W W') := fun A W o h => by
    have t := mul_live h false x1 x2 (y := 4294967296) (by omega) (by omega)
    unfold Says at t; rw [mulF_one, clampF_in x1 x2, overF_in x1 x2] at t; exact t
  have HB1 : Hid (∀ A W o, Live w A W o → Calls Tryd.prog 12 #[.pointer (some ⟨A, 0, none⟩), .int .i64 x, .int .i64 0, .bool true] W fun e W' => e = .returned (.int .i64 0) ∧ Live w A W' (o || false) ∧ Kept A W W') := fun A W o h => by
    have t := mul_live h true x1 x2 (y := 0) (by omega) (by omega)
    unfold Says at t; rw [mulF_zero, clampF_in (by omega) (by omega), overF_in (by omega) (by omega)] at t; exact t
  have HB2 : Hid (∀ A W o, Live w A W o → Calls Tryd.prog 12 #[.pointer (some ⟨A, 0, none⟩), .int .i64 x, .int .i64 (-4294967296), .bool false] W fun e W' => e = .returned (.int .i64 (clampF (-x))) ∧ Live w A W' (o || overF (-x)) ∧ Kept A W W') := fun A W o h => by
    have t := mul_live h false x1 x2 (y := -4294967296) (by omega) (by omega)
    unfold Says at t; rw [mulF_minus] at t; exact t
  have HB3 : Hid (∀ A W o, Live w A W o → Calls Tryd.prog 16 #[.pointer (some ⟨A, 0, none⟩), .int .i64 x] W fun e W' => e = .returned (.int .i64 (clampF (-x))) ∧ Live w A W' (o || overF (-x)) ∧ Kept A W W') := fun A W o h => by
    exact neg_live h x1 x2
  have f1 : clampF (mulF x y false) ≤ clampF (mulF x y true) := clampF_mono (mulF_up x y).1
  have f2 : -9223372036854775808 ≤ clampF (mulF x y false) ∧ clampF (mulF x y true) ≤ 9223372036854775807 := ⟨(clampF_bd _).1, (clampF_bd _).2⟩
  have f3 : clampF (mulF x y true) - clampF (mulF x y false) ≤ 1 := by
    rw [Bool.or_eq_false_iff] at hO
    rw [overF_clamp hO.1, overF_clamp hO.2]; have := (mulF_up x y).2; omega
  have HO : Hid (((((false || overF (mulF x y false)) || overF (mulF x y true)) || overF (mulF x y false)) || overF (mulF x y true)) = false) := by show _ = _; rw [or4]; exact hO
  clear hO
  have HN : Hid (clampF (-x) = clampF (-x)) := rfl
  generalize clampF (mulF x y false) = lo at *
  generalize clampF (mulF x y true) = hi at *
  generalize overF (mulF x y false) = o0 at *
  generalize overF (mulF x y true) = o1 at *
  generalize clampF (-x) = nx at *
  generalize overF (-x) = onx at *
  clear HN
  subst hy
  have L0 : Hid (Live w w.heap.size (w.alloc (.cells #[.bool false] 26)) false) := Live.make w w false (Below.refl _ _)
  go_enter Tryd.func6, Tryd.ntmps6
  go_wp2_with fail
  refine Calls.mono (HA0.out _ _ _ L0.out) ?_
  rintro e X1 ⟨rfl, lx, kx⟩
  have L1 : Hid (Live w w.heap.size X1 (false || o0)) := lx
  clear lx kx L0 
  go_wp2_with fail
  refine Calls.mono (HA1.out _ _ _ L1.out) ?_
  rintro e X2 ⟨rfl, lx, kx⟩
  have L2 : Hid (Live w w.heap.size X2 ((false || o0) || o1)) := lx
  clear lx kx L1 
  go_wp2_with fail
  refine Calls.mono (HA2.out _ _ _ L2.out) ?_
  rintro e X3 ⟨rfl, lx, kx⟩
  have L3 : Hid (Live w w.heap.size X3 (((false || o0) || o1) || o0)) := lx
  clear lx kx L2 
  go_wp2_with fail
  refine Calls.mono (HA3.out _ _ _ L3.out) ?_
  rintro e X4 ⟨rfl, lx, kx⟩
  have L4 : Hid (Live w w.heap.size X4 ((((false || o0) || o1) || o0) || o1)) := lx
  clear lx kx L3 
  rw [HO.out] at L4
  have c4 := L4.out.cell
  have B0 : Hid (Live w X4.heap.size (X4.alloc (.cells #[.bool false] 26)) false) := Live.make w X4 false L4.out.below
  go_wp2_with fail
  clear c4
  refine Calls.mono (HB0.out _ _ _ B0.out) ?_
  rintro e X5 ⟨rfl, lx, kx⟩
  have B1 : Hid (Live w X4.heap.size X5 (false || false)) := lx
  clear lx kx B0 
  go_wp2_with fail
  refine Calls.mono (HB1.out _ _ _ B1.out) ?_
  rintro e X6 ⟨rfl, lx, kx⟩
  have B2 : Hid (Live w X4.heap.size X6 ((false || false) || false)) := lx
  clear lx kx B1 
  have c4 := B2.out.cell
  simp only [Bool.or_false] at c4
  go_wp2_with fail
  clear c4
  refine Calls.mono (HB2.out _ _ _ B2.out) ?_
  rintro e X7 ⟨rfl, lx, kx⟩
  have B3 : Hid (Live w X4.heap.size X7 (((false || false) || false) || onx)) := lx
  clear lx kx B2 
  go_wp2_with fail
  refine Calls.mono (HB3.out _ _ _ B3.out) ?_
  rintro e X8 ⟨rfl, lx, kx⟩
  have B4 : Hid (Live w X4.heap.size X8 ((((false || false) || false) || onx) || onx)) := lx
  clear lx kx B3 
  go_wp2_with fail
  refine Calls.mono (alive_live B4.out HM.out HP.out) ?_
  rintro e Z ⟨rfl, lz, _⟩
  have HB : Hid (Below w.heap.size w Z) := lz.below
  clear lz
  go_wp2
  go_ret
  exact ⟨rfl, HB.out⟩
end Go.Proofs.YtapdnahjcadpeaaDoor
