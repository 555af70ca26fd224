/- FixProducts: walks, a theorem a way. Conditions: the numbers' own ranges. -/
import Derived.Test.YtapdnahjcadpeaaDoorFxProdM
import Derived.Test.YtapdnahjcadpeaaDoorLive
import Derived.Test.YtapdnahjcadpeaaDoorDivF
namespace Go.Proofs.YtapdnahjcadpeaaDoor
open Go.RowKit
set_option linter.unusedVariables false
set_option maxRecDepth 100000

set_option maxHeartbeats 8000000 in
theorem prod_ntt (x y : Int) (w : World) (hm : MaxLenIs w) (ht : PowsAre w) (x1 : -9223372036854775808 ≤ x) (x2 : x ≤ 9223372036854775807) (y1 : -9223372036854775808 ≤ y) (y2 : y ≤ 9223372036854775807) (hO : (overF (mulF x y false) || overF (mulF x y true)) = true) (hy : y < 0) (hO2 : (overF (divF x y false) || overF (divF x y true)) = true) :
    Calls Tryd.prog 6 #[.int .i64 x, .int .i64 y] w fun e w' => e = .returned (.bool true) ∧ Below w.heap.size w w' := by
  have HM : Hid (MaxLenIs w) := hm
  have HP : Hid (PowsAre w) := ht
  clear hm ht
  have HA0 : Hid (∀ A W o, Live w A W o → Calls Tryd.prog 12 #[.pointer (some ⟨A, 0, none⟩), .int .i64 x, .int .i64 y, .bool false] W fun e W' => e = .returned (.int .i64 (clampF (mulF x y false))) ∧ Live w A W' (o || overF (mulF x y false)) ∧ Kept A W W') := fun A W o h => by
    exact mul_live h false x1 x2 y1 y2
  have HA1 : Hid (∀ A W o, Live w A W o → Calls Tryd.prog 12 #[.pointer (some ⟨A, 0, none⟩), .int .i64 x, .int .i64 y, .bool true] W fun e W' => e = .returned (.int .i64 (clampF (mulF x y true))) ∧ Live w A W' (o || overF (mulF x y true)) ∧ Kept A W W') := fun A W o h => by
    exact mul_live h true x1 x2 y1 y2
  have HA2 : Hid (∀ A W o, Live w A W o → Calls Tryd.prog 12 #[.pointer (some ⟨A, 0, none⟩), .int .i64 y, .int .i64 x, .bool false] W fun e W' => e = .returned (.int .i64 (clampF (mulF x y false))) ∧ Live w A W' (o || overF (mulF x y false)) ∧ Kept A W W') := fun A W o h => by
    rw [mulF_comm]; exact mul_live h false y1 y2 x1 x2
  have HA3 : Hid (∀ A W o, Live w A W o → Calls Tryd.prog 12 #[.pointer (some ⟨A, 0, none⟩), .int .i64 y, .int .i64 x, .bool true] W fun e W' => e = .returned (.int .i64 (clampF (mulF x y true))) ∧ Live w A W' (o || overF (mulF x y true)) ∧ Kept A W W') := fun A W o h => by
    rw [mulF_comm]; exact mul_live h true y1 y2 x1 x2
  have HB0 : Hid (∀ A W o, Live w A W o → Calls Tryd.prog 12 #[.pointer (some ⟨A, 0, none⟩), .int .i64 x, .int .i64 4294967296, .bool false] W fun e W' => e = .returned (.int .i64 x) ∧ Live w A W' (o || false) ∧ Kept A W W') := fun A W o h => by
    have t := mul_live h false x1 x2 (y := 4294967296) (by omega) (by omega)
    unfold Says at t; rw [mulF_one, clampF_in x1 x2, overF_in x1 x2] at t; exact t
  have HB1 : Hid (∀ A W o, Live w A W o → Calls Tryd.prog 12 #[.pointer (some ⟨A, 0, none⟩), .int .i64 x, .int .i64 0, .bool true] W fun e W' => e = .returned (.int .i64 0) ∧ Live w A W' (o || false) ∧ Kept A W W') := fun A W o h => by
    have t := mul_live h true x1 x2 (y := 0) (by omega) (by omega)
    unfold Says at t; rw [mulF_zero, clampF_in (by omega) (by omega), overF_in (by omega) (by omega)] at t; exact t
  have HB2 : Hid (∀ A W o, Live w A W o → Calls Tryd.prog 12 #[.pointer (some ⟨A, 0, none⟩), .int .i64 x, .int .i64 (-4294967296), .bool false] W fun e W' => e = .returned (.int .i64 (clampF (-x))) ∧ Live w A W' (o || overF (-x)) ∧ Kept A W W') := fun A W o h => by
    have t := mul_live h false x1 x2 (y := -4294967296) (by omega) (by omega)
    unfold Says at t; rw [mulF_minus] at t; exact t
  have HB3 : Hid (∀ A W o, Live w A W o → Calls Tryd.prog 16 #[.pointer (some ⟨A, 0, none⟩), .int .i64 x] W fun e W' => e = .returned (.int .i64 (clampF (-x))) ∧ Live w A W' (o || overF (-x)) ∧ Kept A W W') := fun A W o h => by
    exact neg_live h x1 x2
  have f1 : clampF (mulF x y false) ≤ clampF (mulF x y true) := clampF_mono (mulF_up x y).1
  have f2 : -9223372036854775808 ≤ clampF (mulF x y false) ∧ clampF (mulF x y true) ≤ 9223372036854775807 := ⟨(clampF_bd _).1, (clampF_bd _).2⟩
  have HO : Hid (((((false || overF (mulF x y false)) || overF (mulF x y true)) || overF (mulF x y false)) || overF (mulF x y true)) = true) := by show _ = _; rw [or4]; exact hO
  clear hO
  have HN : Hid (clampF (-x) = clampF (-x)) := rfl
  have HC0 : Hid (∀ A W o, Live w A W o → Calls Tryd.prog 14 #[.pointer (some ⟨A, 0, none⟩), .int .i64 x, .int .i64 y, .bool false] W fun e W' => e = .returned (.int .i64 (clampF (divF x y false))) ∧ Live w A W' (o || overF (divF x y false)) ∧ Kept A W W') := fun A W o h => by
    exact div_live h false x1 x2 y1 y2 (by omega)
  have HC1 : Hid (∀ A W o, Live w A W o → Calls Tryd.prog 14 #[.pointer (some ⟨A, 0, none⟩), .int .i64 x, .int .i64 y, .bool true] W fun e W' => e = .returned (.int .i64 (clampF (divF x y true))) ∧ Live w A W' (o || overF (divF x y true)) ∧ Kept A W W') := fun A W o h => by
    exact div_live h true x1 x2 y1 y2 (by omega)
  have d1 : clampF (divF x y false) ≤ clampF (divF x y true) := clampF_mono (divF_up x y (by omega)).1
  have d0 := clampF_bd (divF x y false)
  have d9 := clampF_bd (divF x y true)
  have HD0 : Hid (∀ A W o, Live w A W o → Calls Tryd.prog 12 #[.pointer (some ⟨A, 0, none⟩), .int .i64 (clampF (divF x y false)), .int .i64 y, .bool false] W fun e W' => e = .returned (.int .i64 (clampF (mulF (clampF (divF x y false)) y false))) ∧ Live w A W' (o || overF (mulF (clampF (divF x y false)) y false)) ∧ Kept A W W') := fun A W o h => by
    exact mul_live h false d0.1 d0.2 y1 y2
  have HD1 : Hid (∀ A W o, Live w A W o → Calls Tryd.prog 12 #[.pointer (some ⟨A, 0, none⟩), .int .i64 (clampF (divF x y true)), .int .i64 y, .bool true] W fun e W' => e = .returned (.int .i64 (clampF (mulF (clampF (divF x y true)) y true))) ∧ Live w A W' (o || overF (mulF (clampF (divF x y true)) y true)) ∧ Kept A W W') := fun A W o h => by
    exact mul_live h true d9.1 d9.2 y1 y2
  have HD2 : Hid (∀ A W o, Live w A W o → Calls Tryd.prog 12 #[.pointer (some ⟨A, 0, none⟩), .int .i64 (clampF (divF x y false)), .int .i64 y, .bool true] W fun e W' => e = .returned (.int .i64 (clampF (mulF (clampF (divF x y false)) y true))) ∧ Live w A W' (o || overF (mulF (clampF (divF x y false)) y true)) ∧ Kept A W W') := fun A W o h => by
    exact mul_live h true d0.1 d0.2 y1 y2
  have HD3 : Hid (∀ A W o, Live w A W o → Calls Tryd.prog 12 #[.pointer (some ⟨A, 0, none⟩), .int .i64 (clampF (divF x y true)), .int .i64 y, .bool false] W fun e W' => e = .returned (.int .i64 (clampF (mulF (clampF (divF x y true)) y false))) ∧ Live w A W' (o || overF (mulF (clampF (divF x y true)) y false)) ∧ Kept A W W') := fun A W o h => by
    exact mul_live h false d9.1 d9.2 y1 y2
  have HO2 : Hid (((false || overF (divF x y false)) || overF (divF x y true)) = true) := by show _ = _; rw [Bool.false_or]; exact hO2
  clear hO2
  generalize clampF (mulF (clampF (divF x y false)) y false) = mff at *
  generalize overF (mulF (clampF (divF x y false)) y false) = omff at *
  generalize clampF (mulF (clampF (divF x y false)) y true) = mft at *
  generalize overF (mulF (clampF (divF x y false)) y true) = omft at *
  generalize clampF (mulF (clampF (divF x y true)) y false) = mtf at *
  generalize overF (mulF (clampF (divF x y true)) y false) = omtf at *
  generalize clampF (mulF (clampF (divF x y true)) y true) = mtt at *
  generalize overF (mulF (clampF (divF x y true)) y true) = omtt at *
  generalize clampF (divF x y false) = q at *
  generalize clampF (divF x y true) = r at *
  generalize overF (divF x y false) = oq at *
  generalize overF (divF x y true) = or' at *
  generalize clampF (mulF x y false) = lo at *
  generalize clampF (mulF x y true) = hi at *
  generalize overF (mulF x y false) = o0 at *
  generalize overF (mulF x y true) = o1 at *
  generalize clampF (-x) = nx at *
  generalize overF (-x) = onx at *
  clear HN
  have hy0 : (y == 0) = false := by rw [beq_eq_false_iff_ne]; omega
  have hyp : decide (0 < y) = false := by simp; omega
  have hyn : decide (y < 0) = true := by simp; omega
  have L0 : Hid (Live w w.heap.size (w.alloc (.cells #[.bool false] 26)) false) := Live.make w w false (Below.refl _ _)
  go_enter Tryd.func6, Tryd.ntmps6
  go_wp2_with fail
  refine Calls.mono (HA0.out _ _ _ L0.out) ?_
  rintro e X1 ⟨rfl, lx, kx⟩
  have L1 : Hid (Live w w.heap.size X1 (false || o0)) := lx
  clear lx kx L0 
  go_wp2_with fail
  refine Calls.mono (HA1.out _ _ _ L1.out) ?_
  rintro e X2 ⟨rfl, lx, kx⟩
  have L2 : Hid (Live w w.heap.size X2 ((false || o0) || o1)) := lx
  clear lx kx L1 
  go_wp2_with fail
  refine Calls.mono (HA2.out _ _ _ L2.out) ?_
  rintro e X3 ⟨rfl, lx, kx⟩
  have L3 : Hid (Live w w.heap.size X3 (((false || o0) || o1) || o0)) := lx
  clear lx kx L2 
  go_wp2_with fail
  refine Calls.mono (HA3.out _ _ _ L3.out) ?_
  rintro e X4 ⟨rfl, lx, kx⟩
  have L4 : Hid (Live w w.heap.size X4 ((((false || o0) || o1) || o0) || o1)) := lx
  clear lx kx L3 
  rw [HO.out] at L4
  have c4 := L4.out.cell
  have B0 : Hid (Live w X4.heap.size (X4.alloc (.cells #[.bool false] 26)) false) := Live.make w X4 false L4.out.below
  go_wp2_with fail
  clear c4
  refine Calls.mono (HB0.out _ _ _ B0.out) ?_
  rintro e X5 ⟨rfl, lx, kx⟩
  have B1 : Hid (Live w X4.heap.size X5 (false || false)) := lx
  clear lx kx B0 
  go_wp2_with fail
  refine Calls.mono (HB1.out _ _ _ B1.out) ?_
  rintro e X6 ⟨rfl, lx, kx⟩
  have B2 : Hid (Live w X4.heap.size X6 ((false || false) || false)) := lx
  clear lx kx B1 
  have c4 := B2.out.cell
  simp only [Bool.or_false] at c4
  go_wp2_with fail
  clear c4
  refine Calls.mono (HB2.out _ _ _ B2.out) ?_
  rintro e X7 ⟨rfl, lx, kx⟩
  have B3 : Hid (Live w X4.heap.size X7 (((false || false) || false) || onx)) := lx
  clear lx kx B2 
  go_wp2_with fail
  refine Calls.mono (HB3.out _ _ _ B3.out) ?_
  rintro e X8 ⟨rfl, lx, kx⟩
  have B4 : Hid (Live w X4.heap.size X8 ((((false || false) || false) || onx) || onx)) := lx
  clear lx kx B3 
  have C0 : Hid (Live w X8.heap.size (X8.alloc (.cells #[.bool false] 26)) false) := Live.make w X8 false B4.out.below
  go_wp2_with fail
  refine Calls.mono (HC0.out _ _ _ C0.out) ?_
  rintro e X9 ⟨rfl, lx, kx⟩
  have C1 : Hid (Live w X8.heap.size X9 (false || oq)) := lx
  clear lx kx C0 
  go_wp2_with fail
  refine Calls.mono (HC1.out _ _ _ C1.out) ?_
  rintro e X10 ⟨rfl, lx, kx⟩
  have C2 : Hid (Live w X8.heap.size X10 ((false || oq) || or')) := lx
  clear lx kx C1 
  rw [HO2.out] at C2
  have c4 := C2.out.cell
  have D0 : Hid (Live w X10.heap.size (X10.alloc (.cells #[.bool false] 26)) false) := Live.make w X10 false C2.out.below
  have hne : X8.heap.size ≠ X10.heap.size := by have := C2.out.old; omega
  have C3 : Hid (Live w X8.heap.size (X10.alloc (.cells #[.bool false] 26)) true) := C2.out.alloc _
  go_wp2_with fail
  clear c4 C2
  refine Calls.mono (HD0.out _ _ _ D0.out) ?_
  rintro e X11 ⟨rfl, lx, kx⟩
  have D1 : Hid (Live w X10.heap.size X11 (false || omff)) := lx
  have C4 : Hid (Live w X8.heap.size X11 (true)) := C3.out.kept kx hne D0.out.new
  clear lx kx D0 C3
  go_wp2_with fail
  refine Calls.mono (HD1.out _ _ _ D1.out) ?_
  rintro e X12 ⟨rfl, lx, kx⟩
  have D2 : Hid (Live w X10.heap.size X12 ((false || omff) || omtt)) := lx
  have C5 : Hid (Live w X8.heap.size X12 (true)) := C4.out.kept kx hne D1.out.new
  clear lx kx D1 C4
  go_wp2_with fail
  refine Calls.mono (alive_live C5.out HM.out HP.out) ?_
  rintro e Z ⟨rfl, lz, bz⟩
  have C6 : Hid (Live w X8.heap.size Z true) := lz
  have D3 : Hid (Live w X10.heap.size Z ((false || omff) || omtt)) := D2.out.stays bz
  clear lz bz C5 D2
  have c4 := C6.out.cell
  have c5 := D3.out.cell
  go_wp2
  go_ret
  exact ⟨rfl, D3.out.below⟩
set_option maxHeartbeats 8000000 in
theorem prod_ntft (x y : Int) (w : World) (hm : MaxLenIs w) (ht : PowsAre w) (x1 : -9223372036854775808 ≤ x) (x2 : x ≤ 9223372036854775807) (y1 : -9223372036854775808 ≤ y) (y2 : y ≤ 9223372036854775807) (hO : (overF (mulF x y false) || overF (mulF x y true)) = true) (hy : y < 0) (hO2 : (overF (divF x y false) || overF (divF x y true)) = false) (hO3 : (overF (mulF (clampF (divF x y false)) y false) || overF (mulF (clampF (divF x y true)) y true)) = true) :
    Calls Tryd.prog 6 #[.int .i64 x, .int .i64 y] w fun e w' => e = .returned (.bool true) ∧ Below w.heap.size w w' := by
  have HM : Hid (MaxLenIs w) := hm
  have HP : Hid (PowsAre w) := ht
  clear hm ht
  have HA0 : Hid (∀ A W o, Live w A W o → Calls Tryd.prog 12 #[.pointer (some ⟨A, 0, none⟩), .int .i64 x, .int .i64 y, .bool false] W fun e W' => e = .returned (.int .i64 (clampF (mulF x y false))) ∧ Live w A W' (o || overF (mulF x y false)) ∧ Kept A W W') := fun A W o h => by
    exact mul_live h false x1 x2 y1 y2
  have HA1 : Hid (∀ A W o, Live w A W o → Calls Tryd.prog 12 #[.pointer (some ⟨A, 0, none⟩), .int .i64 x, .int .i64 y, .bool true] W fun e W' => e = .returned (.int .i64 (clampF (mulF x y true))) ∧ Live w A W' (o || overF (mulF x y true)) ∧ Kept A W W') := fun A W o h => by
    exact mul_live h true x1 x2 y1 y2
  have HA2 : Hid (∀ A W o, Live w A W o → Calls Tryd.prog 12 #[.pointer (some ⟨A, 0, none⟩), .int .i64 y, .int .i64 x, .bool false] W fun e W' => e = .returned (.int .i64 (clampF (mulF x y false))) ∧ Live w A W' (o || overF (mulF x y false)) ∧ Kept A W W') := fun A W o h => by
    rw [mulF_comm]; exact mul_live h false y1 y2 x1 x2
  have HA3 : Hid (∀ A W o, Live w A W o → Calls Tryd.prog 12 #[.pointer (some ⟨A, 0, none⟩), .int .i64 y, .int .i64 x, .bool true] W fun e W' => e = .returned (.int .i64 (clampF (mulF x y true))) ∧ Live w A W' (o || overF (mulF x y true)) ∧ Kept A W W') := fun A W o h => by
    rw [mulF_comm]; exact mul_live h true y1 y2 x1 x2
  have HB0 : Hid (∀ A W o, Live w A W o → Calls Tryd.prog 12 #[.pointer (some ⟨A, 0, none⟩), .int .i64 x, .int .i64 4294967296, .bool false] W fun e W' => e = .returned (.int .i64 x) ∧ Live w A W' (o || false) ∧ Kept A W W') := fun A W o h => by
    have t := mul_live h false x1 x2 (y := 4294967296) (by omega) (by omega)
    unfold Says at t; rw [mulF_one, clampF_in x1 x2, overF_in x1 x2] at t; exact t
  have HB1 : Hid (∀ A W o, Live w A W o → Calls Tryd.prog 12 #[.pointer (some ⟨A, 0, none⟩), .int .i64 x, .int .i64 0, .bool true] W fun e W' => e = .returned (.int .i64 0) ∧ Live w A W' (o || false) ∧ Kept A W W') := fun A W o h => by
    have t := mul_live h true x1 x2 (y := 0) (by omega) (by omega)
    unfold Says at t; rw [mulF_zero, clampF_in (by omega) (by omega), overF_in (by omega) (by omega)] at t; exact t
  have HB2 : Hid (∀ A W o, Live w A W o → Calls Tryd.prog 12 #[.pointer (some ⟨A, 0, none⟩), .int .i64 x, .int .i64 (-4294967296), .bool false] W fun e W' => e = .returned (.int .i64 (clampF (-x))) ∧ Live w A W' (o || overF (-x)) ∧ Kept A W W') := fun A W o h => by
    have t := mul_live h false x1 x2 (y := -4294967296) (by omega) (by omega)
    unfold Says at t; rw [mulF_minus] at t; exact t
  have HB3 : Hid (∀ A W o, Live w A W o → Calls Tryd.prog 16 #[.pointer (some ⟨A, 0, none⟩), .int .i64 x] W fun e W' => e = .returned (.int .i64 (clampF (-x))) ∧ Live w A W' (o || overF (-x)) ∧ Kept A W W') := fun A W o h => by
    exact neg_live h x1 x2
  have f1 : clampF (mulF x y false) ≤ clampF (mulF x y true) := clampF_mono (mulF_up x y).1
  have f2 : -9223372036854775808 ≤ clampF (mulF x y false) ∧ clampF (mulF x y true) ≤ 9223372036854775807 := ⟨(clampF_bd _).1, (clampF_bd _).2⟩
  have HO : Hid (((((false || overF (mulF x y false)) || overF (mulF x y true)) || overF (mulF x y false)) || overF (mulF x y true)) = true) := by show _ = _; rw [or4]; exact hO
  clear hO
  have HN : Hid (clampF (-x) = clampF (-x)) := rfl
  have HC0 : Hid (∀ A W o, Live w A W o → Calls Tryd.prog 14 #[.pointer (some ⟨A, 0, none⟩), .int .i64 x, .int .i64 y, .bool false] W fun e W' => e = .returned (.int .i64 (clampF (divF x y false))) ∧ Live w A W' (o || overF (divF x y false)) ∧ Kept A W W') := fun A W o h => by
    exact div_live h false x1 x2 y1 y2 (by omega)
  have HC1 : Hid (∀ A W o, Live w A W o → Calls Tryd.prog 14 #[.pointer (some ⟨A, 0, none⟩), .int .i64 x, .int .i64 y, .bool true] W fun e W' => e = .returned (.int .i64 (clampF (divF x y true))) ∧ Live w A W' (o || overF (divF x y true)) ∧ Kept A W W') := fun A W o h => by
    exact div_live h true x1 x2 y1 y2 (by omega)
  have d1 : clampF (divF x y false) ≤ clampF (divF x y true) := clampF_mono (divF_up x y (by omega)).1
  have d0 := clampF_bd (divF x y false)
  have d9 := clampF_bd (divF x y true)
  have e2 : overF (divF x y false) = false ∧ overF (divF x y true) = false := by rw [Bool.or_eq_false_iff] at hO2; exact hO2
  have d3 : clampF (divF x y true) - clampF (divF x y false) ≤ 1 := by rw [overF_clamp e2.1, overF_clamp e2.2]; have := (divF_up x y (by omega)).2; omega
  have HD0 : Hid (∀ A W o, Live w A W o → Calls Tryd.prog 12 #[.pointer (some ⟨A, 0, none⟩), .int .i64 (clampF (divF x y false)), .int .i64 y, .bool false] W fun e W' => e = .returned (.int .i64 (clampF (mulF (clampF (divF x y false)) y false))) ∧ Live w A W' (o || overF (mulF (clampF (divF x y false)) y false)) ∧ Kept A W W') := fun A W o h => by
    exact mul_live h false d0.1 d0.2 y1 y2
  have HD1 : Hid (∀ A W o, Live w A W o → Calls Tryd.prog 12 #[.pointer (some ⟨A, 0, none⟩), .int .i64 (clampF (divF x y true)), .int .i64 y, .bool true] W fun e W' => e = .returned (.int .i64 (clampF (mulF (clampF (divF x y true)) y true))) ∧ Live w A W' (o || overF (mulF (clampF (divF x y true)) y true)) ∧ Kept A W W') := fun A W o h => by
    exact mul_live h true d9.1 d9.2 y1 y2
  have HD2 : Hid (∀ A W o, Live w A W o → Calls Tryd.prog 12 #[.pointer (some ⟨A, 0, none⟩), .int .i64 (clampF (divF x y false)), .int .i64 y, .bool true] W fun e W' => e = .returned (.int .i64 (clampF (mulF (clampF (divF x y false)) y true))) ∧ Live w A W' (o || overF (mulF (clampF (divF x y false)) y true)) ∧ Kept A W W') := fun A W o h => by
    exact mul_live h true d0.1 d0.2 y1 y2
  have HD3 : Hid (∀ A W o, Live w A W o → Calls Tryd.prog 12 #[.pointer (some ⟨A, 0, none⟩), .int .i64 (clampF (divF x y true)), .int .i64 y, .bool false] W fun e W' => e = .returned (.int .i64 (clampF (mulF (clampF (divF x y true)) y false))) ∧ Live w A W' (o || overF (mulF (clampF (divF x y true)) y false)) ∧ Kept A W W') := fun A W o h => by
    exact mul_live h false d9.1 d9.2 y1 y2
  clear e2
  have HO2 : Hid (((false || overF (divF x y false)) || overF (divF x y true)) = false) := by show _ = _; rw [Bool.false_or]; exact hO2
  clear hO2
  have HO3 : Hid (((false || overF (mulF (clampF (divF x y false)) y false)) || overF (mulF (clampF (divF x y true)) y true)) = true) := by show _ = _; rw [Bool.false_or]; exact hO3
  clear hO3
  generalize clampF (mulF (clampF (divF x y false)) y false) = mff at *
  generalize overF (mulF (clampF (divF x y false)) y false) = omff at *
  generalize clampF (mulF (clampF (divF x y false)) y true) = mft at *
  generalize overF (mulF (clampF (divF x y false)) y true) = omft at *
  generalize clampF (mulF (clampF (divF x y true)) y false) = mtf at *
  generalize overF (mulF (clampF (divF x y true)) y false) = omtf at *
  generalize clampF (mulF (clampF (divF x y true)) y true) = mtt at *
  generalize overF (mulF (clampF (divF x y true)) y true) = omtt at *
  generalize clampF (divF x y false) = q at *
  generalize clampF (divF x y true) = r at *
  generalize overF (divF x y false) = oq at *
  generalize overF (divF x y true) = or' at *
  generalize clampF (mulF x y false) = lo at *
  generalize clampF (mulF x y true) = hi at *
  generalize overF (mulF x y false) = o0 at *
  generalize overF (mulF x y true) = o1 at *
  generalize clampF (-x) = nx at *
  generalize overF (-x) = onx at *
  clear HN
  have hy0 : (y == 0) = false := by rw [beq_eq_false_iff_ne]; omega
  have hyp : decide (0 < y) = false := by simp; omega
  have hyn : decide (y < 0) = true := by simp; omega
  have L0 : Hid (Live w w.heap.size (w.alloc (.cells #[.bool false] 26)) false) := Live.make w w false (Below.refl _ _)
  go_enter Tryd.func6, Tryd.ntmps6
  go_wp2_with fail
  refine Calls.mono (HA0.out _ _ _ L0.out) ?_
  rintro e X1 ⟨rfl, lx, kx⟩
  have L1 : Hid (Live w w.heap.size X1 (false || o0)) := lx
  clear lx kx L0 
  go_wp2_with fail
  refine Calls.mono (HA1.out _ _ _ L1.out) ?_
  rintro e X2 ⟨rfl, lx, kx⟩
  have L2 : Hid (Live w w.heap.size X2 ((false || o0) || o1)) := lx
  clear lx kx L1 
  go_wp2_with fail
  refine Calls.mono (HA2.out _ _ _ L2.out) ?_
  rintro e X3 ⟨rfl, lx, kx⟩
  have L3 : Hid (Live w w.heap.size X3 (((false || o0) || o1) || o0)) := lx
  clear lx kx L2 
  go_wp2_with fail
  refine Calls.mono (HA3.out _ _ _ L3.out) ?_
  rintro e X4 ⟨rfl, lx, kx⟩
  have L4 : Hid (Live w w.heap.size X4 ((((false || o0) || o1) || o0) || o1)) := lx
  clear lx kx L3 
  rw [HO.out] at L4
  have c4 := L4.out.cell
  have B0 : Hid (Live w X4.heap.size (X4.alloc (.cells #[.bool false] 26)) false) := Live.make w X4 false L4.out.below
  go_wp2_with fail
  clear c4
  refine Calls.mono (HB0.out _ _ _ B0.out) ?_
  rintro e X5 ⟨rfl, lx, kx⟩
  have B1 : Hid (Live w X4.heap.size X5 (false || false)) := lx
  clear lx kx B0 
  go_wp2_with fail
  refine Calls.mono (HB1.out _ _ _ B1.out) ?_
  rintro e X6 ⟨rfl, lx, kx⟩
  have B2 : Hid (Live w X4.heap.size X6 ((false || false) || false)) := lx
  clear lx kx B1 
  have c4 := B2.out.cell
  simp only [Bool.or_false] at c4
  go_wp2_with fail
  clear c4
  refine Calls.mono (HB2.out _ _ _ B2.out) ?_
  rintro e X7 ⟨rfl, lx, kx⟩
  have B3 : Hid (Live w X4.heap.size X7 (((false || false) || false) || onx)) := lx
  clear lx kx B2 
  go_wp2_with fail
  refine Calls.mono (HB3.out _ _ _ B3.out) ?_
  rintro e X8 ⟨rfl, lx, kx⟩
  have B4 : Hid (Live w X4.heap.size X8 ((((false || false) || false) || onx) || onx)) := lx
  clear lx kx B3 
  have C0 : Hid (Live w X8.heap.size (X8.alloc (.cells #[.bool false] 26)) false) := Live.make w X8 false B4.out.below
  go_wp2_with fail
  refine Calls.mono (HC0.out _ _ _ C0.out) ?_
  rintro e X9 ⟨rfl, lx, kx⟩
  have C1 : Hid (Live w X8.heap.size X9 (false || oq)) := lx
  clear lx kx C0 
  go_wp2_with fail
  refine Calls.mono (HC1.out _ _ _ C1.out) ?_
  rintro e X10 ⟨rfl, lx, kx⟩
  have C2 : Hid (Live w X8.heap.size X10 ((false || oq) || or')) := lx
  clear lx kx C1 
  rw [HO2.out] at C2
  have c4 := C2.out.cell
  have D0 : Hid (Live w X10.heap.size (X10.alloc (.cells #[.bool false] 26)) false) := Live.make w X10 false C2.out.below
  have hne : X8.heap.size ≠ X10.heap.size := by have := C2.out.old; omega
  have C3 : Hid (Live w X8.heap.size (X10.alloc (.cells #[.bool false] 26)) false) := C2.out.alloc _
  go_wp2_with fail
  clear c4 C2
  refine Calls.mono (HD0.out _ _ _ D0.out) ?_
  rintro e X11 ⟨rfl, lx, kx⟩
  have D1 : Hid (Live w X10.heap.size X11 (false || omff)) := lx
  have C4 : Hid (Live w X8.heap.size X11 (false)) := C3.out.kept kx hne D0.out.new
  clear lx kx D0 C3
  go_wp2_with fail
  refine Calls.mono (HD1.out _ _ _ D1.out) ?_
  rintro e X12 ⟨rfl, lx, kx⟩
  have D2 : Hid (Live w X10.heap.size X12 ((false || omff) || omtt)) := lx
  have C5 : Hid (Live w X8.heap.size X12 (false)) := C4.out.kept kx hne D1.out.new
  clear lx kx D1 C4
  rw [HO3.out] at D2
  go_wp2_with fail
  refine Calls.mono (alive_live C5.out HM.out HP.out) ?_
  rintro e Z ⟨rfl, lz, bz⟩
  have C6 : Hid (Live w X8.heap.size Z false) := lz
  have D3 : Hid (Live w X10.heap.size Z true) := D2.out.stays bz
  clear lz bz C5 D2
  have c4 := C6.out.cell
  have c5 := D3.out.cell
  go_wp2
  go_ret
  exact ⟨rfl, D3.out.below⟩
set_option maxHeartbeats 8000000 in
theorem prod_ntff (x y : Int) (w : World) (hm : MaxLenIs w) (ht : PowsAre w) (x1 : -9223372036854775808 ≤ x) (x2 : x ≤ 9223372036854775807) (y1 : -9223372036854775808 ≤ y) (y2 : y ≤ 9223372036854775807) (hO : (overF (mulF x y false) || overF (mulF x y true)) = true) (hy : y < 0) (hO2 : (overF (divF x y false) || overF (divF x y true)) = false) (hO3 : (overF (mulF (clampF (divF x y false)) y false) || overF (mulF (clampF (divF x y true)) y true)) = false) :
    Calls Tryd.prog 6 #[.int .i64 x, .int .i64 y] w fun e w' => e = .returned (.bool true) ∧ Below w.heap.size w w' := by
  have HM : Hid (MaxLenIs w) := hm
  have HP : Hid (PowsAre w) := ht
  clear hm ht
  have HA0 : Hid (∀ A W o, Live w A W o → Calls Tryd.prog 12 #[.pointer (some ⟨A, 0, none⟩), .int .i64 x, .int .i64 y, .bool false] W fun e W' => e = .returned (.int .i64 (clampF (mulF x y false))) ∧ Live w A W' (o || overF (mulF x y false)) ∧ Kept A W W') := fun A W o h => by
    exact mul_live h false x1 x2 y1 y2
  have HA1 : Hid (∀ A W o, Live w A W o → Calls Tryd.prog 12 #[.pointer (some ⟨A, 0, none⟩), .int .i64 x, .int .i64 y, .bool true] W fun e W' => e = .returned (.int .i64 (clampF (mulF x y true))) ∧ Live w A W' (o || overF (mulF x y true)) ∧ Kept A W W') := fun A W o h => by
    exact mul_live h true x1 x2 y1 y2
  have HA2 : Hid (∀ A W o, Live w A W o → Calls Tryd.prog 12 #[.pointer (some ⟨A, 0, none⟩), .int .i64 y, .int .i64 x, .bool false] W fun e W' => e = .returned (.int .i64 (clampF (mulF x y false))) ∧ Live w A W' (o || overF (mulF x y false)) ∧ Kept A W W') := fun A W o h => by
    rw [mulF_comm]; exact mul_live h false y1 y2 x1 x2
  have HA3 : Hid (∀ A W o, Live w A W o → Calls Tryd.prog 12 #[.pointer (some ⟨A, 0, none⟩), .int .i64 y, .int .i64 x, .bool true] W fun e W' => e = .returned (.int .i64 (clampF (mulF x y true))) ∧ Live w A W' (o || overF (mulF x y true)) ∧ Kept A W W') := fun A W o h => by
    rw [mulF_comm]; exact mul_live h true y1 y2 x1 x2
  have HB0 : Hid (∀ A W o, Live w A W o → Calls Tryd.prog 12 #[.pointer (some ⟨A, 0, none⟩), .int .i64 x, .int .i64 4294967296, .bool false] W fun e W' => e = .returned (.int .i64 x) ∧ Live w A W' (o || false) ∧ Kept A W W') := fun A W o h => by
    have t := mul_live h false x1 x2 (y := 4294967296) (by omega) (by omega)
    unfold Says at t; rw [mulF_one, clampF_in x1 x2, overF_in x1 x2] at t; exact t
  have HB1 : Hid (∀ A W o, Live w A W o → Calls Tryd.prog 12 #[.pointer (some ⟨A, 0, none⟩), .int .i64 x, .int .i64 0, .bool true] W fun e W' => e = .returned (.int .i64 0) ∧ Live w A W' (o || false) ∧ Kept A W W') := fun A W o h => by
    have t := mul_live h true x1 x2 (y := 0) (by omega) (by omega)
    unfold Says at t; rw [mulF_zero, clampF_in (by omega) (by omega), overF_in (by omega) (by omega)] at t; exact t
  have HB2 : Hid (∀ A W o, Live w A W o → Calls Tryd.prog 12 #[.pointer (some ⟨A, 0, none⟩), .int .i64 x, .int .i64 (-4294967296), .bool false] W fun e W' => e = .returned (.int .i64 (clampF (-x))) ∧ Live w A W' (o || overF (-x)) ∧ Kept A W W') := fun A W o h => by
    have t := mul_live h false x1 x2 (y := -4294967296) (by omega) (by omega)
    unfold Says at t; rw [mulF_minus] at t; exact t
  have HB3 : Hid (∀ A W o, Live w A W o → Calls Tryd.prog 16 #[.pointer (some ⟨A, 0, none⟩), .int .i64 x] W fun e W' => e = .returned (.int .i64 (clampF (-x))) ∧ Live w A W' (o || overF (-x)) ∧ Kept A W W') := fun A W o h => by
    exact neg_live h x1 x2
  have f1 : clampF (mulF x y false) ≤ clampF (mulF x y true) := clampF_mono (mulF_up x y).1
  have f2 : -9223372036854775808 ≤ clampF (mulF x y false) ∧ clampF (mulF x y true) ≤ 9223372036854775807 := ⟨(clampF_bd _).1, (clampF_bd _).2⟩
  have HO : Hid (((((false || overF (mulF x y false)) || overF (mulF x y true)) || overF (mulF x y false)) || overF (mulF x y true)) = true) := by show _ = _; rw [or4]; exact hO
  clear hO
  have HN : Hid (clampF (-x) = clampF (-x)) := rfl
  have HC0 : Hid (∀ A W o, Live w A W o → Calls Tryd.prog 14 #[.pointer (some ⟨A, 0, none⟩), .int .i64 x, .int .i64 y, .bool false] W fun e W' => e = .returned (.int .i64 (clampF (divF x y false))) ∧ Live w A W' (o || overF (divF x y false)) ∧ Kept A W W') := fun A W o h => by
    exact div_live h false x1 x2 y1 y2 (by omega)
  have HC1 : Hid (∀ A W o, Live w A W o → Calls Tryd.prog 14 #[.pointer (some ⟨A, 0, none⟩), .int .i64 x, .int .i64 y, .bool true] W fun e W' => e = .returned (.int .i64 (clampF (divF x y true))) ∧ Live w A W' (o || overF (divF x y true)) ∧ Kept A W W') := fun A W o h => by
    exact div_live h true x1 x2 y1 y2 (by omega)
  have d1 : clampF (divF x y false) ≤ clampF (divF x y true) := clampF_mono (divF_up x y (by omega)).1
  have d0 := clampF_bd (divF x y false)
  have d9 := clampF_bd (divF x y true)
  have e2 : overF (divF x y false) = false ∧ overF (divF x y true) = false := by rw [Bool.or_eq_false_iff] at hO2; exact hO2
  have d3 : clampF (divF x y true) - clampF (divF x y false) ≤ 1 := by rw [overF_clamp e2.1, overF_clamp e2.2]; have := (divF_up x y (by omega)).2; omega
  have HD0 : Hid (∀ A W o, Live w A W o → Calls Tryd.prog 12 #[.pointer (some ⟨A, 0, none⟩), .int .i64 (clampF (divF x y false)), .int .i64 y, .bool false] W fun e W' => e = .returned (.int .i64 (clampF (mulF (clampF (divF x y false)) y false))) ∧ Live w A W' (o || overF (mulF (clampF (divF x y false)) y false)) ∧ Kept A W W') := fun A W o h => by
    exact mul_live h false d0.1 d0.2 y1 y2
  have HD1 : Hid (∀ A W o, Live w A W o → Calls Tryd.prog 12 #[.pointer (some ⟨A, 0, none⟩), .int .i64 (clampF (divF x y true)), .int .i64 y, .bool true] W fun e W' => e = .returned (.int .i64 (clampF (mulF (clampF (divF x y true)) y true))) ∧ Live w A W' (o || overF (mulF (clampF (divF x y true)) y true)) ∧ Kept A W W') := fun A W o h => by
    exact mul_live h true d9.1 d9.2 y1 y2
  have HD2 : Hid (∀ A W o, Live w A W o → Calls Tryd.prog 12 #[.pointer (some ⟨A, 0, none⟩), .int .i64 (clampF (divF x y false)), .int .i64 y, .bool true] W fun e W' => e = .returned (.int .i64 (clampF (mulF (clampF (divF x y false)) y true))) ∧ Live w A W' (o || overF (mulF (clampF (divF x y false)) y true)) ∧ Kept A W W') := fun A W o h => by
    exact mul_live h true d0.1 d0.2 y1 y2
  have HD3 : Hid (∀ A W o, Live w A W o → Calls Tryd.prog 12 #[.pointer (some ⟨A, 0, none⟩), .int .i64 (clampF (divF x y true)), .int .i64 y, .bool false] W fun e W' => e = .returned (.int .i64 (clampF (mulF (clampF (divF x y true)) y false))) ∧ Live w A W' (o || overF (mulF (clampF (divF x y true)) y false)) ∧ Kept A W W') := fun A W o h => by
    exact mul_live h false d9.1 d9.2 y1 y2
  have cx : clampF x = x := clampF_in x1 x2
  have k1 : x ≤ clampF (mulF (clampF (divF x y false)) y true) := by rw [overF_clamp e2.1]; have := clampF_mono (mul_back_ge _ y x (div_neg x y hy).1 true); omega
  have k2 : clampF (mulF (clampF (divF x y true)) y false) ≤ x := by rw [overF_clamp e2.2]; have := clampF_mono (mul_back_le _ y x (div_neg x y hy).2 false); omega
  have k3 : clampF (mulF (clampF (divF x y true)) y true) ≤ x := by rw [overF_clamp e2.2]; have := clampF_mono (mul_back_le _ y x (div_neg x y hy).2 true); omega
  clear cx
  clear e2
  have HO2 : Hid (((false || overF (divF x y false)) || overF (divF x y true)) = false) := by show _ = _; rw [Bool.false_or]; exact hO2
  clear hO2
  have HO3 : Hid (((false || overF (mulF (clampF (divF x y false)) y false)) || overF (mulF (clampF (divF x y true)) y true)) = false) := by show _ = _; rw [Bool.false_or]; exact hO3
  clear hO3
  generalize clampF (mulF (clampF (divF x y false)) y false) = mff at *
  generalize overF (mulF (clampF (divF x y false)) y false) = omff at *
  generalize clampF (mulF (clampF (divF x y false)) y true) = mft at *
  generalize overF (mulF (clampF (divF x y false)) y true) = omft at *
  generalize clampF (mulF (clampF (divF x y true)) y false) = mtf at *
  generalize overF (mulF (clampF (divF x y true)) y false) = omtf at *
  generalize clampF (mulF (clampF (divF x y true)) y true) = mtt at *
  generalize overF (mulF (clampF (divF x y true)) y true) = omtt at *
  generalize clampF (divF x y false) = q at *
  generalize clampF (divF x y true) = r at *
  generalize overF (divF x y false) = oq at *
  generalize overF (divF x y true) = or' at *
  generalize clampF (mulF x y false) = lo at *
  generalize clampF (mulF x y true) = hi at *
  generalize overF (mulF x y false) = o0 at *
  generalize overF (mulF x y true) = o1 at *
  generalize clampF (-x) = nx at *
  generalize overF (-x) = onx at *
  clear HN
  have hy0 : (y == 0) = false := by rw [beq_eq_false_iff_ne]; omega
  have hyp : decide (0 < y) = false := by simp; omega
  have hyn : decide (y < 0) = true := by simp; omega
  have L0 : Hid (Live w w.heap.size (w.alloc (.cells #[.bool false] 26)) false) := Live.make w w false (Below.refl _ _)
  go_enter Tryd.func6, Tryd.ntmps6
  go_wp2_with fail
  refine Calls.mono (HA0.out _ _ _ L0.out) ?_
  rintro e X1 ⟨rfl, lx, kx⟩
  have L1 : Hid (Live w w.heap.size X1 (false || o0)) := lx
  clear lx kx L0 
  go_wp2_with fail
  refine Calls.mono (HA1.out _ _ _ L1.out) ?_
  rintro e X2 ⟨rfl, lx, kx⟩
  have L2 : Hid (Live w w.heap.size X2 ((false || o0) || o1)) := lx
  clear lx kx L1 
  go_wp2_with fail
  refine Calls.mono (HA2.out _ _ _ L2.out) ?_
  rintro e X3 ⟨rfl, lx, kx⟩
  have L3 : Hid (Live w w.heap.size X3 (((false || o0) || o1) || o0)) := lx
  clear lx kx L2 
  go_wp2_with fail
  refine Calls.mono (HA3.out _ _ _ L3.out) ?_
  rintro e X4 ⟨rfl, lx, kx⟩
  have L4 : Hid (Live w w.heap.size X4 ((((false || o0) || o1) || o0) || o1)) := lx
  clear lx kx L3 
  rw [HO.out] at L4
  have c4 := L4.out.cell
  have B0 : Hid (Live w X4.heap.size (X4.alloc (.cells #[.bool false] 26)) false) := Live.make w X4 false L4.out.below
  go_wp2_with fail
  clear c4
  refine Calls.mono (HB0.out _ _ _ B0.out) ?_
  rintro e X5 ⟨rfl, lx, kx⟩
  have B1 : Hid (Live w X4.heap.size X5 (false || false)) := lx
  clear lx kx B0 
  go_wp2_with fail
  refine Calls.mono (HB1.out _ _ _ B1.out) ?_
  rintro e X6 ⟨rfl, lx, kx⟩
  have B2 : Hid (Live w X4.heap.size X6 ((false || false) || false)) := lx
  clear lx kx B1 
  have c4 := B2.out.cell
  simp only [Bool.or_false] at c4
  go_wp2_with fail
  clear c4
  refine Calls.mono (HB2.out _ _ _ B2.out) ?_
  rintro e X7 ⟨rfl, lx, kx⟩
  have B3 : Hid (Live w X4.heap.size X7 (((false || false) || false) || onx)) := lx
  clear lx kx B2 
  go_wp2_with fail
  refine Calls.mono (HB3.out _ _ _ B3.out) ?_
  rintro e X8 ⟨rfl, lx, kx⟩
  have B4 : Hid (Live w X4.heap.size X8 ((((false || false) || false) || onx) || onx)) := lx
  clear lx kx B3 
  have C0 : Hid (Live w X8.heap.size (X8.alloc (.cells #[.bool false] 26)) false) := Live.make w X8 false B4.out.below
  go_wp2_with fail
  refine Calls.mono (HC0.out _ _ _ C0.out) ?_
  rintro e X9 ⟨rfl, lx, kx⟩
  have C1 : Hid (Live w X8.heap.size X9 (false || oq)) := lx
  clear lx kx C0 
  go_wp2_with fail
  refine Calls.mono (HC1.out _ _ _ C1.out) ?_
  rintro e X10 ⟨rfl, lx, kx⟩
  have C2 : Hid (Live w X8.heap.size X10 ((false || oq) || or')) := lx
  clear lx kx C1 
  rw [HO2.out] at C2
  have c4 := C2.out.cell
  have D0 : Hid (Live w X10.heap.size (X10.alloc (.cells #[.bool false] 26)) false) := Live.make w X10 false C2.out.below
  have hne : X8.heap.size ≠ X10.heap.size := by have := C2.out.old; omega
  have C3 : Hid (Live w X8.heap.size (X10.alloc (.cells #[.bool false] 26)) false) := C2.out.alloc _
  go_wp2_with fail
  clear c4 C2
  refine Calls.mono (HD0.out _ _ _ D0.out) ?_
  rintro e X11 ⟨rfl, lx, kx⟩
  have D1 : Hid (Live w X10.heap.size X11 (false || omff)) := lx
  have C4 : Hid (Live w X8.heap.size X11 (false)) := C3.out.kept kx hne D0.out.new
  clear lx kx D0 C3
  go_wp2_with fail
  refine Calls.mono (HD1.out _ _ _ D1.out) ?_
  rintro e X12 ⟨rfl, lx, kx⟩
  have D2 : Hid (Live w X10.heap.size X12 ((false || omff) || omtt)) := lx
  have C5 : Hid (Live w X8.heap.size X12 (false)) := C4.out.kept kx hne D1.out.new
  clear lx kx D1 C4
  rw [HO3.out] at D2
  go_wp2_with fail
  refine Calls.mono (alive_live C5.out HM.out HP.out) ?_
  rintro e Z ⟨rfl, lz, bz⟩
  have C6 : Hid (Live w X8.heap.size Z false) := lz
  have D3 : Hid (Live w X10.heap.size Z false) := D2.out.stays bz
  clear lz bz C5 D2
  have c4 := C6.out.cell
  have c5 := D3.out.cell
  go_wp2_with fail
  clear c4 c5
  refine Calls.mono (HD2.out _ _ _ D3.out) ?_
  rintro e X13 ⟨rfl, lx, kx⟩
  have D4 : Hid (Live w X10.heap.size X13 (false || omft)) := lx
  clear lx kx D3 
  go_wp2_with fail
  refine Calls.mono (HD3.out _ _ _ D4.out) ?_
  rintro e X14 ⟨rfl, lx, kx⟩
  have D5 : Hid (Live w X10.heap.size X14 ((false || omft) || omtf)) := lx
  clear lx kx D4 
  go_wp2
  go_ret
  exact ⟨rfl, D5.out.below⟩
set_option maxHeartbeats 8000000 in
theorem prod_nft (x y : Int) (w : World) (hm : MaxLenIs w) (ht : PowsAre w) (x1 : -9223372036854775808 ≤ x) (x2 : x ≤ 9223372036854775807) (y1 : -9223372036854775808 ≤ y) (y2 : y ≤ 9223372036854775807) (hO : (overF (mulF x y false) || overF (mulF x y true)) = false) (hy : y < 0) (hO2 : (overF (divF x y false) || overF (divF x y true)) = true) :
    Calls Tryd.prog 6 #[.int .i64 x, .int .i64 y] w fun e w' => e = .returned (.bool true) ∧ Below w.heap.size w w' := by
  have HM : Hid (MaxLenIs w) := hm
  have HP : Hid (PowsAre w) := ht
  clear hm ht
  have HA0 : Hid (∀ A W o, Live w A W o → Calls Tryd.prog 12 #[.pointer (some ⟨A, 0, none⟩), .int .i64 x, .int .i64 y, .bool false] W fun e W' => e = .returned (.int .i64 (clampF (mulF x y false))) ∧ Live w A W' (o || overF (mulF x y false)) ∧ Kept A W W') := fun A W o h => by
    exact mul_live h false x1 x2 y1 y2
  have HA1 : Hid (∀ A W o, Live w A W o → Calls Tryd.prog 12 #[.pointer (some ⟨A, 0, none⟩), .int .i64 x, .int .i64 y, .bool true] W fun e W' => e = .returned (.int .i64 (clampF (mulF x y true))) ∧ Live w A W' (o || overF (mulF x y true)) ∧ Kept A W W') := fun A W o h => by
    exact mul_live h true x1 x2 y1 y2
  have HA2 : Hid (∀ A W o, Live w A W o → Calls Tryd.prog 12 #[.pointer (some ⟨A, 0, none⟩), .int .i64 y, .int .i64 x, .bool false] W fun e W' => e = .returned (.int .i64 (clampF (mulF x y false))) ∧ Live w A W' (o || overF (mulF x y false)) ∧ Kept A W W') := fun A W o h => by
    rw [mulF_comm]; exact mul_live h false y1 y2 x1 x2
  have HA3 : Hid (∀ A W o, Live w A W o → Calls Tryd.prog 12 #[.pointer (some ⟨A, 0, none⟩), .int .i64 y, .int .i64 x, .bool true] W fun e W' => e = .returned (.int .i64 (clampF (mulF x y true))) ∧ Live w A W' (o || overF (mulF x y true)) ∧ Kept A W W') := fun A W o h => by
    rw [mulF_comm]; exact mul_live h true y1 y2 x1 x2
  have HB0 : Hid (∀ A W o, Live w A W o → Calls Tryd.prog 12 #[.pointer (some ⟨A, 0, none⟩), .int .i64 x, .int .i64 4294967296, .bool false] W fun e W' => e = .returned (.int .i64 x) ∧ Live w A W' (o || false) ∧ Kept A W W') := fun A W o h => by
    have t := mul_live h false x1 x2 (y := 4294967296) (by omega) (by omega)
    unfold Says at t; rw [mulF_one, clampF_in x1 x2, overF_in x1 x2] at t; exact t
  have HB1 : Hid (∀ A W o, Live w A W o → Calls Tryd.prog 12 #[.pointer (some ⟨A, 0, none⟩), .int .i64 x, .int .i64 0, .bool true] W fun e W' => e = .returned (.int .i64 0) ∧ Live w A W' (o || false) ∧ Kept A W W') := fun A W o h => by
    have t := mul_live h true x1 x2 (y := 0) (by omega) (by omega)
    unfold Says at t; rw [mulF_zero, clampF_in (by omega) (by omega), overF_in (by omega) (by omega)] at t; exact t
  have HB2 : Hid (∀ A W o, Live w A W o → Calls Tryd.prog 12 #[.pointer (some ⟨A, 0, none⟩), .int .i64 x, .int .i64 (-4294967296), .bool false] W fun e W' => e = .returned (.int .i64 (clampF (-x))) ∧ Live w A W' (o || overF (-x)) ∧ Kept A W W') := fun A W o h => by
    have t := mul_live h false x1 x2 (y := -4294967296) (by omega) (by omega)
    unfold Says at t; rw [mulF_minus] at t; exact t
  have HB3 : Hid (∀ A W o, Live w A W o → Calls Tryd.prog 16 #[.pointer (some ⟨A, 0, none⟩), .int .i64 x] W fun e W' => e = .returned (.int .i64 (clampF (-x))) ∧ Live w A W' (o || overF (-x)) ∧ Kept A W W') := fun A W o h => by
    exact neg_live h x1 x2
  have f1 : clampF (mulF x y false) ≤ clampF (mulF x y true) := clampF_mono (mulF_up x y).1
  have f2 : -9223372036854775808 ≤ clampF (mulF x y false) ∧ clampF (mulF x y true) ≤ 9223372036854775807 := ⟨(clampF_bd _).1, (clampF_bd _).2⟩
  have f3 : clampF (mulF x y true) - clampF (mulF x y false) ≤ 1 := by
    rw [Bool.or_eq_false_iff] at hO
    rw [overF_clamp hO.1, overF_clamp hO.2]; have := (mulF_up x y).2; omega
  have HO : Hid (((((false || overF (mulF x y false)) || overF (mulF x y true)) || overF (mulF x y false)) || overF (mulF x y true)) = false) := by show _ = _; rw [or4]; exact hO
  clear hO
  have HN : Hid (clampF (-x) = clampF (-x)) := rfl
  have HC0 : Hid (∀ A W o, Live w A W o → Calls Tryd.prog 14 #[.pointer (some ⟨A, 0, none⟩), .int .i64 x, .int .i64 y, .bool false] W fun e W' => e = .returned (.int .i64 (clampF (divF x y false))) ∧ Live w A W' (o || overF (divF x y false)) ∧ Kept A W W') := fun A W o h => by
    exact div_live h false x1 x2 y1 y2 (by omega)
  have HC1 : Hid (∀ A W o, Live w A W o → Calls Tryd.prog 14 #[.pointer (some ⟨A, 0, none⟩), .int .i64 x, .int .i64 y, .bool true] W fun e W' => e = .returned (.int .i64 (clampF (divF x y true))) ∧ Live w A W' (o || overF (divF x y true)) ∧ Kept A W W') := fun A W o h => by
    exact div_live h true x1 x2 y1 y2 (by omega)
  have d1 : clampF (divF x y false) ≤ clampF (divF x y true) := clampF_mono (divF_up x y (by omega)).1
  have d0 := clampF_bd (divF x y false)
  have d9 := clampF_bd (divF x y true)
  have HD0 : Hid (∀ A W o, Live w A W o → Calls Tryd.prog 12 #[.pointer (some ⟨A, 0, none⟩), .int .i64 (clampF (divF x y false)), .int .i64 y, .bool false] W fun e W' => e = .returned (.int .i64 (clampF (mulF (clampF (divF x y false)) y false))) ∧ Live w A W' (o || overF (mulF (clampF (divF x y false)) y false)) ∧ Kept A W W') := fun A W o h => by
    exact mul_live h false d0.1 d0.2 y1 y2
  have HD1 : Hid (∀ A W o, Live w A W o → Calls Tryd.prog 12 #[.pointer (some ⟨A, 0, none⟩), .int .i64 (clampF (divF x y true)), .int .i64 y, .bool true] W fun e W' => e = .returned (.int .i64 (clampF (mulF (clampF (divF x y true)) y true))) ∧ Live w A W' (o || overF (mulF (clampF (divF x y true)) y true)) ∧ Kept A W W') := fun A W o h => by
    exact mul_live h true d9.1 d9.2 y1 y2
  have HD2 : Hid (∀ A W o, Live w A W o → Calls Tryd.prog 12 #[.pointer (some ⟨A, 0, none⟩), .int .i64 (clampF (divF x y false)), .int .i64 y, .bool true] W fun e W' => e = .returned (.int .i64 (clampF (mulF (clampF (divF x y false)) y true))) ∧ Live w A W' (o || overF (mulF (clampF (divF x y false)) y true)) ∧ Kept A W W') := fun A W o h => by
    exact mul_live h true d0.1 d0.2 y1 y2
  have HD3 : Hid (∀ A W o, Live w A W o → Calls Tryd.prog 12 #[.pointer (some ⟨A, 0, none⟩), .int .i64 (clampF (divF x y true)), .int .i64 y, .bool false] W fun e W' => e = .returned (.int .i64 (clampF (mulF (clampF (divF x y true)) y false))) ∧ Live w A W' (o || overF (mulF (clampF (divF x y true)) y false)) ∧ Kept A W W') := fun A W o h => by
    exact mul_live h false d9.1 d9.2 y1 y2
  have HO2 : Hid (((false || overF (divF x y false)) || overF (divF x y true)) = true) := by show _ = _; rw [Bool.false_or]; exact hO2
  clear hO2
  generalize clampF (mulF (clampF (divF x y false)) y false) = mff at *
  generalize overF (mulF (clampF (divF x y false)) y false) = omff at *
  generalize clampF (mulF (clampF (divF x y false)) y true) = mft at *
  generalize overF (mulF (clampF (divF x y false)) y true) = omft at *
  generalize clampF (mulF (clampF (divF x y true)) y false) = mtf at *
  generalize overF (mulF (clampF (divF x y true)) y false) = omtf at *
  generalize clampF (mulF (clampF (divF x y true)) y true) = mtt at *
  generalize overF (mulF (clampF (divF x y true)) y true) = omtt at *
  generalize clampF (divF x y false) = q at *
  generalize clampF (divF x y true) = r at *
  generalize overF (divF x y false) = oq at *
  generalize overF (divF x y true) = or' at *
  generalize clampF (mulF x y false) = lo at *
  generalize clampF (mulF x y true) = hi at *
  generalize overF (mulF x y false) = o0 at *
  generalize overF (mulF x y true) = o1 at *
  generalize clampF (-x) = nx at *
  generalize overF (-x) = onx at *
  clear HN
  have hy0 : (y == 0) = false := by rw [beq_eq_false_iff_ne]; omega
  have hyp : decide (0 < y) = false := by simp; omega
  have hyn : decide (y < 0) = true := by simp; omega
  have L0 : Hid (Live w w.heap.size (w.alloc (.cells #[.bool false] 26)) false) := Live.make w w false (Below.refl _ _)
  go_enter Tryd.func6, Tryd.ntmps6
  go_wp2_with fail
  refine Calls.mono (HA0.out _ _ _ L0.out) ?_
  rintro e X1 ⟨rfl, lx, kx⟩
  have L1 : Hid (Live w w.heap.size X1 (false || o0)) := lx
  clear lx kx L0 
  go_wp2_with fail
  refine Calls.mono (HA1.out _ _ _ L1.out) ?_
  rintro e X2 ⟨rfl, lx, kx⟩
  have L2 : Hid (Live w w.heap.size X2 ((false || o0) || o1)) := lx
  clear lx kx L1 
  go_wp2_with fail
  refine Calls.mono (HA2.out _ _ _ L2.out) ?_
  rintro e X3 ⟨rfl, lx, kx⟩
  have L3 : Hid (Live w w.heap.size X3 (((false || o0) || o1) || o0)) := lx
  clear lx kx L2 
  go_wp2_with fail
  refine Calls.mono (HA3.out _ _ _ L3.out) ?_
  rintro e X4 ⟨rfl, lx, kx⟩
  have L4 : Hid (Live w w.heap.size X4 ((((false || o0) || o1) || o0) || o1)) := lx
  clear lx kx L3 
  rw [HO.out] at L4
  have c4 := L4.out.cell
  have B0 : Hid (Live w X4.heap.size (X4.alloc (.cells #[.bool false] 26)) false) := Live.make w X4 false L4.out.below
  go_wp2_with fail
  clear c4
  refine Calls.mono (HB0.out _ _ _ B0.out) ?_
  rintro e X5 ⟨rfl, lx, kx⟩
  have B1 : Hid (Live w X4.heap.size X5 (false || false)) := lx
  clear lx kx B0 
  go_wp2_with fail
  refine Calls.mono (HB1.out _ _ _ B1.out) ?_
  rintro e X6 ⟨rfl, lx, kx⟩
  have B2 : Hid (Live w X4.heap.size X6 ((false || false) || false)) := lx
  clear lx kx B1 
  have c4 := B2.out.cell
  simp only [Bool.or_false] at c4
  go_wp2_with fail
  clear c4
  refine Calls.mono (HB2.out _ _ _ B2.out) ?_
  rintro e X7 ⟨rfl, lx, kx⟩
  have B3 : Hid (Live w X4.heap.size X7 (((false || false) || false) || onx)) := lx
  clear lx kx B2 
  go_wp2_with fail
  refine Calls.mono (HB3.out _ _ _ B3.out) ?_
  rintro e X8 ⟨rfl, lx, kx⟩
  have B4 : Hid (Live w X4.heap.size X8 ((((false || false) || false) || onx) || onx)) := lx
  clear lx kx B3 
  have C0 : Hid (Live w X8.heap.size (X8.alloc (.cells #[.bool false] 26)) false) := Live.make w X8 false B4.out.below
  go_wp2_with fail
  refine Calls.mono (HC0.out _ _ _ C0.out) ?_
  rintro e X9 ⟨rfl, lx, kx⟩
  have C1 : Hid (Live w X8.heap.size X9 (false || oq)) := lx
  clear lx kx C0 
  go_wp2_with fail
  refine Calls.mono (HC1.out _ _ _ C1.out) ?_
  rintro e X10 ⟨rfl, lx, kx⟩
  have C2 : Hid (Live w X8.heap.size X10 ((false || oq) || or')) := lx
  clear lx kx C1 
  rw [HO2.out] at C2
  have c4 := C2.out.cell
  have D0 : Hid (Live w X10.heap.size (X10.alloc (.cells #[.bool false] 26)) false) := Live.make w X10 false C2.out.below
  have hne : X8.heap.size ≠ X10.heap.size := by have := C2.out.old; omega
  have C3 : Hid (Live w X8.heap.size (X10.alloc (.cells #[.bool false] 26)) true) := C2.out.alloc _
  go_wp2_with fail
  clear c4 C2
  refine Calls.mono (HD0.out _ _ _ D0.out) ?_
  rintro e X11 ⟨rfl, lx, kx⟩
  have D1 : Hid (Live w X10.heap.size X11 (false || omff)) := lx
  have C4 : Hid (Live w X8.heap.size X11 (true)) := C3.out.kept kx hne D0.out.new
  clear lx kx D0 C3
  go_wp2_with fail
  refine Calls.mono (HD1.out _ _ _ D1.out) ?_
  rintro e X12 ⟨rfl, lx, kx⟩
  have D2 : Hid (Live w X10.heap.size X12 ((false || omff) || omtt)) := lx
  have C5 : Hid (Live w X8.heap.size X12 (true)) := C4.out.kept kx hne D1.out.new
  clear lx kx D1 C4
  go_wp2_with fail
  refine Calls.mono (alive_live C5.out HM.out HP.out) ?_
  rintro e Z ⟨rfl, lz, bz⟩
  have C6 : Hid (Live w X8.heap.size Z true) := lz
  have D3 : Hid (Live w X10.heap.size Z ((false || omff) || omtt)) := D2.out.stays bz
  clear lz bz C5 D2
  have c4 := C6.out.cell
  have c5 := D3.out.cell
  go_wp2
  go_ret
  exact ⟨rfl, D3.out.below⟩
set_option maxHeartbeats 8000000 in
theorem prod_nfft (x y : Int) (w : World) (hm : MaxLenIs w) (ht : PowsAre w) (x1 : -9223372036854775808 ≤ x) (x2 : x ≤ 9223372036854775807) (y1 : -9223372036854775808 ≤ y) (y2 : y ≤ 9223372036854775807) (hO : (overF (mulF x y false) || overF (mulF x y true)) = false) (hy : y < 0) (hO2 : (overF (divF x y false) || overF (divF x y true)) = false) (hO3 : (overF (mulF (clampF (divF x y false)) y false) || overF (mulF (clampF (divF x y true)) y true)) = true) :
    Calls Tryd.prog 6 #[.int .i64 x, .int .i64 y] w fun e w' => e = .returned (.bool true) ∧ Below w.heap.size w w' := by
  have HM : Hid (MaxLenIs w) := hm
  have HP : Hid (PowsAre w) := ht
  clear hm ht
  have HA0 : Hid (∀ A W o, Live w A W o → Calls Tryd.prog 12 #[.pointer (some ⟨A, 0, none⟩), .int .i64 x, .int .i64 y, .bool false] W fun e W' => e = .returned (.int .i64 (clampF (mulF x y false))) ∧ Live w A W' (o || overF (mulF x y false)) ∧ Kept A W W') := fun A W o h => by
    exact mul_live h false x1 x2 y1 y2
  have HA1 : Hid (∀ A W o, Live w A W o → Calls Tryd.prog 12 #[.pointer (some ⟨A, 0, none⟩), .int .i64 x, .int .i64 y, .bool true] W fun e W' => e = .returned (.int .i64 (clampF (mulF x y true))) ∧ Live w A W' (o || overF (mulF x y true)) ∧ Kept A W W') := fun A W o h => by
    exact mul_live h true x1 x2 y1 y2
  have HA2 : Hid (∀ A W o, Live w A W o → Calls Tryd.prog 12 #[.pointer (some ⟨A, 0, none⟩), .int .i64 y, .int .i64 x, .bool false] W fun e W' => e = .returned (.int .i64 (clampF (mulF x y false))) ∧ Live w A W' (o || overF (mulF x y false)) ∧ Kept A W W') := fun A W o h => by
    rw [mulF_comm]; exact mul_live h false y1 y2 x1 x2
  have HA3 : Hid (∀ A W o, Live w A W o → Calls Tryd.prog 12 #[.pointer (some ⟨A, 0, none⟩), .int .i64 y, .int .i64 x, .bool true] W fun e W' => e = .returned (.int .i64 (clampF (mulF x y true))) ∧ Live w A W' (o || overF (mulF x y true)) ∧ Kept A W W') := fun A W o h => by
    rw [mulF_comm]; exact mul_live h true y1 y2 x1 x2
  have HB0 : Hid (∀ A W o, Live w A W o → Calls Tryd.prog 12 #[.pointer (some ⟨A, 0, none⟩), .int .i64 x, .int .i64 4294967296, .bool false] W fun e W' => e = .returned (.int .i64 x) ∧ Live w A W' (o || false) ∧ Kept A W W') := fun A W o h => by
    have t := mul_live h false x1 x2 (y := 4294967296) (by omega) (by omega)
    unfold Says at t; rw [mulF_one, clampF_in x1 x2, overF_in x1 x2] at t; exact t
  have HB1 : Hid (∀ A W o, Live w A W o → Calls Tryd.prog 12 #[.pointer (some ⟨A, 0, none⟩), .int .i64 x, .int .i64 0, .bool true] W fun e W' => e = .returned (.int .i64 0) ∧ Live w A W' (o || false) ∧ Kept A W W') := fun A W o h => by
    have t := mul_live h true x1 x2 (y := 0) (by omega) (by omega)
    unfold Says at t; rw [mulF_zero, clampF_in (by omega) (by omega), overF_in (by omega) (by omega)] at t; exact t
  have HB2 : Hid (∀ A W o, Live w A W o → Calls Tryd.prog 12 #[.pointer (some ⟨A, 0, none⟩), .int .i64 x, .int .i64 (-4294967296), .bool false] W fun e W' => e = .returned (.int .i64 (clampF (-x))) ∧ Live w A W' (o || overF (-x)) ∧ Kept A W W') := fun A W o h => by
    have t := mul_live h false x1 x2 (y := -4294967296) (by omega) (by omega)
    unfold Says at t; rw [mulF_minus] at t; exact t
  have HB3 : Hid (∀ A W o, Live w A W o → Calls Tryd.prog 16 #[.pointer (some ⟨A, 0, none⟩), .int .i64 x] W fun e W' => e = .returned (.int .i64 (clampF (-x))) ∧ Live w A W' (o || overF (-x)) ∧ Kept A W W') := fun A W o h => by
    exact neg_live h x1 x2
  have f1 : clampF (mulF x y false) ≤ clampF (mulF x y true) := clampF_mono (mulF_up x y).1
  have f2 : -9223372036854775808 ≤ clampF (mulF x y false) ∧ clampF (mulF x y true) ≤ 9223372036854775807 := ⟨(clampF_bd _).1, (clampF_bd _).2⟩
  have f3 : clampF (mulF x y true) - clampF (mulF x y false) ≤ 1 := by
    rw [Bool.or_eq_false_iff] at hO
    rw [overF_clamp hO.1, overF_clamp hO.2]; have := (mulF_up x y).2; omega
  have HO : Hid (((((false || overF (mulF x y false)) || overF (mulF x y true)) || overF (mulF x y false)) || overF (mulF x y true)) = false) := by show _ = _; rw [or4]; exact hO
  clear hO
  have HN : Hid (clampF (-x) = clampF (-x)) := rfl
  have HC0 : Hid (∀ A W o, Live w A W o → Calls Tryd.prog 14 #[.pointer (some ⟨A, 0, none⟩), .int .i64 x, .int .i64 y, .bool false] W fun e W' => e = .returned (.int .i64 (clampF (divF x y false))) ∧ Live w A W' (o || overF (divF x y false)) ∧ Kept A W W') := fun A W o h => by
    exact div_live h false x1 x2 y1 y2 (by omega)
  have HC1 : Hid (∀ A W o, Live w A W o → Calls Tryd.prog 14 #[.pointer (some ⟨A, 0, none⟩), .int .i64 x, .int .i64 y, .bool true] W fun e W' => e = .returned (.int .i64 (clampF (divF x y true))) ∧ Live w A W' (o || overF (divF x y true)) ∧ Kept A W W') := fun A W o h => by
    exact div_live h true x1 x2 y1 y2 (by omega)
  have d1 : clampF (divF x y false) ≤ clampF (divF x y true) := clampF_mono (divF_up x y (by omega)).1
  have d0 := clampF_bd (divF x y false)
  have d9 := clampF_bd (divF x y true)
  have e2 : overF (divF x y false) = false ∧ overF (divF x y true) = false := by rw [Bool.or_eq_false_iff] at hO2; exact hO2
  have d3 : clampF (divF x y true) - clampF (divF x y false) ≤ 1 := by rw [overF_clamp e2.1, overF_clamp e2.2]; have := (divF_up x y (by omega)).2; omega
  have HD0 : Hid (∀ A W o, Live w A W o → Calls Tryd.prog 12 #[.pointer (some ⟨A, 0, none⟩), .int .i64 (clampF (divF x y false)), .int .i64 y, .bool false] W fun e W' => e = .returned (.int .i64 (clampF (mulF (clampF (divF x y false)) y false))) ∧ Live w A W' (o || overF (mulF (clampF (divF x y false)) y false)) ∧ Kept A W W') := fun A W o h => by
    exact mul_live h false d0.1 d0.2 y1 y2
  have HD1 : Hid (∀ A W o, Live w A W o → Calls Tryd.prog 12 #[.pointer (some ⟨A, 0, none⟩), .int .i64 (clampF (divF x y true)), .int .i64 y, .bool true] W fun e W' => e = .returned (.int .i64 (clampF (mulF (clampF (divF x y true)) y true))) ∧ Live w A W' (o || overF (mulF (clampF (divF x y true)) y true)) ∧ Kept A W W') := fun A W o h => by
    exact mul_live h true d9.1 d9.2 y1 y2
  have HD2 : Hid (∀ A W o, Live w A W o → Calls Tryd.prog 12 #[.pointer (some ⟨A, 0, none⟩), .int .i64 (clampF (divF x y false)), .int .i64 y, .bool true] W fun e W' => e = .returned (.int .i64 (clampF (mulF (clampF (divF x y false)) y true))) ∧ Live w A W' (o || overF (mulF (clampF (divF x y false)) y true)) ∧ Kept A W W') := fun A W o h => by
    exact mul_live h true d0.1 d0.2 y1 y2
  have HD3 : Hid (∀ A W o, Live w A W o → Calls Tryd.prog 12 #[.pointer (some ⟨A, 0, none⟩), .int .i64 (clampF (divF x y true)), .int .i64 y, .bool false] W fun e W' => e = .returned (.int .i64 (clampF (mulF (clampF (divF x y true)) y false))) ∧ Live w A W' (o || overF (mulF (clampF (divF x y true)) y false)) ∧ Kept A W W') := fun A W o h => by
    exact mul_live h false d9.1 d9.2 y1 y2
  clear e2
  have HO2 : Hid (((false || overF (divF x y false)) || overF (divF x y true)) = false) := by show _ = _; rw [Bool.false_or]; exact hO2
  clear hO2
  have HO3 : Hid (((false || overF (mulF (clampF (divF x y false)) y false)) || overF (mulF (clampF (divF x y true)) y true)) = true) := by show _ = _; rw [Bool.false_or]; exact hO3
  clear hO3
  generalize clampF (mulF (clampF (divF x y false)) y false) = mff at *
  generalize overF (mulF (clampF (divF x y false)) y false) = omff at *
  generalize clampF (mulF (clampF (divF x y false)) y true) = mft at *
  generalize overF (mulF (clampF (divF x y false)) y true) = omft at *
  generalize clampF (mulF (clampF (divF x y true)) y false) = mtf at *
  generalize overF (mulF (clampF (divF x y true)) y false) = omtf at *
  generalize clampF (mulF (clampF (divF x y true)) y true) = mtt at *
  generalize overF (mulF (clampF (divF x y true)) y true) = omtt at *
  generalize clampF (divF x y false) = q at *
  generalize clampF (divF x y true) = r at *
  generalize overF (divF x y false) = oq at *
  generalize overF (divF x y true) = or' at *
  generalize clampF (mulF x y false) = lo at *
  generalize clampF (mulF x y true) = hi at *
  generalize overF (mulF x y false) = o0 at *
  generalize overF (mulF x y true) = o1 at *
  generalize clampF (-x) = nx at *
  generalize overF (-x) = onx at *
  clear HN
  have hy0 : (y == 0) = false := by rw [beq_eq_false_iff_ne]; omega
  have hyp : decide (0 < y) = false := by simp; omega
  have hyn : decide (y < 0) = true := by simp; omega
  have L0 : Hid (Live w w.heap.size (w.alloc (.cells #[.bool false] 26)) false) := Live.make w w false (Below.refl _ _)
  go_enter Tryd.func6, Tryd.ntmps6
  go_wp2_with fail
  refine Calls.mono (HA0.out _ _ _ L0.out) ?_
  rintro e X1 ⟨rfl, lx, kx⟩
  have L1 : Hid (Live w w.heap.size X1 (false || o0)) := lx
  clear lx kx L0 
  go_wp2_with fail
  refine Calls.mono (HA1.out _ _ _ L1.out) ?_
  rintro e X2 ⟨rfl, lx, kx⟩
  have L2 : Hid (Live w w.heap.size X2 ((false || o0) || o1)) := lx
  clear lx kx L1 
  go_wp2_with fail
  refine Calls.mono (HA2.out _ _ _ L2.out) ?_
  rintro e X3 ⟨rfl, lx, kx⟩
  have L3 : Hid (Live w w.heap.size X3 (((false || o0) || o1) || o0)) := lx
  clear lx kx L2 
  go_wp2_with fail
  refine Calls.mono (HA3.out _ _ _ L3.out) ?_
  rintro e X4 ⟨rfl, lx, kx⟩
  have L4 : Hid (Live w w.heap.size X4 ((((false || o0) || o1) || o0) || o1)) := lx
  clear lx kx L3 
  rw [HO.out] at L4
  have c4 := L4.out.cell
  have B0 : Hid (Live w X4.heap.size (X4.alloc (.cells #[.bool false] 26)) false) := Live.make w X4 false L4.out.below
  go_wp2_with fail
  clear c4
  refine Calls.mono (HB0.out _ _ _ B0.out) ?_
  rintro e X5 ⟨rfl, lx, kx⟩
  have B1 : Hid (Live w X4.heap.size X5 (false || false)) := lx
  clear lx kx B0 
  go_wp2_with fail
  refine Calls.mono (HB1.out _ _ _ B1.out) ?_
  rintro e X6 ⟨rfl, lx, kx⟩
  have B2 : Hid (Live w X4.heap.size X6 ((false || false) || false)) := lx
  clear lx kx B1 
  have c4 := B2.out.cell
  simp only [Bool.or_false] at c4
  go_wp2_with fail
  clear c4
  refine Calls.mono (HB2.out _ _ _ B2.out) ?_
  rintro e X7 ⟨rfl, lx, kx⟩
  have B3 : Hid (Live w X4.heap.size X7 (((false || false) || false) || onx)) := lx
  clear lx kx B2 
  go_wp2_with fail
  refine Calls.mono (HB3.out _ _ _ B3.out) ?_
  rintro e X8 ⟨rfl, lx, kx⟩
  have B4 : Hid (Live w X4.heap.size X8 ((((false || false) || false) || onx) || onx)) := lx
  clear lx kx B3 
  have C0 : Hid (Live w X8.heap.size (X8.alloc (.cells #[.bool false] 26)) false) := Live.make w X8 false B4.out.below
  go_wp2_with fail
  refine Calls.mono (HC0.out _ _ _ C0.out) ?_
  rintro e X9 ⟨rfl, lx, kx⟩
  have C1 : Hid (Live w X8.heap.size X9 (false || oq)) := lx
  clear lx kx C0 
  go_wp2_with fail
  refine Calls.mono (HC1.out _ _ _ C1.out) ?_
  rintro e X10 ⟨rfl, lx, kx⟩
  have C2 : Hid (Live w X8.heap.size X10 ((false || oq) || or')) := lx
  clear lx kx C1 
  rw [HO2.out] at C2
  have c4 := C2.out.cell
  have D0 : Hid (Live w X10.heap.size (X10.alloc (.cells #[.bool false] 26)) false) := Live.make w X10 false C2.out.below
  have hne : X8.heap.size ≠ X10.heap.size := by have := C2.out.old; omega
  have C3 : Hid (Live w X8.heap.size (X10.alloc (.cells #[.bool false] 26)) false) := C2.out.alloc _
  go_wp2_with fail
  clear c4 C2
  refine Calls.mono (HD0.out _ _ _ D0.out) ?_
  rintro e X11 ⟨rfl, lx, kx⟩
  have D1 : Hid (Live w X10.heap.size X11 (false || omff)) := lx
  have C4 : Hid (Live w X8.heap.size X11 (false)) := C3.out.kept kx hne D0.out.new
  clear lx kx D0 C3
  go_wp2_with fail
  refine Calls.mono (HD1.out _ _ _ D1.out) ?_
  rintro e X12 ⟨rfl, lx, kx⟩
  have D2 : Hid (Live w X10.heap.size X12 ((false || omff) || omtt)) := lx
  have C5 : Hid (Live w X8.heap.size X12 (false)) := C4.out.kept kx hne D1.out.new
  clear lx kx D1 C4
  rw [HO3.out] at D2
  go_wp2_with fail
  refine Calls.mono (alive_live C5.out HM.out HP.out) ?_
  rintro e Z ⟨rfl, lz, bz⟩
  have C6 : Hid (Live w X8.heap.size Z false) := lz
  have D3 : Hid (Live w X10.heap.size Z true) := D2.out.stays bz
  clear lz bz C5 D2
  have c4 := C6.out.cell
  have c5 := D3.out.cell
  go_wp2
  go_ret
  exact ⟨rfl, D3.out.below⟩
set_option maxHeartbeats 8000000 in
theorem prod_nfff (x y : Int) (w : World) (hm : MaxLenIs w) (ht : PowsAre w) (x1 : -9223372036854775808 ≤ x) (x2 : x ≤ 9223372036854775807) (y1 : -9223372036854775808 ≤ y) (y2 : y ≤ 9223372036854775807) (hO : (overF (mulF x y false) || overF (mulF x y true)) = false) (hy : y < 0) (hO2 : (overF (divF x y false) || overF (divF x y true)) = false) (hO3 : (overF (mulF (clampF (divF x y false)) y false) || overF (mulF (clampF (divF x y true)) y true)) = false) :
    Calls Tryd.prog 6 #[.int .i64 x, .int .i64 y] w fun e w' => e = .returned (.bool true) ∧ Below w.heap.size w w' := by
  have HM : Hid (MaxLenIs w) := hm
  have HP : Hid (PowsAre w) := ht
  clear hm ht
  have HA0 : Hid (∀ A W o, Live w A W o → Calls Tryd.prog 12 #[.pointer (some ⟨A, 0, none⟩), .int .i64 x, .int .i64 y, .bool false] W fun e W' => e = .returned (.int .i64 (clampF (mulF x y false))) ∧ Live w A W' (o || overF (mulF x y false)) ∧ Kept A W W') := fun A W o h => by
    exact mul_live h false x1 x2 y1 y2
  have HA1 : Hid (∀ A W o, Live w A W o → Calls Tryd.prog 12 #[.pointer (some ⟨A, 0, none⟩), .int .i64 x, .int .i64 y, .bool true] W fun e W' => e = .returned (.int .i64 (clampF (mulF x y true))) ∧ Live w A W' (o || overF (mulF x y true)) ∧ Kept A W W') := fun A W o h => by
    exact mul_live h true x1 x2 y1 y2
  have HA2 : Hid (∀ A W o, Live w A W o → Calls Tryd.prog 12 #[.pointer (some ⟨A, 0, none⟩), .int .i64 y, .int .i64 x, .bool false] W fun e W' => e = .returned (.int .i64 (clampF (mulF x y false))) ∧ Live w A W' (o || overF (mulF x y false)) ∧ Kept A W W') := fun A W o h => by
    rw [mulF_comm]; exact mul_live h false y1 y2 x1 x2
  have HA3 : Hid (∀ A W o, Live w A W o → Calls Tryd.prog 12 #[.pointer (some ⟨A, 0, none⟩), .int .i64 y, .int .i64 x, .bool true] W fun e W' => e = .returned (.int .i64 (clampF (mulF x y true))) ∧ Live w A W' (o || overF (mulF x y true)) ∧ Kept A W W') := fun A W o h => by
    rw [mulF_comm]; exact mul_live h true y1 y2 x1 x2
  have HB0 : Hid (∀ A W o, Live w A W o → Calls Tryd.prog 12 #[.pointer (some ⟨A, 0, none⟩), .int .i64 x, .int .i64 4294967296, .bool false] W fun e W' => e = .returned (.int .i64 x) ∧ Live w A W' (o || false) ∧ Kept A W W') := fun A W o h => by
    have t := mul_live h false x1 x2 (y := 4294967296) (by omega) (by omega)
    unfold Says at t; rw [mulF_one, clampF_in x1 x2, overF_in x1 x2] at t; exact t
  have HB1 : Hid (∀ A W o, Live w A W o → Calls Tryd.prog 12 #[.pointer (some ⟨A, 0, none⟩), .int .i64 x, .int .i64 0, .bool true] W fun e W' => e = .returned (.int .i64 0) ∧ Live w A W' (o || false) ∧ Kept A W W') := fun A W o h => by
    have t := mul_live h true x1 x2 (y := 0) (by omega) (by omega)
    unfold Says at t; rw [mulF_zero, clampF_in (by omega) (by omega), overF_in (by omega) (by omega)] at t; exact t
  have HB2 : Hid (∀ A W o, Live w A W o → Calls Tryd.prog 12 #[.pointer (some ⟨A, 0, none⟩), .int .i64 x, .int .i64 (-4294967296), .bool false] W fun e W' => e = .returned (.int .i64 (clampF (-x))) ∧ Live w A W' (o || overF (-x)) ∧ Kept A W W') := fun A W o h => by
    have t := mul_live h false x1 x2 (y := -4294967296) (by omega) (by omega)
    unfold Says at t; rw [mulF_minus] at t; exact t
  have HB3 : Hid (∀ A W o, Live w A W o → Calls Tryd.prog 16 #[.pointer (some ⟨A, 0, none⟩), .int .i64 x] W fun e W' => e = .returned (.int .i64 (clampF (-x))) ∧ Live w A W' (o || overF (-x)) ∧ Kept A W W') := fun A W o h => by
    exact neg_live h x1 x2
  have f1 : clampF (mulF x y false) ≤ clampF (mulF x y true) := clampF_mono (mulF_up x y).1
  have f2 : -9223372036854775808 ≤ clampF (mulF x y false) ∧ clampF (mulF x y true) ≤ 9223372036854775807 := ⟨(clampF_bd _).1, (clampF_bd _).2⟩
  have f3 : clampF (mulF x y true) - clampF (mulF x y false) ≤ 1 := by
    rw [Bool.or_eq_false_iff] at hO
    rw [overF_clamp hO.1, overF_clamp hO.2]; have := (mulF_up x y).2; omega
  have HO : Hid (((((false || overF (mulF x y false)) || overF (mulF x y true)) || overF (mulF x y false)) || overF (mulF x y true)) = false) := by show _ = _; rw [or4]; exact hO
  clear hO
  have HN : Hid (clampF (-x) = clampF (-x)) := rfl
  have HC0 : Hid (∀ A W o, Live w A W o → Calls Tryd.prog 14 #[.pointer (some ⟨A, 0, none⟩), .int .i64 x, .int .i64 y, .bool false] W fun e W' => e = .returned (.int .i64 (clampF (divF x y false))) ∧ Live w A W' (o || overF (divF x y false)) ∧ Kept A W W') := fun A W o h => by
    exact div_live h false x1 x2 y1 y2 (by omega)
  have HC1 : Hid (∀ A W o, Live w A W o → Calls Tryd.prog 14 #[.pointer (some ⟨A, 0, none⟩), .int .i64 x, .int .i64 y, .bool true] W fun e W' => e = .returned (.int .i64 (clampF (divF x y true))) ∧ Live w A W' (o || overF (divF x y true)) ∧ Kept A W W') := fun A W o h => by
    exact div_live h true x1 x2 y1 y2 (by omega)
  have d1 : clampF (divF x y false) ≤ clampF (divF x y true) := clampF_mono (divF_up x y (by omega)).1
  have d0 := clampF_bd (divF x y false)
  have d9 := clampF_bd (divF x y true)
  have e2 : overF (divF x y false) = false ∧ overF (divF x y true) = false := by rw [Bool.or_eq_false_iff] at hO2; exact hO2
  have d3 : clampF (divF x y true) - clampF (divF x y false) ≤ 1 := by rw [overF_clamp e2.1, overF_clamp e2.2]; have := (divF_up x y (by omega)).2; omega
  have HD0 : Hid (∀ A W o, Live w A W o → Calls Tryd.prog 12 #[.pointer (some ⟨A, 0, none⟩), .int .i64 (clampF (divF x y false)), .int .i64 y, .bool false] W fun e W' => e = .returned (.int .i64 (clampF (mulF (clampF (divF x y false)) y false))) ∧ Live w A W' (o || overF (mulF (clampF (divF x y false)) y false)) ∧ Kept A W W') := fun A W o h => by
    exact mul_live h false d0.1 d0.2 y1 y2
  have HD1 : Hid (∀ A W o, Live w A W o → Calls Tryd.prog 12 #[.pointer (some ⟨A, 0, none⟩), .int .i64 (clampF (divF x y true)), .int .i64 y, .bool true] W fun e W' => e = .returned (.int .i64 (clampF (mulF (clampF (divF x y true)) y true))) ∧ Live w A W' (o || overF (mulF (clampF (divF x y true)) y true)) ∧ Kept A W W') := fun A W o h => by
    exact mul_live h true d9.1 d9.2 y1 y2
  have HD2 : Hid (∀ A W o, Live w A W o → Calls Tryd.prog 12 #[.pointer (some ⟨A, 0, none⟩), .int .i64 (clampF (divF x y false)), .int .i64 y, .bool true] W fun e W' => e = .returned (.int .i64 (clampF (mulF (clampF (divF x y false)) y true))) ∧ Live w A W' (o || overF (mulF (clampF (divF x y false)) y true)) ∧ Kept A W W') := fun A W o h => by
    exact mul_live h true d0.1 d0.2 y1 y2
  have HD3 : Hid (∀ A W o, Live w A W o → Calls Tryd.prog 12 #[.pointer (some ⟨A, 0, none⟩), .int .i64 (clampF (divF x y true)), .int .i64 y, .bool false] W fun e W' => e = .returned (.int .i64 (clampF (mulF (clampF (divF x y true)) y false))) ∧ Live w A W' (o || overF (mulF (clampF (divF x y true)) y false)) ∧ Kept A W W') := fun A W o h => by
    exact mul_live h false d9.1 d9.2 y1 y2
  have cx : clampF x = x := clampF_in x1 x2
  have k1 : x ≤ clampF (mulF (clampF (divF x y false)) y true) := by rw [overF_clamp e2.1]; have := clampF_mono (mul_back_ge _ y x (div_neg x y hy).1 true); omega
  have k2 : clampF (mulF (clampF (divF x y true)) y false) ≤ x := by rw [overF_clamp e2.2]; have := clampF_mono (mul_back_le _ y x (div_neg x y hy).2 false); omega
  have k3 : clampF (mulF (clampF (divF x y true)) y true) ≤ x := by rw [overF_clamp e2.2]; have := clampF_mono (mul_back_le _ y x (div_neg x y hy).2 true); omega
  clear cx
  clear e2
  have HO2 : Hid (((false || overF (divF x y false)) || overF (divF x y true)) = false) := by show _ = _; rw [Bool.false_or]; exact hO2
  clear hO2
  have HO3 : Hid (((false || overF (mulF (clampF (divF x y false)) y false)) || overF (mulF (clampF (divF x y true)) y true)) = false) := by show _ = _; rw [Bool.false_or]; exact hO3
  clear hO3
  generalize clampF (mulF (clampF (divF x y false)) y false) = mff at *
  generalize overF (mulF (clampF (divF x y false)) y false) = omff at *
  generalize clampF (mulF (clampF (divF x y false)) y true) = mft at *
  generalize overF (mulF (clampF (divF x y false)) y true) = omft at *
  generalize clampF (mulF (clampF (divF x y true)) y false) = mtf at *
  generalize overF (mulF (clampF (divF x y true)) y false) = omtf at *
  generalize clampF (mulF (clampF (divF x y true)) y true) = mtt at *
  generalize overF (mulF (clampF (divF x y true)) y true) = omtt at *
  generalize clampF (divF x y false) = q at *
  generalize clampF (divF x y true) = r at *
  generalize overF (divF x y false) = oq at *
  generalize overF (divF x y true) = or' at *
  generalize clampF (mulF x y false) = lo at *
  generalize clampF (mulF x y true) = hi at *
  generalize overF (mulF x y false) = o0 at *
  generalize overF (mulF x y true) = o1 at *
  generalize clampF (-x) = nx at *
  generalize overF (-x) = onx at *
  clear HN
  have hy0 : (y == 0) = false := by rw [beq_eq_false_iff_ne]; omega
  have hyp : decide (0 < y) = false := by simp; omega
  have hyn : decide (y < 0) = true := by simp; omega
  have L0 : Hid (Live w w.heap.size (w.alloc (.cells #[.bool false] 26)) false) := Live.make w w false (Below.refl _ _)
  go_enter Tryd.func6, Tryd.ntmps6
  go_wp2_with fail
  refine Calls.mono (HA0.out _ _ _ L0.out) ?_
  rintro e X1 ⟨rfl, lx, kx⟩
  have L1 : Hid (Live w w.heap.size X1 (false || o0)) := lx
  clear lx kx L0 
  go_wp2_with fail
  refine Calls.mono (HA1.out _ _ _ L1.out) ?_
  rintro e X2 ⟨rfl, lx, kx⟩
  have L2 : Hid (Live w w.heap.size X2 ((false || o0) || o1)) := lx
  clear lx kx L1 
  go_wp2_with fail
  refine Calls.mono (HA2.out _ _ _ L2.out) ?_
  rintro e X3 ⟨rfl, lx, kx⟩
  have L3 : Hid (Live w w.heap.size X3 (((false || o0) || o1) || o0)) := lx
  clear lx kx L2 
  go_wp2_with fail
  refine Calls.mono (HA3.out _ _ _ L3.out) ?_
  rintro e X4 ⟨rfl, lx, kx⟩
  have L4 : Hid (Live w w.heap.size X4 ((((false || o0) || o1) || o0) || o1)) := lx
  clear lx kx L3 
  rw [HO.out] at L4
  have c4 := L4.out.cell
  have B0 : Hid (Live w X4.heap.size (X4.alloc (.cells #[.bool false] 26)) false) := Live.make w X4 false L4.out.below
  go_wp2_with fail
  clear c4
  refine Calls.mono (HB0.out _ _ _ B0.out) ?_
  rintro e X5 ⟨rfl, lx, kx⟩
  have B1 : Hid (Live w X4.heap.size X5 (false || false)) := lx
  clear lx kx B0 
  go_wp2_with fail
  refine Calls.mono (HB1.out _ _ _ B1.out) ?_
  rintro e X6 ⟨rfl, lx, kx⟩
  have B2 : Hid (Live w X4.heap.size X6 ((false || false) || false)) := lx
  clear lx kx B1 
  have c4 := B2.out.cell
  simp only [Bool.or_false] at c4
  go_wp2_with fail
  clear c4
  refine Calls.mono (HB2.out _ _ _ B2.out) ?_
  rintro e X7 ⟨rfl, lx, kx⟩
  have B3 : Hid (Live w X4.heap.size X7 (((false || false) || false) || onx)) := lx
  clear lx kx B2 
  go_wp2_with fail
  refine Calls.mono (HB3.out _ _ _ B3.out) ?_
  rintro e X8 ⟨rfl, lx, kx⟩
  have B4 : Hid (Live w X4.heap.size X8 ((((false || false) || false) || onx) || onx)) := lx
  clear lx kx B3 
  have C0 : Hid (Live w X8.heap.size (X8.alloc (.cells #[.bool false] 26)) false) := Live.make w X8 false B4.out.below
  go_wp2_with fail
  refine Calls.mono (HC0.out _ _ _ C0.out) ?_
  rintro e X9 ⟨rfl, lx, kx⟩
  have C1 : Hid (Live w X8.heap.size X9 (false || oq)) := lx
  clear lx kx C0 
  go_wp2_with fail
  refine Calls.mono (HC1.out _ _ _ C1.out) ?_
  rintro e X10 ⟨rfl, lx, kx⟩
  have C2 : Hid (Live w X8.heap.size X10 ((false || oq) || or')) := lx
  clear lx kx C1 
  rw [HO2.out] at C2
  have c4 := C2.out.cell
  have D0 : Hid (Live w X10.heap.size (X10.alloc (.cells #[.bool false] 26)) false) := Live.make w X10 false C2.out.below
  have hne : X8.heap.size ≠ X10.heap.size := by have := C2.out.old; omega
  have C3 : Hid (Live w X8.heap.size (X10.alloc (.cells #[.bool false] 26)) false) := C2.out.alloc _
  go_wp2_with fail
  clear c4 C2
  refine Calls.mono (HD0.out _ _ _ D0.out) ?_
  rintro e X11 ⟨rfl, lx, kx⟩
  have D1 : Hid (Live w X10.heap.size X11 (false || omff)) := lx
  have C4 : Hid (Live w X8.heap.size X11 (false)) := C3.out.kept kx hne D0.out.new
  clear lx kx D0 C3
  go_wp2_with fail
  refine Calls.mono (HD1.out _ _ _ D1.out) ?_
  rintro e X12 ⟨rfl, lx, kx⟩
  have D2 : Hid (Live w X10.heap.size X12 ((false || omff) || omtt)) := lx
  have C5 : Hid (Live w X8.heap.size X12 (false)) := C4.out.kept kx hne D1.out.new
  clear lx kx D1 C4
  rw [HO3.out] at D2
  go_wp2_with fail
  refine Calls.mono (alive_live C5.out HM.out HP.out) ?_
  rintro e Z ⟨rfl, lz, bz⟩
  have C6 : Hid (Live w X8.heap.size Z false) := lz
  have D3 : Hid (Live w X10.heap.size Z false) := D2.out.stays bz
  clear lz bz C5 D2
  have c4 := C6.out.cell
  have c5 := D3.out.cell
  go_wp2_with fail
  clear c4 c5
  refine Calls.mono (HD2.out _ _ _ D3.out) ?_
  rintro e X13 ⟨rfl, lx, kx⟩
  have D4 : Hid (Live w X10.heap.size X13 (false || omft)) := lx
  clear lx kx D3 
  go_wp2_with fail
  refine Calls.mono (HD3.out _ _ _ D4.out) ?_
  rintro e X14 ⟨rfl, lx, kx⟩
  have D5 : Hid (Live w X10.heap.size X14 ((false || omft) || omtf)) := lx
  clear lx kx D4 
  go_wp2
  go_ret
  exact ⟨rfl, D5.out.below⟩
end Go.Proofs.YtapdnahjcadpeaaDoor
