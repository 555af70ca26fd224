/- The contract of lex's word. -/
import Derived.Test.YtkkgfbhngoijaaaDoorLxE
namespace Go.Proofs.YtkkgfbhngoijaaaDoor
open Go.RowKit
set_option linter.unusedVariables false
set_option maxRecDepth 100000

/-- A word. -/
structure Wd where
  kind : Nat
  text : List UInt8
  num : Int
  line : Nat
  col : Nat
def wordV (x : Wd) : Value := .agg #[.int .i64 (x.kind : Int), .string (strL x.text), .int .i64 x.num, .int .i64 (x.line : Int), .int .i64 (x.col : Int)]
def endW (p : Nat × Nat) : Wd := ⟨0, [], 0, p.1, p.2⟩
def zeroW : Wd := ⟨0, [], 0, 0, 0⟩

theorem Mod.setNew {S : List Nat} {x y : World} (h : Mod S x y) (b i : Nat) (v : Value) (hb : x.heap.size ≤ b) : Mod S x (y.setCell ⟨b, i, none⟩ v) :=
  ⟨h.os, h.tape, h.output, by simpa using h.size, fun k hk hs => (Below.heap_setCell _ _ _ _ (fun e => by simp only at e; omega)).trans (h.block k hk hs)⟩

set_option maxHeartbeats 1000000 in
theorem word_end {W : World} {r : Nat} {p : Nat × Nat} (h : RdX W r p []) (hp : PlaceOk p []) :
    Calls Tryd.prog 10 #[.pointer (some ⟨r, 0, none⟩)] W fun e W' => e = .returned (.tuple #[wordV (endW p), .int .i64 0]) ∧ RdX W' r p [] ∧ Mod [] W W' := by
  have HR : Hid (RdX W r p []) := h
  have c0 := h.c0
  have c1 := h.c1
  have c2 := h.c2
  have hlt : r < W.heap.size := h.lt
  have hne : ¬ W.heap.size = r := by omega
  have hne2 : ¬ W.heap.size + 1 = r := by omega
  have HV : Hid (wordV (endW p) = .agg #[.int .i64 0, .string ⟨#[]⟩, .int .i64 0, .int .i64 (p.1 : Int), .int .i64 (p.2 : Int)]) := rfl
  have hb2 : strL [] = ⟨#[]⟩ := rfl
  rw [hb2] at c2
  clear h hp hb2
  generalize (p.1 : Int) = z1 at *
  generalize (p.2 : Int) = z2 at *
  go_enter Tryd.func10, Tryd.ntmps10
  go_wp2
  go_region
  all_goals
    go_wp2
    rw [HV.out]
    refine bodyPost_ret (v := .tuple #[.agg #[.int .i64 0, .string ⟨#[]⟩, .int .i64 0, .int .i64 z1, .int .i64 z2], .int .i64 0]) (by simp [results, Tryd.results10, go_sem]) rfl ⟨rfl, ?_, ?_⟩
    · exact HR.out.below (by repeat first | exact Below.refl _ _ | refine Below.drew ?_ | refine Below.alloc ?_ (by simp) _)
    · repeat first | exact Mod.refl _ _ | refine Mod.drew ?_ | refine Mod.alloc ?_ _

/-- A box of five cells that may be written. -/
structure Box5 (W : World) (b : Nat) (v0 v1 v2 v3 v4 : Value) : Prop where
  c0 : W.cell? ⟨b, 0, none⟩ = some v0
  c1 : W.cell? ⟨b, 1, none⟩ = some v1
  c2 : W.cell? ⟨b, 2, none⟩ = some v2
  c3 : W.cell? ⟨b, 3, none⟩ = some v3
  c4 : W.cell? ⟨b, 4, none⟩ = some v4
  f : ∀ i, W.frozen? ⟨b, i, none⟩ = false
theorem Box5.lt {W : World} {b : Nat} {v0 v1 v2 v3 v4 : Value} (h : Box5 W b v0 v1 v2 v3 v4) : b < W.heap.size := World.block_lt_of_cell? W _ h.c0
theorem Box5.mod {W W' : World} {b : Nat} {v0 v1 v2 v3 v4 : Value} {S : List Nat} (h : Box5 W b v0 v1 v2 v3 v4) (m : Mod S W W') (hb : b ∉ S) : Box5 W' b v0 v1 v2 v3 v4 :=
  ⟨m.cell h.c0 hb, m.cell h.c1 hb, m.cell h.c2 hb, m.cell h.c3 hb, m.cell h.c4 hb, fun i => by rw [m.frozen h.lt hb]; exact h.f i⟩
theorem MaxLenIs.mod {S : List Nat} {W W' : World} (h : MaxLenIs W) (m : Mod S W W') (hb : 1 ∉ S) : MaxLenIs W' := by
  obtain ⟨z, hz⟩ := h; exact ⟨z, m.cell hz hb⟩
theorem RdX.mod {W W' : World} {r : Nat} {p : Nat × Nat} {l : List UInt8} {S : List Nat} (h : RdX W r p l) (m : Mod S W W') (hr : r ∉ S) : RdX W' r p l :=
  ⟨m.cell h.c0 hr, m.cell h.c1 hr, m.cell h.c2 hr, fun i => by rw [m.frozen h.lt hr]; exact h.f i⟩
theorem two_boxes (W : World) (u0 u1 u2 u3 u4 v0 v1 v2 v3 v4 : Value) :
    Box5 ((W.alloc (Obj.cells #[u0, u1, u2, u3, u4] 28)).alloc (Obj.cells #[v0, v1, v2, v3, v4] 28)).drew W.heap.size u0 u1 u2 u3 u4 ∧
    Box5 ((W.alloc (Obj.cells #[u0, u1, u2, u3, u4] 28)).alloc (Obj.cells #[v0, v1, v2, v3, v4] 28)).drew (W.heap.size + 1) v0 v1 v2 v3 v4 ∧
    Mod [] W ((W.alloc (Obj.cells #[u0, u1, u2, u3, u4] 28)).alloc (Obj.cells #[v0, v1, v2, v3, v4] 28)).drew := by
  refine ⟨⟨by simp [go_sem], by simp [go_sem], by simp [go_sem], by simp [go_sem], by simp [go_sem], fun i => by simp [go_sem]⟩, ⟨by simp [go_sem], by simp [go_sem], by simp [go_sem], by simp [go_sem], by simp [go_sem], fun i => by simp [go_sem]⟩, ((Mod.refl _ _).alloc _ |>.alloc _).drew⟩
theorem clone_any (s : ByteArray) (w : World) (hs : s.size ≤ 1000000) :
    Calls Tryd.prog 16 #[.string s] w fun e w' => e = .returned (.string s) ∧ Below w.heap.size w w' := by
  have h := Tryd.stringslite_Clone s w (by omega)
  go_enter Tryd.func16, Tryd.ntmps16
  go_wp2_with fail
  refine Calls.mono h ?_
  rintro e w1 ⟨rfl, hb⟩
  have HB : Hid (Below w.heap.size w w1) := hb
  clear hb h
  go_wp2
  go_ret
  exact ⟨rfl, HB.out⟩

set_option maxHeartbeats 1000000 in
theorem word_err {W : World} {r : Nat} {p : Nat × Nat} {l : List UInt8} (h : RdX W r p l) (hp : PlaceOk p l) (hs : SignsAre W) (hm : MaxLenIs W) (hl : l ≠ [])
    (he : (valueL (measureL l).1 (l.take (measureL l).2)).2 ≠ 0) :
    Calls Tryd.prog 10 #[.pointer (some ⟨r, 0, none⟩)] W fun e W' => e = .returned (.tuple #[wordV zeroW, .int .i64 (valueL (measureL l).1 (l.take (measureL l).2)).2]) ∧ RdX W' r p l ∧ Mod [] W W' := by
  have HR : Hid (RdX W r p l) := h
  have c0 := h.c0
  have c1 := h.c1
  have c2 := h.c2
  have hlt : r < W.heap.size := h.lt
  have hne : ¬ W.heap.size = r := by omega
  have hne2 : ¬ W.heap.size + 1 = r := by omega
  have HV : Hid (wordV zeroW = .agg #[.int .i64 0, .string ⟨#[]⟩, .int .i64 0, .int .i64 0, .int .i64 0]) := rfl
  have hlen : l.length ≤ 200000 := by have := hp.2.2.1; omega
  obtain ⟨hn1, hn2⟩ := strL_ne hl
  have hmle := measureL_le l
  have HMeas : Hid (∀ X, SignsAre X → Calls Tryd.prog 14 #[.string (strL l)] X fun e w' => e = .returned (.tuple #[.int .i64 ((measureL l).1 : Nat), .int .i64 ((measureL l).2 : Nat)]) ∧ w' = X) := fun X hX => measure_any l X (by omega) hX
  have HVal : Hid (∀ X, MaxLenIs X → Calls Tryd.prog 15 #[.int .i64 ((measureL l).1 : Nat), .string (strL (l.take (measureL l).2))] X fun e w' => e = .returned (pairV (valueL (measureL l).1 (l.take (measureL l).2))) ∧ Below X.heap.size X w') := fun X hX => value_any _ _ X (measureL_kind l) (by rw [List.length_take]; omega) hX
  have hto : ∀ X, (Instr.slice 9 (.string (strL l)) none (some (.int .i64 ((measureL l).2 : Int))) none).run Tryd.prog X = .ok (.string (strL (l.take (measureL l).2))) X := by
    intro X
    have := run_slice_string_h (P := Tryd.prog) X 9 (strL l) Tryd.underlying9 .i64 ((measureL l).2 : Int) (by omega) (by rw [strL_size]; omega)
    rw [this, Int.toNat_natCast, strL_to]
  have HSG : Hid (SignsAre W) := hs
  have HML : Hid (MaxLenIs W) := hm
  clear h hp hs hm
  generalize (p.1 : Int) = z1 at *
  generalize (p.2 : Int) = z2 at *
  generalize strL (l.take (measureL l).2) = st at *
  generalize valueL (measureL l).1 (l.take (measureL l).2) = vr at *
  generalize (measureL l).1 = mk at *
  generalize (measureL l).2 = ms at *
  generalize hS : strL l = s at *
  have HS : Hid (strL l = s) := hS
  clear hS
  obtain ⟨v1, v2⟩ := vr
  simp only [pairV] at HVal he ⊢
  have hv2 : (v2 == 0) = false := by simpa using he
  have hv3 : (v2 != 0) = true := by simpa using he
  clear he
  go_enter Tryd.func10, Tryd.ntmps10
  go_wp2
  go_region
  all_goals
    go_wp2_with fail
    have HY0 := two_boxes W (.int .i64 0) (.string ⟨#[]⟩) (.int .i64 0) (.int .i64 0) (.int .i64 0) (.int .i64 0) (.string ⟨#[]⟩) (.int .i64 0) (.int .i64 z1) (.int .i64 z2)
    obtain ⟨Y, hY⟩ : ∃ Y, ((W.alloc (Obj.cells #[.int .i64 0, .string ⟨#[]⟩, .int .i64 0, .int .i64 0, .int .i64 0] 28)).alloc (Obj.cells #[.int .i64 0, .string ⟨#[]⟩, .int .i64 0, .int .i64 z1, .int .i64 z2] 28)).drew = Y := ⟨_, rfl⟩
    rw [hY] at HY0 ⊢
    have HY := (show Hid _ from HY0)
    clear HY0 hY c0 c1 c2
    have d2 := (HR.out.mod HY.out.2.2 (by simp)).c2
    rw [HS.out] at d2
    obtain ⟨A, hA⟩ : ∃ A, W.heap.size = A := ⟨_, rfl⟩
    rw [hA] at HY hlt hne hne2 ⊢
    refine Calls.mono (HMeas.out _ (HSG.out.mod HY.out.2.2 (by simp))) ?_
    rintro e w1 ⟨rfl, hw⟩
    subst w1
    go_wp2_with fail
    refine Calls.mono (HVal.out _ (HML.out.mod HY.out.2.2 (by simp))) ?_
    rintro e Z ⟨rfl, hb⟩
    have HZM : Hid (Mod [] W Z) := HY.out.2.2.trans (Mod.of_below hb)
    have HZA : Hid (Box5 Z A (.int .i64 0) (.string ⟨#[]⟩) (.int .i64 0) (.int .i64 0) (.int .i64 0)) := HY.out.1.mod (S := []) (Mod.of_below hb) (by simp)
    have HZB : Hid (Box5 Z (A + 1) (.int .i64 0) (.string ⟨#[]⟩) (.int .i64 0) (.int .i64 z1) (.int .i64 z2)) := HY.out.2.1.mod (S := []) (Mod.of_below hb) (by simp)
    clear hb d2
    have a0 := HZA.out.c0
    have a1 := HZA.out.c1
    have a2 := HZA.out.c2
    have a3 := HZA.out.c3
    have a4 := HZA.out.c4
    have fa := HZA.out.f
    go_wp2
    rw [HV.out]
    refine bodyPost_ret (v := .tuple #[.agg #[.int .i64 0, .string ⟨#[]⟩, .int .i64 0, .int .i64 0, .int .i64 0], .int .i64 v2]) (by simp [results, Tryd.results10, go_sem, a0, a1, a2, a3, a4]) rfl ⟨rfl, ?_⟩
    have HF : ∀ X, Mod [] W X → RdX X r p l ∧ Mod [] W X := fun X hX => ⟨HR.out.mod hX (by simp), hX⟩
    apply HF
    repeat (refine Mod.setNew ?_ _ _ _ (by omega))
    exact HZM.out

set_option maxHeartbeats 2000000 in
theorem word_ok {W : World} {r : Nat} {p : Nat × Nat} {l : List UInt8} (h : RdX W r p l) (hp : PlaceOk p l) (hs : SignsAre W) (hm : MaxLenIs W) (hl : l ≠ [])
    (he : (valueL (measureL l).1 (l.take (measureL l).2)).2 = 0) :
    Calls Tryd.prog 10 #[.pointer (some ⟨r, 0, none⟩)] W fun e W' => e = .returned (.tuple #[wordV ⟨(measureL l).1, l.take (measureL l).2, (valueL (measureL l).1 (l.take (measureL l).2)).1, p.1, p.2⟩, .int .i64 0]) ∧ RdX W' r (passL p (l.take (measureL l).2)) (l.drop (measureL l).2) ∧ Mod [r] W W' := by
  have HR : Hid (RdX W r p l) := h
  have c0 := h.c0
  have c1 := h.c1
  have c2 := h.c2
  have hlt : r < W.heap.size := h.lt
  have hne : ¬ W.heap.size = r := by omega
  have hne2 : ¬ W.heap.size + 1 = r := by omega
  have HV : Hid (wordV ⟨(measureL l).1, l.take (measureL l).2, (valueL (measureL l).1 (l.take (measureL l).2)).1, p.1, p.2⟩ = .agg #[.int .i64 ((measureL l).1 : Int), .string (strL (l.take (measureL l).2)), .int .i64 (valueL (measureL l).1 (l.take (measureL l).2)).1, .int .i64 (p.1 : Int), .int .i64 (p.2 : Int)]) := rfl
  have hlen : l.length ≤ 200000 := by have := hp.2.2.1; omega
  obtain ⟨hn1, hn2⟩ := strL_ne hl
  have hmle := measureL_le l
  have HMeas : Hid (∀ X, SignsAre X → Calls Tryd.prog 14 #[.string (strL l)] X fun e w' => e = .returned (.tuple #[.int .i64 ((measureL l).1 : Nat), .int .i64 ((measureL l).2 : Nat)]) ∧ w' = X) := fun X hX => measure_any l X (by omega) hX
  have HVal : Hid (∀ X, MaxLenIs X → Calls Tryd.prog 15 #[.int .i64 ((measureL l).1 : Nat), .string (strL (l.take (measureL l).2))] X fun e w' => e = .returned (pairV (valueL (measureL l).1 (l.take (measureL l).2))) ∧ Below X.heap.size X w') := fun X hX => value_any _ _ X (measureL_kind l) (by rw [List.length_take]; omega) hX
  have HTake : Hid (∀ X, RdX X r p l → Calls Tryd.prog 13 #[.pointer (some ⟨r, 0, none⟩), .int .i64 ((measureL l).2 : Int)] X fun e W' => e = .returned (.string (strL (l.take (measureL l).2))) ∧ RdX W' r (passL p (l.take (measureL l).2)) (l.drop (measureL l).2) ∧ Mod [r] X W') := fun X hX => take_any hX _ hmle hp
  have hcl := clone_any (strL (l.take (measureL l).2))
  have hcs : (strL (l.take (measureL l).2)).size ≤ 1000000 := by rw [strL_size, List.length_take]; omega
  have hto : ∀ X, (Instr.slice 9 (.string (strL l)) none (some (.int .i64 ((measureL l).2 : Int))) none).run Tryd.prog X = .ok (.string (strL (l.take (measureL l).2))) X := by
    intro X
    have := run_slice_string_h (P := Tryd.prog) X 9 (strL l) Tryd.underlying9 .i64 ((measureL l).2 : Int) (by omega) (by rw [strL_size]; omega)
    rw [this, Int.toNat_natCast, strL_to]
  have HSG : Hid (SignsAre W) := hs
  have HML : Hid (MaxLenIs W) := hm
  clear h hp hs hm
  generalize (p.1 : Int) = z1 at *
  generalize (p.2 : Int) = z2 at *
  generalize passL p (l.take (measureL l).2) = pd at *
  generalize l.drop (measureL l).2 = ld at *
  generalize hX : wordV _ = X at *
  clear hX
  generalize strL (l.take (measureL l).2) = st at *
  generalize valueL (measureL l).1 (l.take (measureL l).2) = vr at *
  generalize (measureL l).1 = mk at *
  generalize (measureL l).2 = ms at *
  generalize hS : strL l = s at *
  have HS : Hid (strL l = s) := hS
  clear hS
  obtain ⟨v1, v2⟩ := vr
  simp only [pairV] at HVal he HV ⊢
  subst he
  go_enter Tryd.func10, Tryd.ntmps10
  go_wp2
  go_region
  all_goals
    go_wp2_with fail
    have HY0 := two_boxes W (.int .i64 0) (.string ⟨#[]⟩) (.int .i64 0) (.int .i64 0) (.int .i64 0) (.int .i64 0) (.string ⟨#[]⟩) (.int .i64 0) (.int .i64 z1) (.int .i64 z2)
    obtain ⟨Y, hY⟩ : ∃ Y, ((W.alloc (Obj.cells #[.int .i64 0, .string ⟨#[]⟩, .int .i64 0, .int .i64 0, .int .i64 0] 28)).alloc (Obj.cells #[.int .i64 0, .string ⟨#[]⟩, .int .i64 0, .int .i64 z1, .int .i64 z2] 28)).drew = Y := ⟨_, rfl⟩
    rw [hY] at HY0 ⊢
    have HY := (show Hid _ from HY0)
    clear HY0 hY c0 c1 c2
    have d2 := (HR.out.mod HY.out.2.2 (by simp)).c2
    rw [HS.out] at d2
    obtain ⟨A, hA⟩ : ∃ A, W.heap.size = A := ⟨_, rfl⟩
    rw [hA] at HY hlt hne hne2 ⊢
    refine Calls.mono (HMeas.out _ (HSG.out.mod HY.out.2.2 (by simp))) ?_
    rintro e w1 ⟨rfl, hw⟩
    subst w1
    go_wp2_with fail
    refine Calls.mono (HVal.out _ (HML.out.mod HY.out.2.2 (by simp))) ?_
    rintro e Z ⟨rfl, hb⟩
    have HZM : Hid (Mod [] W Z) := HY.out.2.2.trans (Mod.of_below hb)
    have HZA : Hid (Box5 Z A (.int .i64 0) (.string ⟨#[]⟩) (.int .i64 0) (.int .i64 0) (.int .i64 0)) := HY.out.1.mod (S := []) (Mod.of_below hb) (by simp)
    have HZB : Hid (Box5 Z (A + 1) (.int .i64 0) (.string ⟨#[]⟩) (.int .i64 0) (.int .i64 z1) (.int .i64 z2)) := HY.out.2.1.mod (S := []) (Mod.of_below hb) (by simp)
    clear hb d2
    have HZR : Hid (RdX Z r p l) := HR.out.mod HZM.out (by simp)
    have e2 := HZR.out.c2
    go_wp2_with fail
    refine Calls.mono (HTake.out _ HZR.out) ?_
    rintro e Z2 ⟨rfl, hrd2, hmod2⟩
    clear e2
    have hrA : r ≠ A := fun e => hne e.symm
    have hrB : r ≠ A + 1 := fun e => hne2 e.symm
    have HZ2 : Hid (RdX Z2 r pd ld ∧ Mod [r] W Z2 ∧ Box5 Z2 A (.int .i64 0) (.string ⟨#[]⟩) (.int .i64 0) (.int .i64 0) (.int .i64 0) ∧ Box5 Z2 (A + 1) (.int .i64 0) (.string ⟨#[]⟩) (.int .i64 0) (.int .i64 z1) (.int .i64 z2)) :=
      ⟨hrd2, (HZM.out.mono (by simp)).trans hmod2, HZA.out.mod hmod2 (by simp; exact hne), HZB.out.mod hmod2 (by simp; exact hne2)⟩
    clear hrd2 hmod2
    go_wp2_with fail
    refine Calls.mono (hcl _ hcs) ?_
    rintro e Z3 ⟨rfl, hb3⟩
    have HZ3 : Hid (RdX Z3 r pd ld ∧ Mod [r] W Z3) := ⟨HZ2.out.1.below hb3, HZ2.out.2.1.trans (Mod.of_below hb3)⟩
    have BA := HZ2.out.2.2.1.mod (S := []) (Mod.of_below hb3) (by simp)
    have BB := HZ2.out.2.2.2.mod (S := []) (Mod.of_below hb3) (by simp)
    clear hb3
    have a0 := BA.c0
    have a1 := BA.c1
    have a2 := BA.c2
    have a3 := BA.c3
    have a4 := BA.c4
    have fa := BA.f
    have b0 := BB.c0
    have b1 := BB.c1
    have b2 := BB.c2
    have b3 := BB.c3
    have b4 := BB.c4
    have fb := BB.f
    clear BA BB
    go_wp2
    rw [HV.out]
    refine bodyPost_ret (v := .tuple #[.agg #[.int .i64 mk, .string st, .int .i64 v1, .int .i64 z1, .int .i64 z2], .int .i64 0]) (by simp [results, Tryd.results10, go_sem, a0, a1, a2, a3, a4]) rfl ⟨rfl, ?_⟩
    have HF : ∀ X, Mod [A, A + 1] Z3 X → Mod [r] W X → RdX X r pd ld ∧ Mod [r] W X := fun X hX hX2 => ⟨HZ3.out.1.mod hX (by simp; omega), hX2⟩
    apply HF
    · repeat (refine Mod.setCell ?_ _ _ _ (by simp))
      exact Mod.refl _ _
    · repeat (refine Mod.setNew ?_ _ _ _ (by omega))
      exact HZ3.out.2
end Go.Proofs.YtkkgfbhngoijaaaDoor
