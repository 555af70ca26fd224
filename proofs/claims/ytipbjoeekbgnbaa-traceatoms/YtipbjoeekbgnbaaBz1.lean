/- The contracts of the document's own numbers of six digits: zero, halves, plus, less. Conditions: the digits' own ranges. -/
import Derived.Test.YtipbjoeekbgnbaaBigM
import Derived.Test.YtipbjoeekbgnbaaLiveB
import Derived.Deep.QuietTactic
import Derived.BigQuiet
import Derived.Laws.StructEq
import Derived.Laws.Tables
import Derived.Laws.Cover2
import Derived.Deep.RegionHeld3
namespace Go.Proofs.Ytipbjoeekbgnbaa
open Go.RowKit
set_option linter.unusedVariables false
set_option maxRecDepth 100000

/-- A number of six digits as a value. -/
def bigV (m : Bool) (d : Nat → Int) : Value := .agg #[.bool m, .int .i64 (d 0), .int .i64 (d 1), .int .i64 (d 2), .int .i64 (d 3), .int .i64 (d 4), .int .i64 (d 5)]
/-- Block g holds the digits d and the sign m. -/
structure BigAt (W : World) (g : Nat) (m : Bool) (d : Nat → Int) : Prop where
  s : W.cell? ⟨g, 0, none⟩ = some (.bool m)
  c : ∀ j, j < 6 → W.cell? ⟨g, 1 + j, none⟩ = some (.int .i64 (d j))
  f : ∀ j, W.frozen? ⟨g, j, none⟩ = false
theorem bigAt_of {W : World} {g : Nat} {m : Bool} {d : Nat → Int} (s : W.cell? ⟨g, 0, none⟩ = some (.bool m)) (c0 : W.cell? ⟨g, 1, none⟩ = some (.int .i64 (d 0))) (c1 : W.cell? ⟨g, 2, none⟩ = some (.int .i64 (d 1))) (c2 : W.cell? ⟨g, 3, none⟩ = some (.int .i64 (d 2))) (c3 : W.cell? ⟨g, 4, none⟩ = some (.int .i64 (d 3))) (c4 : W.cell? ⟨g, 5, none⟩ = some (.int .i64 (d 4))) (c5 : W.cell? ⟨g, 6, none⟩ = some (.int .i64 (d 5))) (f : ∀ j, W.frozen? ⟨g, j, none⟩ = false) : BigAt W g m d :=
  ⟨s, fun j hj => by
    match j, hj with
    | 0, _ => exact c0
    | 1, _ => exact c1
    | 2, _ => exact c2
    | 3, _ => exact c3
    | 4, _ => exact c4
    | 5, _ => exact c5, f⟩
theorem BigAt.drewN {W : World} {g : Nat} {m : Bool} {d : Nat → Int} (h : BigAt W g m d) (n : Nat) : BigAt (W.drewN n) g m d := ⟨h.s, h.c, h.f⟩
theorem bdrewN {B : Nat} {w W : World} (h : Below B w W) (n : Nat) : Below B w (W.drewN n) := by
  induction n with
  | zero => exact h
  | succ n ih => exact ih.drew
theorem BigAt.set {W : World} {g : Nat} {m : Bool} {d : Nat → Int} (h : BigAt W g m d) (k : Nat) (hk : k < 6) (x : Int) : BigAt (W.setCell ⟨g, 1 + k, none⟩ (.int .i64 x)) g m (fun j => if j = k then x else d j) := by
  refine ⟨?_, fun j hj => ?_, fun j => ?_⟩
  · rw [World.cell?_setCell_other _ _ _ _ (fun e => by injection e with _ e2; omega)]; exact h.s
  · by_cases e : j = k
    · subst e; rw [World.cell?_setCell_same _ _ _ (h.c j hj)]; simp
    · rw [World.cell?_setCell_other _ _ _ _ (fun e' => by injection e' with _ e2; omega), h.c j hj]; simp [e]
  · simp [h.f]
theorem BigAt.other {W : World} {g h : Nat} {m : Bool} {d : Nat → Int} (k : BigAt W g m d) (i : Nat) (v : Value) (hn : g ≠ h) : BigAt (W.setCell ⟨h, i, none⟩ v) g m d :=
  ⟨(World.cell?_of_block (w := W) (a := ⟨g, 0, none⟩) (Below.heap_setCell _ _ _ _ hn)).trans k.s, fun j hj => (World.cell?_of_block (w := W) (a := ⟨g, 1 + j, none⟩) (Below.heap_setCell _ _ _ _ hn)).trans (k.c j hj), fun j => (World.frozen?_of_block (w := W) (a := ⟨g, j, none⟩) (Below.heap_setCell _ _ _ _ hn)).trans (k.f j)⟩
theorem BigAt.eq {W : World} {g : Nat} {m : Bool} {d d' : Nat → Int} (h : BigAt W g m d) (e : ∀ j, j < 6 → d j = d' j) : BigAt W g m d' := ⟨h.s, fun j hj => by rw [← e j hj]; exact h.c j hj, h.f⟩
theorem bset {B : Nat} {w W : World} (h : Below B w W) (b o : Nat) (v : Value) (hb : B ≤ b) : Below B w (W.setCell ⟨b, o, none⟩ v) := h.setCell hb v
set_option maxHeartbeats 1000000 in
theorem rplus_any (m n : Bool) (a b : Nat → Int) (w : World) (ha : Dig a) (hb : Dig b) :
    Calls Try.prog 23 #[.agg #[.bool m, .int .i64 (a 0), .int .i64 (a 1), .int .i64 (a 2), .int .i64 (a 3), .int .i64 (a 4), .int .i64 (a 5)], .agg #[.bool n, .int .i64 (b 0), .int .i64 (b 1), .int .i64 (b 2), .int .i64 (b 3), .int .i64 (b 4), .int .i64 (b 5)]] w
      fun e w' => e = .returned (.agg #[.bool m, .int .i64 (dgP a b 0), .int .i64 (dgP a b 1), .int .i64 (dgP a b 2), .int .i64 (dgP a b 3), .int .i64 (dgP a b 4), .int .i64 (dgP a b 5)]) ∧ Below w.heap.size w w' := by
  have HD : Hid (Dig a ∧ Dig b) := ⟨ha, hb⟩
  have A0 : BigAt (((w.alloc (.cells #[.bool m, .int .i64 (a 0), .int .i64 (a 1), .int .i64 (a 2), .int .i64 (a 3), .int .i64 (a 4), .int .i64 (a 5)] 52)).alloc (.cells #[.bool n, .int .i64 (b 0), .int .i64 (b 1), .int .i64 (b 2), .int .i64 (b 3), .int .i64 (b 4), .int .i64 (b 5)] 52)).alloc (.cells #[.bool false, .int .i64 0, .int .i64 0, .int .i64 0, .int .i64 0, .int .i64 0, .int .i64 0] 52)) w.heap.size m a := bigAt_of (by simp [go_sem]) (by simp [go_sem]) (by simp [go_sem]) (by simp [go_sem]) (by simp [go_sem]) (by simp [go_sem]) (by simp [go_sem]) (fun j => by simp [go_sem])
  have B0 : BigAt (((w.alloc (.cells #[.bool m, .int .i64 (a 0), .int .i64 (a 1), .int .i64 (a 2), .int .i64 (a 3), .int .i64 (a 4), .int .i64 (a 5)] 52)).alloc (.cells #[.bool n, .int .i64 (b 0), .int .i64 (b 1), .int .i64 (b 2), .int .i64 (b 3), .int .i64 (b 4), .int .i64 (b 5)] 52)).alloc (.cells #[.bool false, .int .i64 0, .int .i64 0, .int .i64 0, .int .i64 0, .int .i64 0, .int .i64 0] 52)) (w.heap.size + 1) n b := bigAt_of (by simp [go_sem]) (by simp [go_sem]) (by simp [go_sem]) (by simp [go_sem]) (by simp [go_sem]) (by simp [go_sem]) (by simp [go_sem]) (fun j => by simp [go_sem])
  have R0 : BigAt (((w.alloc (.cells #[.bool m, .int .i64 (a 0), .int .i64 (a 1), .int .i64 (a 2), .int .i64 (a 3), .int .i64 (a 4), .int .i64 (a 5)] 52)).alloc (.cells #[.bool n, .int .i64 (b 0), .int .i64 (b 1), .int .i64 (b 2), .int .i64 (b 3), .int .i64 (b 4), .int .i64 (b 5)] 52)).alloc (.cells #[.bool false, .int .i64 0, .int .i64 0, .int .i64 0, .int .i64 0, .int .i64 0, .int .i64 0] 52)) (w.heap.size + 1 + 1) false (fun _ => 0) := bigAt_of (by simp [go_sem]) (by simp [go_sem]) (by simp [go_sem]) (by simp [go_sem]) (by simp [go_sem]) (by simp [go_sem]) (by simp [go_sem]) (fun j => by simp [go_sem])
  have W0b : Below w.heap.size w (((w.alloc (.cells #[.bool m, .int .i64 (a 0), .int .i64 (a 1), .int .i64 (a 2), .int .i64 (a 3), .int .i64 (a 4), .int .i64 (a 5)] 52)).alloc (.cells #[.bool n, .int .i64 (b 0), .int .i64 (b 1), .int .i64 (b 2), .int .i64 (b 3), .int .i64 (b 4), .int .i64 (b 5)] 52)).alloc (.cells #[.bool false, .int .i64 0, .int .i64 0, .int .i64 0, .int .i64 0, .int .i64 0, .int .i64 0] 52)) := ((((Below.refl _ w).alloc (Nat.le_refl _) _).alloc (by simp) _).alloc (by simp; omega) _)
  have HA : Hid (BigAt (((w.alloc (.cells #[.bool m, .int .i64 (a 0), .int .i64 (a 1), .int .i64 (a 2), .int .i64 (a 3), .int .i64 (a 4), .int .i64 (a 5)] 52)).alloc (.cells #[.bool n, .int .i64 (b 0), .int .i64 (b 1), .int .i64 (b 2), .int .i64 (b 3), .int .i64 (b 4), .int .i64 (b 5)] 52)).alloc (.cells #[.bool false, .int .i64 0, .int .i64 0, .int .i64 0, .int .i64 0, .int .i64 0, .int .i64 0] 52)) w.heap.size m a ∧ BigAt (((w.alloc (.cells #[.bool m, .int .i64 (a 0), .int .i64 (a 1), .int .i64 (a 2), .int .i64 (a 3), .int .i64 (a 4), .int .i64 (a 5)] 52)).alloc (.cells #[.bool n, .int .i64 (b 0), .int .i64 (b 1), .int .i64 (b 2), .int .i64 (b 3), .int .i64 (b 4), .int .i64 (b 5)] 52)).alloc (.cells #[.bool false, .int .i64 0, .int .i64 0, .int .i64 0, .int .i64 0, .int .i64 0, .int .i64 0] 52)) (w.heap.size + 1) n b ∧ BigAt (((w.alloc (.cells #[.bool m, .int .i64 (a 0), .int .i64 (a 1), .int .i64 (a 2), .int .i64 (a 3), .int .i64 (a 4), .int .i64 (a 5)] 52)).alloc (.cells #[.bool n, .int .i64 (b 0), .int .i64 (b 1), .int .i64 (b 2), .int .i64 (b 3), .int .i64 (b 4), .int .i64 (b 5)] 52)).alloc (.cells #[.bool false, .int .i64 0, .int .i64 0, .int .i64 0, .int .i64 0, .int .i64 0, .int .i64 0] 52)) (w.heap.size + 1 + 1) false (fun _ => 0) ∧ Below w.heap.size w (((w.alloc (.cells #[.bool m, .int .i64 (a 0), .int .i64 (a 1), .int .i64 (a 2), .int .i64 (a 3), .int .i64 (a 4), .int .i64 (a 5)] 52)).alloc (.cells #[.bool n, .int .i64 (b 0), .int .i64 (b 1), .int .i64 (b 2), .int .i64 (b 3), .int .i64 (b 4), .int .i64 (b 5)] 52)).alloc (.cells #[.bool false, .int .i64 0, .int .i64 0, .int .i64 0, .int .i64 0, .int .i64 0, .int .i64 0] 52))) := ⟨A0, B0, R0, W0b⟩
  clear A0 B0 R0 W0b ha hb
  go_enter Try.func23, Try.ntmps23
  go_wp2
  go_loopw [5, 6] (fun c i wr => ∃ k : Nat, k ≤ 6 ∧ i = .int .i64 k ∧ c = .int .i64 (crP a b k) ∧ BigAt wr w.heap.size m (fun j => if j < k then dgP a b j else a j) ∧ BigAt wr (w.heap.size + 1) n b ∧ BigAt wr (w.heap.size + 1 + 1) false (fun _ => 0) ∧ Below w.heap.size w wr) (fun _ i _ => 6 - (intOf i).toNat)
  case atStart => exact ⟨0, by omega, rfl, rfl, by simpa using HA.out.1, HA.out.2.1, HA.out.2.2.1, HA.out.2.2.2⟩
  case round =>
    obtain ⟨k, hk, rfl, rfl, hA, hB, hR, hbel⟩ := hrel
    have HI : Hid (BigAt wr w.heap.size m (fun j => if j < k then dgP a b j else a j) ∧ BigAt wr (w.heap.size + 1) n b ∧ BigAt wr (w.heap.size + 1 + 1) false (fun _ => 0) ∧ Below w.heap.size w wr) := ⟨hA, hB, hR, hbel⟩
    by_cases hlt : k < 6
    · have c1 := hA.c k hlt
      simp only [Nat.lt_irrefl, if_false] at c1
      have c2 := hB.c k hlt
      have f1 := hA.f (1 + k)
      have d1 := HD.out.1 k hlt
      have d2 := HD.out.2 k hlt
      have d3 := crP_bd HD.out.1 HD.out.2 k hk
      clear hA hB hR hbel
      go_wp2
      go_quiet (fail)
      have HI2 : Hid (BigAt (wr.drewN nq) w.heap.size m (fun j => if j < k then dgP a b j else a j) ∧ BigAt (wr.drewN nq) (w.heap.size + 1) n b ∧ BigAt (wr.drewN nq) (w.heap.size + 1 + 1) false (fun _ => 0) ∧ Below w.heap.size w (wr.drewN nq)) := ⟨HI.out.1.drewN nq, HI.out.2.1.drewN nq, HI.out.2.2.1.drewN nq, bdrewN HI.out.2.2.2 nq⟩
      generalize wr.drewN nq = W1 at *
      have g1 := HI2.out.1.c k hlt
      simp only [Nat.lt_irrefl, if_false] at g1
      have g2 := HI2.out.1.f (1 + k)
      clear c1 c2 f1 HI
      go_wp2
      go_roundw
      case rel => exact ⟨k + 1, by omega, by go_num, rfl, (HI2.out.1.set k hlt _).eq (fun j hj => by
          by_cases e : j = k
          · subst e; simp [dgP]
          · simp only [e, if_false]
            by_cases e2 : j < k
            · rw [if_pos e2, if_pos (by omega)]
            · rw [if_neg e2, if_neg (by omega)]), HI2.out.2.1.other _ _ (by omega), HI2.out.2.2.1.other _ _ (by omega), bset HI2.out.2.2.2 _ _ _ (Nat.le_refl _)⟩
      case measure => simp [intOf]; omega
    · obtain rfl : k = 6 := by omega
      have hA' : BigAt wr w.heap.size m (dgP a b) := hA.eq (fun j hj => by simp [hj])
      have s0 := hA'.s
      have e0 : wr.cell? ⟨w.heap.size, 1, none⟩ = some (.int .i64 (dgP a b 0)) := hA'.c 0 (by omega)
      have e1 : wr.cell? ⟨w.heap.size, 2, none⟩ = some (.int .i64 (dgP a b 1)) := hA'.c 1 (by omega)
      have e2 : wr.cell? ⟨w.heap.size, 3, none⟩ = some (.int .i64 (dgP a b 2)) := hA'.c 2 (by omega)
      have e3 : wr.cell? ⟨w.heap.size, 4, none⟩ = some (.int .i64 (dgP a b 3)) := hA'.c 3 (by omega)
      have e4 : wr.cell? ⟨w.heap.size, 5, none⟩ = some (.int .i64 (dgP a b 4)) := hA'.c 4 (by omega)
      have e5 : wr.cell? ⟨w.heap.size, 6, none⟩ = some (.int .i64 (dgP a b 5)) := hA'.c 5 (by omega)
      have t0 := hR.s
      have t1 : wr.cell? ⟨w.heap.size + 1 + 1, 1, none⟩ = some (.int .i64 0) := hR.c 0 (by omega)
      have t2 : wr.cell? ⟨w.heap.size + 1 + 1, 2, none⟩ = some (.int .i64 0) := hR.c 1 (by omega)
      have t3 : wr.cell? ⟨w.heap.size + 1 + 1, 3, none⟩ = some (.int .i64 0) := hR.c 2 (by omega)
      have t4 : wr.cell? ⟨w.heap.size + 1 + 1, 4, none⟩ = some (.int .i64 0) := hR.c 3 (by omega)
      have t5 : wr.cell? ⟨w.heap.size + 1 + 1, 5, none⟩ = some (.int .i64 0) := hR.c 4 (by omega)
      have t6 : wr.cell? ⟨w.heap.size + 1 + 1, 6, none⟩ = some (.int .i64 0) := hR.c 5 (by omega)
      have tf := hR.f
      have HB : Hid (Below w.heap.size w wr) := hbel
      clear hA hA' hB hR hbel HI HA HD
      go_wp2
      exact bodyPost_ret (v := .agg #[.bool m, .int .i64 (dgP a b 0), .int .i64 (dgP a b 1), .int .i64 (dgP a b 2), .int .i64 (dgP a b 3), .int .i64 (dgP a b 4), .int .i64 (dgP a b 5)]) (by simp [results, Try.results23, go_sem, t0, t1, t2, t3, t4, t5, t6]) rfl ⟨rfl, bset (bset (bset (bset (bset (bset (bset HB.out _ _ _ (by omega)) _ _ _ (by omega)) _ _ _ (by omega)) _ _ _ (by omega)) _ _ _ (by omega)) _ _ _ (by omega)) _ _ _ (by omega)⟩
end Go.Proofs.Ytipbjoeekbgnbaa

namespace Go.Proofs.Ytipbjoeekbgnbaa
open Go.RowKit
set_option linter.unusedVariables false
set_option maxRecDepth 100000

set_option maxHeartbeats 1000000 in
theorem rless_any (m n : Bool) (a b : Nat → Int) (w : World) (ha : Dig a) (hb : Dig b) :
    Calls Try.prog 25 #[.agg #[.bool m, .int .i64 (a 0), .int .i64 (a 1), .int .i64 (a 2), .int .i64 (a 3), .int .i64 (a 4), .int .i64 (a 5)], .agg #[.bool n, .int .i64 (b 0), .int .i64 (b 1), .int .i64 (b 2), .int .i64 (b 3), .int .i64 (b 4), .int .i64 (b 5)]] w fun e w' => e = .returned (.agg #[.bool m, .int .i64 (dgL a b 0), .int .i64 (dgL a b 1), .int .i64 (dgL a b 2), .int .i64 (dgL a b 3), .int .i64 (dgL a b 4), .int .i64 (dgL a b 5)]) ∧ Below w.heap.size w w' := by
  have HD : Hid (Dig a ∧ Dig b) := ⟨ha, hb⟩
  have A0 : BigAt (((w.alloc (.cells #[.bool m, .int .i64 (a 0), .int .i64 (a 1), .int .i64 (a 2), .int .i64 (a 3), .int .i64 (a 4), .int .i64 (a 5)] 52)).alloc (.cells #[.bool n, .int .i64 (b 0), .int .i64 (b 1), .int .i64 (b 2), .int .i64 (b 3), .int .i64 (b 4), .int .i64 (b 5)] 52)).alloc (.cells #[.bool false, .int .i64 0, .int .i64 0, .int .i64 0, .int .i64 0, .int .i64 0, .int .i64 0] 52)) w.heap.size m a := bigAt_of (by simp [go_sem]) (by simp [go_sem]) (by simp [go_sem]) (by simp [go_sem]) (by simp [go_sem]) (by simp [go_sem]) (by simp [go_sem]) (fun j => by simp [go_sem])
  have B0 : BigAt (((w.alloc (.cells #[.bool m, .int .i64 (a 0), .int .i64 (a 1), .int .i64 (a 2), .int .i64 (a 3), .int .i64 (a 4), .int .i64 (a 5)] 52)).alloc (.cells #[.bool n, .int .i64 (b 0), .int .i64 (b 1), .int .i64 (b 2), .int .i64 (b 3), .int .i64 (b 4), .int .i64 (b 5)] 52)).alloc (.cells #[.bool false, .int .i64 0, .int .i64 0, .int .i64 0, .int .i64 0, .int .i64 0, .int .i64 0] 52)) (w.heap.size + 1) n b := bigAt_of (by simp [go_sem]) (by simp [go_sem]) (by simp [go_sem]) (by simp [go_sem]) (by simp [go_sem]) (by simp [go_sem]) (by simp [go_sem]) (fun j => by simp [go_sem])
  have R0 : BigAt (((w.alloc (.cells #[.bool m, .int .i64 (a 0), .int .i64 (a 1), .int .i64 (a 2), .int .i64 (a 3), .int .i64 (a 4), .int .i64 (a 5)] 52)).alloc (.cells #[.bool n, .int .i64 (b 0), .int .i64 (b 1), .int .i64 (b 2), .int .i64 (b 3), .int .i64 (b 4), .int .i64 (b 5)] 52)).alloc (.cells #[.bool false, .int .i64 0, .int .i64 0, .int .i64 0, .int .i64 0, .int .i64 0, .int .i64 0] 52)) (w.heap.size + 1 + 1) false (fun _ => 0) := bigAt_of (by simp [go_sem]) (by simp [go_sem]) (by simp [go_sem]) (by simp [go_sem]) (by simp [go_sem]) (by simp [go_sem]) (by simp [go_sem]) (fun j => by simp [go_sem])
  have W0b : Below w.heap.size w (((w.alloc (.cells #[.bool m, .int .i64 (a 0), .int .i64 (a 1), .int .i64 (a 2), .int .i64 (a 3), .int .i64 (a 4), .int .i64 (a 5)] 52)).alloc (.cells #[.bool n, .int .i64 (b 0), .int .i64 (b 1), .int .i64 (b 2), .int .i64 (b 3), .int .i64 (b 4), .int .i64 (b 5)] 52)).alloc (.cells #[.bool false, .int .i64 0, .int .i64 0, .int .i64 0, .int .i64 0, .int .i64 0, .int .i64 0] 52)) := ((((Below.refl _ w).alloc (Nat.le_refl _) _).alloc (by simp) _).alloc (by simp; omega) _)
  have HA : Hid (BigAt (((w.alloc (.cells #[.bool m, .int .i64 (a 0), .int .i64 (a 1), .int .i64 (a 2), .int .i64 (a 3), .int .i64 (a 4), .int .i64 (a 5)] 52)).alloc (.cells #[.bool n, .int .i64 (b 0), .int .i64 (b 1), .int .i64 (b 2), .int .i64 (b 3), .int .i64 (b 4), .int .i64 (b 5)] 52)).alloc (.cells #[.bool false, .int .i64 0, .int .i64 0, .int .i64 0, .int .i64 0, .int .i64 0, .int .i64 0] 52)) w.heap.size m a ∧ BigAt (((w.alloc (.cells #[.bool m, .int .i64 (a 0), .int .i64 (a 1), .int .i64 (a 2), .int .i64 (a 3), .int .i64 (a 4), .int .i64 (a 5)] 52)).alloc (.cells #[.bool n, .int .i64 (b 0), .int .i64 (b 1), .int .i64 (b 2), .int .i64 (b 3), .int .i64 (b 4), .int .i64 (b 5)] 52)).alloc (.cells #[.bool false, .int .i64 0, .int .i64 0, .int .i64 0, .int .i64 0, .int .i64 0, .int .i64 0] 52)) (w.heap.size + 1) n b ∧ BigAt (((w.alloc (.cells #[.bool m, .int .i64 (a 0), .int .i64 (a 1), .int .i64 (a 2), .int .i64 (a 3), .int .i64 (a 4), .int .i64 (a 5)] 52)).alloc (.cells #[.bool n, .int .i64 (b 0), .int .i64 (b 1), .int .i64 (b 2), .int .i64 (b 3), .int .i64 (b 4), .int .i64 (b 5)] 52)).alloc (.cells #[.bool false, .int .i64 0, .int .i64 0, .int .i64 0, .int .i64 0, .int .i64 0, .int .i64 0] 52)) (w.heap.size + 1 + 1) false (fun _ => 0) ∧ Below w.heap.size w (((w.alloc (.cells #[.bool m, .int .i64 (a 0), .int .i64 (a 1), .int .i64 (a 2), .int .i64 (a 3), .int .i64 (a 4), .int .i64 (a 5)] 52)).alloc (.cells #[.bool n, .int .i64 (b 0), .int .i64 (b 1), .int .i64 (b 2), .int .i64 (b 3), .int .i64 (b 4), .int .i64 (b 5)] 52)).alloc (.cells #[.bool false, .int .i64 0, .int .i64 0, .int .i64 0, .int .i64 0, .int .i64 0, .int .i64 0] 52))) := ⟨A0, B0, R0, W0b⟩
  clear A0 B0 R0 W0b ha hb
  go_enter Try.func25, Try.ntmps25
  go_wp2
  go_loopw [5, 6] (fun c i wr => ∃ k : Nat, k ≤ 6 ∧ i = .int .i64 k ∧ c = .int .i64 (brL a b k) ∧ BigAt wr w.heap.size m (fun j => if j < k then dgL a b j else a j) ∧ BigAt wr (w.heap.size + 1) n b ∧ BigAt wr (w.heap.size + 1 + 1) false (fun _ => 0) ∧ Below w.heap.size w wr) (fun _ i _ => 6 - (intOf i).toNat)
  case atStart => exact ⟨0, by omega, rfl, rfl, by simpa using HA.out.1, HA.out.2.1, HA.out.2.2.1, HA.out.2.2.2⟩
  case round =>
    obtain ⟨k, hk, rfl, rfl, hA, hB, hR, hbel⟩ := hrel
    have HI : Hid (BigAt wr w.heap.size m (fun j => if j < k then dgL a b j else a j) ∧ BigAt wr (w.heap.size + 1) n b ∧ BigAt wr (w.heap.size + 1 + 1) false (fun _ => 0) ∧ Below w.heap.size w wr) := ⟨hA, hB, hR, hbel⟩
    by_cases hlt : k < 6
    · have c1 := hA.c k hlt
      simp only [Nat.lt_irrefl, if_false] at c1
      have c2 := hB.c k hlt
      have d1 := HD.out.1 k hlt
      have d2 := HD.out.2 k hlt
      have d3 := brL_bd a b k
      have HN : Hid (brL a b (k + 1) = if a k - b k - brL a b k < 0 then 1 else 0) := rfl
      have HG : Hid (dgL a b k = if a k - b k - brL a b k < 0 then a k - b k - brL a b k + 4294967296 else a k - b k - brL a b k) := rfl
      clear hA hB hR hbel
      go_wp2
      go_quiet (fail)
      have HI2 : Hid (BigAt (wr.drewN nq) w.heap.size m (fun j => if j < k then dgL a b j else a j) ∧ BigAt (wr.drewN nq) (w.heap.size + 1) n b ∧ BigAt (wr.drewN nq) (w.heap.size + 1 + 1) false (fun _ => 0) ∧ Below w.heap.size w (wr.drewN nq)) := ⟨HI.out.1.drewN nq, HI.out.2.1.drewN nq, HI.out.2.2.1.drewN nq, bdrewN HI.out.2.2.2 nq⟩
      generalize wr.drewN nq = W1 at *
      have g1 := HI2.out.1.c k hlt
      simp only [Nat.lt_irrefl, if_false] at g1
      have g2 := HI2.out.1.f (1 + k)
      clear c1 c2 HI
      have rel : ∀ x, dgL a b k = x → BigAt (W1.setCell ⟨w.heap.size, 1 + k, none⟩ (.int .i64 x)) w.heap.size m (fun j => if j < k + 1 then dgL a b j else a j) := fun x hx => (HI2.out.1.set k hlt x).eq (fun j hj => by
        by_cases e : j = k
        · subst e; simp [hx]
        · simp only [e, if_false]
          by_cases e2 : j < k
          · rw [if_pos e2, if_pos (by omega)]
          · rw [if_neg e2, if_neg (by omega)])
      have RL : Hid (∀ x, dgL a b k = x → BigAt (W1.setCell ⟨w.heap.size, 1 + k, none⟩ (.int .i64 x)) w.heap.size m (fun j => if j < k + 1 then dgL a b j else a j)) := rel
      clear rel
      by_cases hv : a k - b k - brL a b k < 0
      · go_wp2
        go_roundw
        case rel => exact ⟨k + 1, by omega, by go_num, by rw [HN.out, if_pos hv], RL.out _ (by rw [HG.out, if_pos hv]), HI2.out.2.1.other _ _ (by omega), HI2.out.2.2.1.other _ _ (by omega), bset HI2.out.2.2.2 _ _ _ (Nat.le_refl _)⟩
        case measure => simp [intOf]; omega
      · go_wp2
        go_roundw
        case rel => exact ⟨k + 1, by omega, by go_num, by rw [HN.out, if_neg hv], RL.out _ (by rw [HG.out, if_neg hv]), HI2.out.2.1.other _ _ (by omega), HI2.out.2.2.1.other _ _ (by omega), bset HI2.out.2.2.2 _ _ _ (Nat.le_refl _)⟩
        case measure => simp [intOf]; omega
    · obtain rfl : k = 6 := by omega
      have hA' : BigAt wr w.heap.size m (dgL a b) := hA.eq (fun j hj => by simp [hj])
      have s0 := hA'.s
      have e0 : wr.cell? ⟨w.heap.size, 1, none⟩ = some (.int .i64 (dgL a b 0)) := hA'.c 0 (by omega)
      have e1 : wr.cell? ⟨w.heap.size, 2, none⟩ = some (.int .i64 (dgL a b 1)) := hA'.c 1 (by omega)
      have e2 : wr.cell? ⟨w.heap.size, 3, none⟩ = some (.int .i64 (dgL a b 2)) := hA'.c 2 (by omega)
      have e3 : wr.cell? ⟨w.heap.size, 4, none⟩ = some (.int .i64 (dgL a b 3)) := hA'.c 3 (by omega)
      have e4 : wr.cell? ⟨w.heap.size, 5, none⟩ = some (.int .i64 (dgL a b 4)) := hA'.c 4 (by omega)
      have e5 : wr.cell? ⟨w.heap.size, 6, none⟩ = some (.int .i64 (dgL a b 5)) := hA'.c 5 (by omega)
      have t0 := hR.s
      have t1 : wr.cell? ⟨w.heap.size + 1 + 1, 1, none⟩ = some (.int .i64 0) := hR.c 0 (by omega)
      have t2 : wr.cell? ⟨w.heap.size + 1 + 1, 2, none⟩ = some (.int .i64 0) := hR.c 1 (by omega)
      have t3 : wr.cell? ⟨w.heap.size + 1 + 1, 3, none⟩ = some (.int .i64 0) := hR.c 2 (by omega)
      have t4 : wr.cell? ⟨w.heap.size + 1 + 1, 4, none⟩ = some (.int .i64 0) := hR.c 3 (by omega)
      have t5 : wr.cell? ⟨w.heap.size + 1 + 1, 5, none⟩ = some (.int .i64 0) := hR.c 4 (by omega)
      have t6 : wr.cell? ⟨w.heap.size + 1 + 1, 6, none⟩ = some (.int .i64 0) := hR.c 5 (by omega)
      have tf := hR.f
      have HB : Hid (Below w.heap.size w wr) := hbel
      clear hA hA' hB hR hbel HI HA HD
      go_wp2
      exact bodyPost_ret (v := .agg #[.bool m, .int .i64 (dgL a b 0), .int .i64 (dgL a b 1), .int .i64 (dgL a b 2), .int .i64 (dgL a b 3), .int .i64 (dgL a b 4), .int .i64 (dgL a b 5)]) (by simp [results, Try.results25, go_sem, t0, t1, t2, t3, t4, t5, t6]) rfl ⟨rfl, bset (bset (bset (bset (bset (bset (bset HB.out _ _ _ (by omega)) _ _ _ (by omega)) _ _ _ (by omega)) _ _ _ (by omega)) _ _ _ (by omega)) _ _ _ (by omega)) _ _ _ (by omega)⟩
end Go.Proofs.Ytipbjoeekbgnbaa

namespace Go.Proofs.Ytipbjoeekbgnbaa
open Go.RowKit
set_option linter.unusedVariables false
set_option maxRecDepth 100000

/-- Whether all six digits are nought. -/
def zB (a : Nat → Int) : Bool := a 0 == 0 && (a 1 == 0 && (a 2 == 0 && (a 3 == 0 && (a 4 == 0 && a 5 == 0))))
set_option maxHeartbeats 2000000 in
theorem eq_six (a : Nat → Int) (w : World) : (Op.equalIn 10000 50 (.agg #[.int .i64 (a 0), .int .i64 (a 1), .int .i64 (a 2), .int .i64 (a 3), .int .i64 (a 4), .int .i64 (a 5)]) (.agg #[.int .i64 0, .int .i64 0, .int .i64 0, .int .i64 0, .int .i64 0, .int .i64 0])).run Try.prog w = .ok (zB a) w := by
  have u3 := Try.underlying3
  have a3 := Try.isAgg3
  have z3 := Try.sizeOf3
  unfold zB
  generalize a 0 = a0
  generalize a 1 = a1
  generalize a 2 = a2
  generalize a 3 = a3'
  generalize a 4 = a4
  generalize a 5 = a5
  rw [show (10000 : Nat) = 9999 + 1 from rfl, Op.equalIn]
  simp only [Sem.run_bind, run_underlying Try.underlying50, Result.andThen_ok]
  simp only [Std.Legacy.Range.forIn_eq_forIn_range', Std.Legacy.Range.size, Nat.sub_zero, Nat.add_sub_cancel, Nat.div_one, List.range'_succ, List.range'_zero, List.forIn_cons, List.forIn_nil]
  go_simp
  by_cases h0 : a0 = 0
  · by_cases h1 : a1 = 0
    · by_cases h2 : a2 = 0
      · by_cases h3 : a3' = 0
        · by_cases h4 : a4 = 0
          · by_cases h5 : a5 = 0 <;> simp [h0, h1, h2, h3, h4, h5]
          · simp [h0, h1, h2, h3, h4]
        · simp [h0, h1, h2, h3]
      · simp [h0, h1, h2]
    · simp [h0, h1]
  · simp [h0]
set_option maxHeartbeats 400000 in
theorem bzero_any (m : Bool) (a : Nat → Int) (w : World) :
    Calls Try.prog 26 #[.agg #[.bool m, .int .i64 (a 0), .int .i64 (a 1), .int .i64 (a 2), .int .i64 (a 3), .int .i64 (a 4), .int .i64 (a 5)]] w fun e w' => e = .returned (.bool (zB a)) ∧ Below w.heap.size w w' := by
  have he := eq_six a
  go_enter Try.func26, Try.ntmps26
  go_wp2
  go_ret
  exact ⟨rfl, (Below.refl _ _).alloc (Nat.le_refl _) _⟩
end Go.Proofs.Ytipbjoeekbgnbaa

namespace Go.Proofs.Ytipbjoeekbgnbaa
open Go.RowKit
set_option linter.unusedVariables false
set_option maxRecDepth 100000

set_option maxHeartbeats 1000000 in
theorem addOne_any (m : Bool) (a : Nat → Int) (w : World) (ha : Dig a) :
    Calls Try.prog 28 #[.agg #[.bool m, .int .i64 (a 0), .int .i64 (a 1), .int .i64 (a 2), .int .i64 (a 3), .int .i64 (a 4), .int .i64 (a 5)]] w fun e w' => e = .returned (.agg #[.bool m, .int .i64 (dgP a oneD 0), .int .i64 (dgP a oneD 1), .int .i64 (dgP a oneD 2), .int .i64 (dgP a oneD 3), .int .i64 (dgP a oneD 4), .int .i64 (dgP a oneD 5)]) ∧ Below w.heap.size w w' := by
  have HD : Hid (Dig a) := ha
  have A0 : BigAt ((w.alloc (.cells #[.bool m, .int .i64 (a 0), .int .i64 (a 1), .int .i64 (a 2), .int .i64 (a 3), .int .i64 (a 4), .int .i64 (a 5)] 52)).alloc (.cells #[.bool false, .int .i64 0, .int .i64 0, .int .i64 0, .int .i64 0, .int .i64 0, .int .i64 0] 52)) w.heap.size m a := bigAt_of (by simp [go_sem]) (by simp [go_sem]) (by simp [go_sem]) (by simp [go_sem]) (by simp [go_sem]) (by simp [go_sem]) (by simp [go_sem]) (fun j => by simp [go_sem])
  have R0 : BigAt ((w.alloc (.cells #[.bool m, .int .i64 (a 0), .int .i64 (a 1), .int .i64 (a 2), .int .i64 (a 3), .int .i64 (a 4), .int .i64 (a 5)] 52)).alloc (.cells #[.bool false, .int .i64 0, .int .i64 0, .int .i64 0, .int .i64 0, .int .i64 0, .int .i64 0] 52)) (w.heap.size + 1) false (fun _ => 0) := bigAt_of (by simp [go_sem]) (by simp [go_sem]) (by simp [go_sem]) (by simp [go_sem]) (by simp [go_sem]) (by simp [go_sem]) (by simp [go_sem]) (fun j => by simp [go_sem])
  have W0b : Below w.heap.size w ((w.alloc (.cells #[.bool m, .int .i64 (a 0), .int .i64 (a 1), .int .i64 (a 2), .int .i64 (a 3), .int .i64 (a 4), .int .i64 (a 5)] 52)).alloc (.cells #[.bool false, .int .i64 0, .int .i64 0, .int .i64 0, .int .i64 0, .int .i64 0, .int .i64 0] 52)) := (((Below.refl _ w).alloc (Nat.le_refl _) _).alloc (by simp) _)
  have HA : Hid (BigAt ((w.alloc (.cells #[.bool m, .int .i64 (a 0), .int .i64 (a 1), .int .i64 (a 2), .int .i64 (a 3), .int .i64 (a 4), .int .i64 (a 5)] 52)).alloc (.cells #[.bool false, .int .i64 0, .int .i64 0, .int .i64 0, .int .i64 0, .int .i64 0, .int .i64 0] 52)) w.heap.size m a ∧ BigAt ((w.alloc (.cells #[.bool m, .int .i64 (a 0), .int .i64 (a 1), .int .i64 (a 2), .int .i64 (a 3), .int .i64 (a 4), .int .i64 (a 5)] 52)).alloc (.cells #[.bool false, .int .i64 0, .int .i64 0, .int .i64 0, .int .i64 0, .int .i64 0, .int .i64 0] 52)) (w.heap.size + 1) false (fun _ => 0) ∧ Below w.heap.size w ((w.alloc (.cells #[.bool m, .int .i64 (a 0), .int .i64 (a 1), .int .i64 (a 2), .int .i64 (a 3), .int .i64 (a 4), .int .i64 (a 5)] 52)).alloc (.cells #[.bool false, .int .i64 0, .int .i64 0, .int .i64 0, .int .i64 0, .int .i64 0, .int .i64 0] 52))) := ⟨A0, R0, W0b⟩
  clear A0 R0 W0b ha
  go_enter Try.func28, Try.ntmps28
  go_wp2
  go_loopw [3] (fun i wr => ∃ k : Nat, k ≤ 6 ∧ i = .int .i64 k ∧ (∀ j, j < k → a j = 4294967295) ∧ BigAt wr w.heap.size m (fun j => if j < k then 0 else a j) ∧ BigAt wr (w.heap.size + 1) false (fun _ => 0) ∧ Below w.heap.size w wr) (fun i _ => 6 - (intOf i).toNat)
  case atStart => exact ⟨0, by omega, rfl, fun j h => by omega, by simpa using HA.out.1, HA.out.2.1, HA.out.2.2⟩
  case round =>
    obtain ⟨k, hk, rfl, hfull, hA, hR, hbel⟩ := hrel
    have HF : Hid (∀ j, j < k → a j = 4294967295) := hfull
    have HI : Hid (BigAt wr w.heap.size m (fun j => if j < k then 0 else a j) ∧ BigAt wr (w.heap.size + 1) false (fun _ => 0) ∧ Below w.heap.size w wr) := ⟨hA, hR, hbel⟩
    clear hfull
    by_cases hlt : k < 6
    · have c1 := hA.c k hlt
      simp only [Nat.lt_irrefl, if_false] at c1
      have f1 := hA.f (1 + k)
      have d1 := HD.out k hlt
      by_cases hv : a k + 1 < 4294967296
      · have hA' : BigAt (wr.setCell ⟨w.heap.size, 1 + k, none⟩ (.int .i64 (a k + 1))) w.heap.size m (dgP a oneD) := (hA.set k hlt _).eq (fun j hj => by
          have hc := cin_full a k HF.out
          rw [dgP_one]
          by_cases e : j = k
          · subst e; simp only [if_true]; rw [hc]; omega
          · simp only [e, if_false]
            by_cases e2 : j < k
            · rw [if_pos e2, cin_full a j (fun i hi => HF.out i (by omega)), HF.out j e2]; rfl
            · rw [if_neg e2, cin_none HD.out k (by rw [hc]; exact hv) (by rw [hc]; omega) j (by omega) (by omega)]
              have := HD.out j hj; omega)
        have hR' := hR.other (1 + k) (.int .i64 (a k + 1)) (show w.heap.size + 1 ≠ w.heap.size by omega)
        have HW : Hid (BigAt (wr.setCell ⟨w.heap.size, 1 + k, none⟩ (.int .i64 (a k + 1))) w.heap.size m (dgP a oneD) ∧ BigAt (wr.setCell ⟨w.heap.size, 1 + k, none⟩ (.int .i64 (a k + 1))) (w.heap.size + 1) false (fun _ => 0) ∧ Below w.heap.size w (wr.setCell ⟨w.heap.size, 1 + k, none⟩ (.int .i64 (a k + 1)))) := ⟨hA', hR', bset hbel _ _ _ (Nat.le_refl _)⟩
        have g1 : (wr.setCell ⟨w.heap.size, 1 + k, none⟩ (.int .i64 (a k + 1))).cell? ⟨w.heap.size, 1 + k, none⟩ = some (.int .i64 (a k + 1)) := World.cell?_setCell_same _ _ _ c1
        have s0 := hA'.s
        have e0 : (wr.setCell ⟨w.heap.size, 1 + k, none⟩ (.int .i64 (a k + 1))).cell? ⟨w.heap.size, 1, none⟩ = some (.int .i64 (dgP a oneD 0)) := hA'.c 0 (by omega)
        have e1 : (wr.setCell ⟨w.heap.size, 1 + k, none⟩ (.int .i64 (a k + 1))).cell? ⟨w.heap.size, 2, none⟩ = some (.int .i64 (dgP a oneD 1)) := hA'.c 1 (by omega)
        have e2 : (wr.setCell ⟨w.heap.size, 1 + k, none⟩ (.int .i64 (a k + 1))).cell? ⟨w.heap.size, 3, none⟩ = some (.int .i64 (dgP a oneD 2)) := hA'.c 2 (by omega)
        have e3 : (wr.setCell ⟨w.heap.size, 1 + k, none⟩ (.int .i64 (a k + 1))).cell? ⟨w.heap.size, 4, none⟩ = some (.int .i64 (dgP a oneD 3)) := hA'.c 3 (by omega)
        have e4 : (wr.setCell ⟨w.heap.size, 1 + k, none⟩ (.int .i64 (a k + 1))).cell? ⟨w.heap.size, 5, none⟩ = some (.int .i64 (dgP a oneD 4)) := hA'.c 4 (by omega)
        have e5 : (wr.setCell ⟨w.heap.size, 1 + k, none⟩ (.int .i64 (a k + 1))).cell? ⟨w.heap.size, 6, none⟩ = some (.int .i64 (dgP a oneD 5)) := hA'.c 5 (by omega)
        have t0 := hR'.s
        have t1 : (wr.setCell ⟨w.heap.size, 1 + k, none⟩ (.int .i64 (a k + 1))).cell? ⟨w.heap.size + 1, 1, none⟩ = some (.int .i64 0) := hR'.c 0 (by omega)
        have t2 : (wr.setCell ⟨w.heap.size, 1 + k, none⟩ (.int .i64 (a k + 1))).cell? ⟨w.heap.size + 1, 2, none⟩ = some (.int .i64 0) := hR'.c 1 (by omega)
        have t3 : (wr.setCell ⟨w.heap.size, 1 + k, none⟩ (.int .i64 (a k + 1))).cell? ⟨w.heap.size + 1, 3, none⟩ = some (.int .i64 0) := hR'.c 2 (by omega)
        have t4 : (wr.setCell ⟨w.heap.size, 1 + k, none⟩ (.int .i64 (a k + 1))).cell? ⟨w.heap.size + 1, 4, none⟩ = some (.int .i64 0) := hR'.c 3 (by omega)
        have t5 : (wr.setCell ⟨w.heap.size, 1 + k, none⟩ (.int .i64 (a k + 1))).cell? ⟨w.heap.size + 1, 5, none⟩ = some (.int .i64 0) := hR'.c 4 (by omega)
        have t6 : (wr.setCell ⟨w.heap.size, 1 + k, none⟩ (.int .i64 (a k + 1))).cell? ⟨w.heap.size + 1, 6, none⟩ = some (.int .i64 0) := hR'.c 5 (by omega)
        have tf := hR'.f
        have HB : Hid (Below w.heap.size w (wr.setCell ⟨w.heap.size, 1 + k, none⟩ (.int .i64 (a k + 1)))) := HW.out.2.2
        clear hA hR hbel hA' hR' HI HF HW HA HD
        go_wp2
        exact bodyPost_ret (v := .agg #[.bool m, .int .i64 (dgP a oneD 0), .int .i64 (dgP a oneD 1), .int .i64 (dgP a oneD 2), .int .i64 (dgP a oneD 3), .int .i64 (dgP a oneD 4), .int .i64 (dgP a oneD 5)]) (by simp [results, Try.results28, go_sem, t0, t1, t2, t3, t4, t5, t6]) rfl ⟨rfl, bset (bset (bset (bset (bset (bset (bset HB.out _ _ _ (by omega)) _ _ _ (by omega)) _ _ _ (by omega)) _ _ _ (by omega)) _ _ _ (by omega)) _ _ _ (by omega)) _ _ _ (by omega)⟩
      · have c2 : a k = 4294967295 := by omega
        have hA' : BigAt ((wr.setCell ⟨w.heap.size, 1 + k, none⟩ (.int .i64 (a k + 1))).setCell ⟨w.heap.size, 1 + k, none⟩ (.int .i64 0)) w.heap.size m (fun j => if j < k + 1 then 0 else a j) := ((hA.set k hlt _).set k hlt _).eq (fun j hj => by
          by_cases e : j = k
          · subst e; simp
          · simp only [e, if_false]
            by_cases e2 : j < k
            · rw [if_pos e2, if_pos (by omega)]
            · rw [if_neg e2, if_neg (by omega)])
        have hR' := (hR.other (1 + k) (.int .i64 (a k + 1)) (show w.heap.size + 1 ≠ w.heap.size by omega)).other (1 + k) (.int .i64 0) (show w.heap.size + 1 ≠ w.heap.size by omega)
        have g1 : (wr.setCell ⟨w.heap.size, 1 + k, none⟩ (.int .i64 (a k + 1))).cell? ⟨w.heap.size, 1 + k, none⟩ = some (.int .i64 (a k + 1)) := World.cell?_setCell_same _ _ _ c1
        have HX : Hid (BigAt ((wr.setCell ⟨w.heap.size, 1 + k, none⟩ (.int .i64 (a k + 1))).setCell ⟨w.heap.size, 1 + k, none⟩ (.int .i64 0)) w.heap.size m (fun j => if j < k + 1 then 0 else a j) ∧ BigAt ((wr.setCell ⟨w.heap.size, 1 + k, none⟩ (.int .i64 (a k + 1))).setCell ⟨w.heap.size, 1 + k, none⟩ (.int .i64 0)) (w.heap.size + 1) false (fun _ => 0) ∧ Below w.heap.size w ((wr.setCell ⟨w.heap.size, 1 + k, none⟩ (.int .i64 (a k + 1))).setCell ⟨w.heap.size, 1 + k, none⟩ (.int .i64 0)) ∧ a k = 4294967295) := ⟨hA', hR', bset (bset hbel _ _ _ (Nat.le_refl _)) _ _ _ (Nat.le_refl _), c2⟩
        clear hA hR hbel hA' hR' c2
        have HF2 : Hid (∀ j, j < k + 1 → a j = 4294967295) := fun j hj => by
          by_cases e : j = k
          · rw [e]; exact HX.out.2.2.2
          · exact HF.out j (by omega)
        go_wp2
        go_roundw
        case rel => exact ⟨k + 1, by omega, by go_num, HF2.out, HX.out.1, HX.out.2.1, HX.out.2.2.1⟩
        case measure => simp [intOf]; omega
    · obtain rfl : k = 6 := by omega
      have hA' : BigAt wr w.heap.size m (dgP a oneD) := hA.eq (fun j hj => by
        rw [if_pos hj, dgP_one, cin_full a j (fun i hi => HF.out i (by omega)), HF.out j hj]; rfl)
      have s0 := hA'.s
      have e0 : wr.cell? ⟨w.heap.size, 1, none⟩ = some (.int .i64 (dgP a oneD 0)) := hA'.c 0 (by omega)
      have e1 : wr.cell? ⟨w.heap.size, 2, none⟩ = some (.int .i64 (dgP a oneD 1)) := hA'.c 1 (by omega)
      have e2 : wr.cell? ⟨w.heap.size, 3, none⟩ = some (.int .i64 (dgP a oneD 2)) := hA'.c 2 (by omega)
      have e3 : wr.cell? ⟨w.heap.size, 4, none⟩ = some (.int .i64 (dgP a oneD 3)) := hA'.c 3 (by omega)
      have e4 : wr.cell? ⟨w.heap.size, 5, none⟩ = some (.int .i64 (dgP a oneD 4)) := hA'.c 4 (by omega)
      have e5 : wr.cell? ⟨w.heap.size, 6, none⟩ = some (.int .i64 (dgP a oneD 5)) := hA'.c 5 (by omega)
      have t0 := hR.s
      have t1 : wr.cell? ⟨w.heap.size + 1, 1, none⟩ = some (.int .i64 0) := hR.c 0 (by omega)
      have t2 : wr.cell? ⟨w.heap.size + 1, 2, none⟩ = some (.int .i64 0) := hR.c 1 (by omega)
      have t3 : wr.cell? ⟨w.heap.size + 1, 3, none⟩ = some (.int .i64 0) := hR.c 2 (by omega)
      have t4 : wr.cell? ⟨w.heap.size + 1, 4, none⟩ = some (.int .i64 0) := hR.c 3 (by omega)
      have t5 : wr.cell? ⟨w.heap.size + 1, 5, none⟩ = some (.int .i64 0) := hR.c 4 (by omega)
      have t6 : wr.cell? ⟨w.heap.size + 1, 6, none⟩ = some (.int .i64 0) := hR.c 5 (by omega)
      have tf := hR.f
      have HB : Hid (Below w.heap.size w wr) := hbel
      clear hA hA' hR hbel HI HA HD HF
      go_wp2
      exact bodyPost_ret (v := .agg #[.bool m, .int .i64 (dgP a oneD 0), .int .i64 (dgP a oneD 1), .int .i64 (dgP a oneD 2), .int .i64 (dgP a oneD 3), .int .i64 (dgP a oneD 4), .int .i64 (dgP a oneD 5)]) (by simp [results, Try.results28, go_sem, t0, t1, t2, t3, t4, t5, t6]) rfl ⟨rfl, bset (bset (bset (bset (bset (bset (bset HB.out _ _ _ (by omega)) _ _ _ (by omega)) _ _ _ (by omega)) _ _ _ (by omega)) _ _ _ (by omega)) _ _ _ (by omega)) _ _ _ (by omega)⟩
end Go.Proofs.Ytipbjoeekbgnbaa

namespace Go.Proofs.Ytipbjoeekbgnbaa
open Go.RowKit
set_option linter.unusedVariables false
set_option maxRecDepth 100000

set_option maxHeartbeats 1000000 in
theorem rsize_any (m n : Bool) (a b : Nat → Int) (w : World) (ha : Dig a) (hb : Dig b) :
    Calls Try.prog 24 #[.agg #[.bool m, .int .i64 (a 0), .int .i64 (a 1), .int .i64 (a 2), .int .i64 (a 3), .int .i64 (a 4), .int .i64 (a 5)], .agg #[.bool n, .int .i64 (b 0), .int .i64 (b 1), .int .i64 (b 2), .int .i64 (b 3), .int .i64 (b 4), .int .i64 (b 5)]] w fun e w' => e = .returned (.int .i64 (sgnV a b)) ∧ Below w.heap.size w w' := by
  have HD : Hid (Dig a ∧ Dig b) := ⟨ha, hb⟩
  have A0 : BigAt ((w.alloc (.cells #[.bool m, .int .i64 (a 0), .int .i64 (a 1), .int .i64 (a 2), .int .i64 (a 3), .int .i64 (a 4), .int .i64 (a 5)] 52)).alloc (.cells #[.bool n, .int .i64 (b 0), .int .i64 (b 1), .int .i64 (b 2), .int .i64 (b 3), .int .i64 (b 4), .int .i64 (b 5)] 52)) w.heap.size m a := bigAt_of (by simp [go_sem]) (by simp [go_sem]) (by simp [go_sem]) (by simp [go_sem]) (by simp [go_sem]) (by simp [go_sem]) (by simp [go_sem]) (fun j => by simp [go_sem])
  have B0 : BigAt ((w.alloc (.cells #[.bool m, .int .i64 (a 0), .int .i64 (a 1), .int .i64 (a 2), .int .i64 (a 3), .int .i64 (a 4), .int .i64 (a 5)] 52)).alloc (.cells #[.bool n, .int .i64 (b 0), .int .i64 (b 1), .int .i64 (b 2), .int .i64 (b 3), .int .i64 (b 4), .int .i64 (b 5)] 52)) (w.heap.size + 1) n b := bigAt_of (by simp [go_sem]) (by simp [go_sem]) (by simp [go_sem]) (by simp [go_sem]) (by simp [go_sem]) (by simp [go_sem]) (by simp [go_sem]) (fun j => by simp [go_sem])
  have W0b : Below w.heap.size w ((w.alloc (.cells #[.bool m, .int .i64 (a 0), .int .i64 (a 1), .int .i64 (a 2), .int .i64 (a 3), .int .i64 (a 4), .int .i64 (a 5)] 52)).alloc (.cells #[.bool n, .int .i64 (b 0), .int .i64 (b 1), .int .i64 (b 2), .int .i64 (b 3), .int .i64 (b 4), .int .i64 (b 5)] 52)) := (((Below.refl _ w).alloc (Nat.le_refl _) _).alloc (by simp) _)
  have HA : Hid (BigAt ((w.alloc (.cells #[.bool m, .int .i64 (a 0), .int .i64 (a 1), .int .i64 (a 2), .int .i64 (a 3), .int .i64 (a 4), .int .i64 (a 5)] 52)).alloc (.cells #[.bool n, .int .i64 (b 0), .int .i64 (b 1), .int .i64 (b 2), .int .i64 (b 3), .int .i64 (b 4), .int .i64 (b 5)] 52)) w.heap.size m a ∧ BigAt ((w.alloc (.cells #[.bool m, .int .i64 (a 0), .int .i64 (a 1), .int .i64 (a 2), .int .i64 (a 3), .int .i64 (a 4), .int .i64 (a 5)] 52)).alloc (.cells #[.bool n, .int .i64 (b 0), .int .i64 (b 1), .int .i64 (b 2), .int .i64 (b 3), .int .i64 (b 4), .int .i64 (b 5)] 52)) (w.heap.size + 1) n b ∧ Below w.heap.size w ((w.alloc (.cells #[.bool m, .int .i64 (a 0), .int .i64 (a 1), .int .i64 (a 2), .int .i64 (a 3), .int .i64 (a 4), .int .i64 (a 5)] 52)).alloc (.cells #[.bool n, .int .i64 (b 0), .int .i64 (b 1), .int .i64 (b 2), .int .i64 (b 3), .int .i64 (b 4), .int .i64 (b 5)] 52))) := ⟨A0, B0, W0b⟩
  clear A0 B0 W0b ha hb
  go_enter Try.func24, Try.ntmps24
  go_wp2
  go_loopw [5] (fun i wr => ∃ k : Nat, k ≤ 6 ∧ i = .int .i64 ((k : Int) - 1) ∧ (∀ j, k ≤ j → j < 6 → a j = b j) ∧ BigAt wr w.heap.size m a ∧ BigAt wr (w.heap.size + 1) n b ∧ Below w.heap.size w wr) (fun i _ => (intOf i + 1).toNat)
  case atStart => exact ⟨6, by omega, by go_num, fun j h1 h2 => by omega, HA.out.1, HA.out.2.1, HA.out.2.2⟩
  case round =>
    obtain ⟨k, hk, rfl, heq, hA, hB, hbel⟩ := hrel
    have HQ : Hid (∀ j, k ≤ j → j < 6 → a j = b j) := heq
    have HI : Hid (BigAt wr w.heap.size m a ∧ BigAt wr (w.heap.size + 1) n b ∧ Below w.heap.size w wr) := ⟨hA, hB, hbel⟩
    clear heq
    by_cases h0 : k = 0
    · subst h0
      have HE : Hid (sgnV a b = 0) := by
        have e := val_eq (fun j hj => HQ.out j (by omega) hj)
        show sgnV a b = 0
        unfold sgnV; rw [e, if_neg (by omega), if_neg (by omega)]
      clear hA hB hbel
      go_wp2
      go_ret
      exact ⟨ret_int (by rw [HE.out]), HI.out.2.2⟩
    · obtain ⟨p, rfl⟩ : ∃ p, k = p + 1 := ⟨k - 1, by omega⟩
      have c1 := hA.c p (by omega)
      have c2 := hB.c p (by omega)
      have hp : p < 6 := by omega
      have ei : ((p + 1 : Nat) : Int) - 1 = (p : Int) := by omega
      rw [ei]
      clear hA hB hbel ei
      by_cases h1 : a p < b p
      · have HE : Hid (sgnV a b = -1) := by
          have := val_lt HD.out.1 HD.out.2 p hp h1 (fun j h1 h2 => HQ.out j (by omega) h2)
          show sgnV a b = -1
          unfold sgnV; rw [if_pos this]
        go_wp2
        go_quiet (fail)
        have HB2 : Hid (Below w.heap.size w (wr.drewN nq)) := bdrewN HI.out.2.2 nq
        go_wp2
        go_ret
        exact ⟨ret_int (by rw [HE.out]), HB2.out⟩
      · by_cases h2 : b p < a p
        · have HE : Hid (sgnV a b = 1) := by
            have := val_lt HD.out.2 HD.out.1 p hp h2 (fun j h1 h2 => (HQ.out j (by omega) h2).symm)
            show sgnV a b = 1
            unfold sgnV; rw [if_neg (by omega), if_pos this]
          go_wp2
          go_quiet (fail)
          have HI2 : Hid (BigAt (wr.drewN nq) w.heap.size m a ∧ BigAt (wr.drewN nq) (w.heap.size + 1) n b ∧ Below w.heap.size w (wr.drewN nq)) := ⟨HI.out.1.drewN nq, HI.out.2.1.drewN nq, bdrewN HI.out.2.2 nq⟩
          generalize wr.drewN nq = W1 at *
          have g1 := HI2.out.1.c p hp
          have g2 := HI2.out.2.1.c p hp
          clear c1 c2
          go_wp2
          go_quiet (fail)
          have HB2 : Hid (Below w.heap.size w (W1.drewN nq)) := bdrewN HI2.out.2.2 nq
          go_wp2
          go_ret
          exact ⟨ret_int (by rw [HE.out]), HB2.out⟩
        · have HE : Hid (a p = b p) := by show a p = b p; omega
          have HQ2 : Hid (∀ j, p ≤ j → j < 6 → a j = b j) := fun j h1 h2 => by
            by_cases e : j = p
            · rw [e]; exact HE.out
            · exact HQ.out j (by omega) h2
          go_wp2
          go_quiet (fail)
          have HI2 : Hid (BigAt (wr.drewN nq) w.heap.size m a ∧ BigAt (wr.drewN nq) (w.heap.size + 1) n b ∧ Below w.heap.size w (wr.drewN nq)) := ⟨HI.out.1.drewN nq, HI.out.2.1.drewN nq, bdrewN HI.out.2.2 nq⟩
          generalize wr.drewN nq = W1 at *
          have g1 := HI2.out.1.c p hp
          have g2 := HI2.out.2.1.c p hp
          clear c1 c2
          go_wp2
          go_quiet (fail)
          have HI3 : Hid (BigAt (W1.drewN nq) w.heap.size m a ∧ BigAt (W1.drewN nq) (w.heap.size + 1) n b ∧ Below w.heap.size w (W1.drewN nq)) := ⟨HI2.out.1.drewN nq, HI2.out.2.1.drewN nq, bdrewN HI2.out.2.2 nq⟩
          go_wp2
          go_roundw
          case rel => exact ⟨p, by omega, by go_num, HQ2.out, HI3.out.1, HI3.out.2.1, HI3.out.2.2⟩
          case measure => simp [intOf]
end Go.Proofs.Ytipbjoeekbgnbaa

namespace Go.Proofs.Ytipbjoeekbgnbaa
open Go.RowKit
set_option linter.unusedVariables false
set_option maxRecDepth 100000

/-- What a sign and digits say. -/
def sv (m : Bool) (d : Nat → Int) : Int := if m = true then -(valD d 6) else valD d 6
/-- A value that says the number x; nought has no sign. -/
def IsBig (v : Value) (x : Int) : Prop := ∃ m d, v = .agg #[.bool m, .int .i64 (d 0), .int .i64 (d 1), .int .i64 (d 2), .int .i64 (d 3), .int .i64 (d 4), .int .i64 (d 5)] ∧ Dig d ∧ sv m d = x ∧ (m = true → x < 0)
theorem BigAt.lt {W : World} {g : Nat} {m : Bool} {d : Nat → Int} (h : BigAt W g m d) : g < W.heap.size := World.block_lt_of_cell? W ⟨g, 0, none⟩ h.s
theorem BigAt.below {W W' : World} {g : Nat} {m : Bool} {d : Nat → Int} (h : BigAt W g m d) (k : Below W.heap.size W W') : BigAt W' g m d :=
  ⟨cell_later k h.s, fun j hj => cell_later k (h.c j hj), fun j => (k.frozen (p := ⟨g, j, none⟩) h.lt).trans (h.f j)⟩
theorem zB_val {d : Nat → Int} (h : Dig d) : (zB d = true → valD d 6 = 0) ∧ (zB d = false → 0 < valD d 6) := by
  have h0 := h 0 (by omega); have h1 := h 1 (by omega); have h2 := h 2 (by omega); have h3 := h 3 (by omega); have h4 := h 4 (by omega); have h5 := h 5 (by omega)
  simp only [valD, zB]
  refine ⟨fun e => ?_, fun e => ?_⟩
  · simp only [Bool.and_eq_true, beq_iff_eq] at e
    obtain ⟨e0, e1, e2, e3, e4, e5⟩ := e
    rw [e0, e1, e2, e3, e4, e5]; rfl
  · have : ¬ (d 0 = 0 ∧ d 1 = 0 ∧ d 2 = 0 ∧ d 3 = 0 ∧ d 4 = 0 ∧ d 5 = 0) := fun ⟨e0, e1, e2, e3, e4, e5⟩ => by simp [e0, e1, e2, e3, e4, e5] at e
    simp only [show (4294967296 : Int) ^ 0 = 1 from rfl, show (4294967296 : Int) ^ 1 = 4294967296 from rfl, show (4294967296 : Int) ^ 2 = 18446744073709551616 from by decide, show (4294967296 : Int) ^ 3 = 79228162514264337593543950336 from by decide, show (4294967296 : Int) ^ 4 = 340282366920938463463374607431768211456 from by decide, show (4294967296 : Int) ^ 5 = 1461501637330902918203684832716283019655932542976 from by decide]
    omega

set_option maxHeartbeats 1000000 in
theorem bneg_zero (m : Bool) (d : Nat → Int) (w : World) (hz : zB d = true) :
    Calls Try.prog 39 #[.agg #[.bool m, .int .i64 (d 0), .int .i64 (d 1), .int .i64 (d 2), .int .i64 (d 3), .int .i64 (d 4), .int .i64 (d 5)]] w fun e w' => e = .returned (.agg #[.bool m, .int .i64 (d 0), .int .i64 (d 1), .int .i64 (d 2), .int .i64 (d 3), .int .i64 (d 4), .int .i64 (d 5)]) ∧ Below w.heap.size w w' := by
  have HZ : Hid (∀ w, Calls Try.prog 26 #[.agg #[.bool m, .int .i64 (d 0), .int .i64 (d 1), .int .i64 (d 2), .int .i64 (d 3), .int .i64 (d 4), .int .i64 (d 5)]] w fun e w' => e = .returned (.bool true) ∧ Below w.heap.size w w') := fun w => by rw [← hz]; exact bzero_any m d w
  have A0 : BigAt ((w.alloc (.cells #[.bool m, .int .i64 (d 0), .int .i64 (d 1), .int .i64 (d 2), .int .i64 (d 3), .int .i64 (d 4), .int .i64 (d 5)] 52)).alloc (.cells #[.bool false, .int .i64 0, .int .i64 0, .int .i64 0, .int .i64 0, .int .i64 0, .int .i64 0] 52)) w.heap.size m d := bigAt_of (by simp [go_sem]) (by simp [go_sem]) (by simp [go_sem]) (by simp [go_sem]) (by simp [go_sem]) (by simp [go_sem]) (by simp [go_sem]) (fun j => by simp [go_sem])
  have R0 : BigAt ((w.alloc (.cells #[.bool m, .int .i64 (d 0), .int .i64 (d 1), .int .i64 (d 2), .int .i64 (d 3), .int .i64 (d 4), .int .i64 (d 5)] 52)).alloc (.cells #[.bool false, .int .i64 0, .int .i64 0, .int .i64 0, .int .i64 0, .int .i64 0, .int .i64 0] 52)) (w.heap.size + 1) false (fun _ => 0) := bigAt_of (by simp [go_sem]) (by simp [go_sem]) (by simp [go_sem]) (by simp [go_sem]) (by simp [go_sem]) (by simp [go_sem]) (by simp [go_sem]) (fun j => by simp [go_sem])
  have HA : Hid (BigAt ((w.alloc (.cells #[.bool m, .int .i64 (d 0), .int .i64 (d 1), .int .i64 (d 2), .int .i64 (d 3), .int .i64 (d 4), .int .i64 (d 5)] 52)).alloc (.cells #[.bool false, .int .i64 0, .int .i64 0, .int .i64 0, .int .i64 0, .int .i64 0, .int .i64 0] 52)) w.heap.size m d ∧ BigAt ((w.alloc (.cells #[.bool m, .int .i64 (d 0), .int .i64 (d 1), .int .i64 (d 2), .int .i64 (d 3), .int .i64 (d 4), .int .i64 (d 5)] 52)).alloc (.cells #[.bool false, .int .i64 0, .int .i64 0, .int .i64 0, .int .i64 0, .int .i64 0, .int .i64 0] 52)) (w.heap.size + 1) false (fun _ => 0)) := ⟨A0, R0⟩
  clear A0 R0 hz
  go_enter Try.func39, Try.ntmps39
  go_wp2_with fail
  refine Calls.mono (HZ.out _) ?_
  rintro e w1 ⟨rfl, hb⟩
  have hA := HA.out.1.below hb
  have hR := HA.out.2.below hb
  have HB : Hid (Below w.heap.size w w1) := (((Below.refl _ w).alloc (Nat.le_refl _) _).alloc (by simp) _).trans (hb.mono (by simp; omega))
  have s0 := hA.s
  have e0 : w1.cell? ⟨w.heap.size, 1, none⟩ = some (.int .i64 (d 0)) := hA.c 0 (by omega)
  have e1 : w1.cell? ⟨w.heap.size, 2, none⟩ = some (.int .i64 (d 1)) := hA.c 1 (by omega)
  have e2 : w1.cell? ⟨w.heap.size, 3, none⟩ = some (.int .i64 (d 2)) := hA.c 2 (by omega)
  have e3 : w1.cell? ⟨w.heap.size, 4, none⟩ = some (.int .i64 (d 3)) := hA.c 3 (by omega)
  have e4 : w1.cell? ⟨w.heap.size, 5, none⟩ = some (.int .i64 (d 4)) := hA.c 4 (by omega)
  have e5 : w1.cell? ⟨w.heap.size, 6, none⟩ = some (.int .i64 (d 5)) := hA.c 5 (by omega)
  have t0 := hR.s
  have t1 : w1.cell? ⟨w.heap.size + 1, 1, none⟩ = some (.int .i64 0) := hR.c 0 (by omega)
  have t2 : w1.cell? ⟨w.heap.size + 1, 2, none⟩ = some (.int .i64 0) := hR.c 1 (by omega)
  have t3 : w1.cell? ⟨w.heap.size + 1, 3, none⟩ = some (.int .i64 0) := hR.c 2 (by omega)
  have t4 : w1.cell? ⟨w.heap.size + 1, 4, none⟩ = some (.int .i64 0) := hR.c 3 (by omega)
  have t5 : w1.cell? ⟨w.heap.size + 1, 5, none⟩ = some (.int .i64 0) := hR.c 4 (by omega)
  have t6 : w1.cell? ⟨w.heap.size + 1, 6, none⟩ = some (.int .i64 0) := hR.c 5 (by omega)
  have tf := hR.f
  have sf := hA.f
  clear hA hR hb HA HZ
  go_wp2
  refine bodyPost_ret (v := .agg #[.bool m, .int .i64 (d 0), .int .i64 (d 1), .int .i64 (d 2), .int .i64 (d 3), .int .i64 (d 4), .int .i64 (d 5)]) (by simp [results, Try.results39, go_sem, t0, t1, t2, t3, t4, t5, t6]) rfl ⟨rfl, ?_⟩
  exact bset (bset (bset (bset (bset (bset (bset HB.out _ _ _ (by omega)) _ _ _ (by omega)) _ _ _ (by omega)) _ _ _ (by omega)) _ _ _ (by omega)) _ _ _ (by omega)) _ _ _ (by omega)

set_option maxHeartbeats 1000000 in
theorem bneg_some (m : Bool) (d : Nat → Int) (w : World) (hz : zB d = false) :
    Calls Try.prog 39 #[.agg #[.bool m, .int .i64 (d 0), .int .i64 (d 1), .int .i64 (d 2), .int .i64 (d 3), .int .i64 (d 4), .int .i64 (d 5)]] w fun e w' => e = .returned (.agg #[.bool (!m), .int .i64 (d 0), .int .i64 (d 1), .int .i64 (d 2), .int .i64 (d 3), .int .i64 (d 4), .int .i64 (d 5)]) ∧ Below w.heap.size w w' := by
  have HZ : Hid (∀ w, Calls Try.prog 26 #[.agg #[.bool m, .int .i64 (d 0), .int .i64 (d 1), .int .i64 (d 2), .int .i64 (d 3), .int .i64 (d 4), .int .i64 (d 5)]] w fun e w' => e = .returned (.bool false) ∧ Below w.heap.size w w') := fun w => by rw [← hz]; exact bzero_any m d w
  have A0 : BigAt ((w.alloc (.cells #[.bool m, .int .i64 (d 0), .int .i64 (d 1), .int .i64 (d 2), .int .i64 (d 3), .int .i64 (d 4), .int .i64 (d 5)] 52)).alloc (.cells #[.bool false, .int .i64 0, .int .i64 0, .int .i64 0, .int .i64 0, .int .i64 0, .int .i64 0] 52)) w.heap.size m d := bigAt_of (by simp [go_sem]) (by simp [go_sem]) (by simp [go_sem]) (by simp [go_sem]) (by simp [go_sem]) (by simp [go_sem]) (by simp [go_sem]) (fun j => by simp [go_sem])
  have R0 : BigAt ((w.alloc (.cells #[.bool m, .int .i64 (d 0), .int .i64 (d 1), .int .i64 (d 2), .int .i64 (d 3), .int .i64 (d 4), .int .i64 (d 5)] 52)).alloc (.cells #[.bool false, .int .i64 0, .int .i64 0, .int .i64 0, .int .i64 0, .int .i64 0, .int .i64 0] 52)) (w.heap.size + 1) false (fun _ => 0) := bigAt_of (by simp [go_sem]) (by simp [go_sem]) (by simp [go_sem]) (by simp [go_sem]) (by simp [go_sem]) (by simp [go_sem]) (by simp [go_sem]) (fun j => by simp [go_sem])
  have HA : Hid (BigAt ((w.alloc (.cells #[.bool m, .int .i64 (d 0), .int .i64 (d 1), .int .i64 (d 2), .int .i64 (d 3), .int .i64 (d 4), .int .i64 (d 5)] 52)).alloc (.cells #[.bool false, .int .i64 0, .int .i64 0, .int .i64 0, .int .i64 0, .int .i64 0, .int .i64 0] 52)) w.heap.size m d ∧ BigAt ((w.alloc (.cells #[.bool m, .int .i64 (d 0), .int .i64 (d 1), .int .i64 (d 2), .int .i64 (d 3), .int .i64 (d 4), .int .i64 (d 5)] 52)).alloc (.cells #[.bool false, .int .i64 0, .int .i64 0, .int .i64 0, .int .i64 0, .int .i64 0, .int .i64 0] 52)) (w.heap.size + 1) false (fun _ => 0)) := ⟨A0, R0⟩
  clear A0 R0 hz
  go_enter Try.func39, Try.ntmps39
  go_wp2_with fail
  refine Calls.mono (HZ.out _) ?_
  rintro e w1 ⟨rfl, hb⟩
  have hA := HA.out.1.below hb
  have hR := HA.out.2.below hb
  have HB : Hid (Below w.heap.size w w1) := (((Below.refl _ w).alloc (Nat.le_refl _) _).alloc (by simp) _).trans (hb.mono (by simp; omega))
  have s0 := hA.s
  have e0 : w1.cell? ⟨w.heap.size, 1, none⟩ = some (.int .i64 (d 0)) := hA.c 0 (by omega)
  have e1 : w1.cell? ⟨w.heap.size, 2, none⟩ = some (.int .i64 (d 1)) := hA.c 1 (by omega)
  have e2 : w1.cell? ⟨w.heap.size, 3, none⟩ = some (.int .i64 (d 2)) := hA.c 2 (by omega)
  have e3 : w1.cell? ⟨w.heap.size, 4, none⟩ = some (.int .i64 (d 3)) := hA.c 3 (by omega)
  have e4 : w1.cell? ⟨w.heap.size, 5, none⟩ = some (.int .i64 (d 4)) := hA.c 4 (by omega)
  have e5 : w1.cell? ⟨w.heap.size, 6, none⟩ = some (.int .i64 (d 5)) := hA.c 5 (by omega)
  have t0 := hR.s
  have t1 : w1.cell? ⟨w.heap.size + 1, 1, none⟩ = some (.int .i64 0) := hR.c 0 (by omega)
  have t2 : w1.cell? ⟨w.heap.size + 1, 2, none⟩ = some (.int .i64 0) := hR.c 1 (by omega)
  have t3 : w1.cell? ⟨w.heap.size + 1, 3, none⟩ = some (.int .i64 0) := hR.c 2 (by omega)
  have t4 : w1.cell? ⟨w.heap.size + 1, 4, none⟩ = some (.int .i64 0) := hR.c 3 (by omega)
  have t5 : w1.cell? ⟨w.heap.size + 1, 5, none⟩ = some (.int .i64 0) := hR.c 4 (by omega)
  have t6 : w1.cell? ⟨w.heap.size + 1, 6, none⟩ = some (.int .i64 0) := hR.c 5 (by omega)
  have tf := hR.f
  have sf := hA.f
  clear hA hR hb HA HZ
  go_wp2
  refine bodyPost_ret (v := .agg #[.bool (!m), .int .i64 (d 0), .int .i64 (d 1), .int .i64 (d 2), .int .i64 (d 3), .int .i64 (d 4), .int .i64 (d 5)]) (by simp [results, Try.results39, go_sem, t0, t1, t2, t3, t4, t5, t6]) rfl ⟨rfl, ?_⟩
  exact bset (bset (bset (bset (bset (bset (bset (bset HB.out _ _ _ (by omega)) _ _ _ (by omega)) _ _ _ (by omega)) _ _ _ (by omega)) _ _ _ (by omega)) _ _ _ (by omega)) _ _ _ (by omega)) _ _ _ (by omega)

theorem bneg_any (v : Value) (x : Int) (w : World) (h : IsBig v x) :
    Calls Try.prog 39 #[v] w fun e w' => ∃ v', e = .returned v' ∧ IsBig v' (-x) ∧ Below w.heap.size w w' := by
  obtain ⟨m, d, rfl, hd, hx, hm⟩ := h
  cases hz : zB d with
  | true =>
    have h0 := (zB_val hd).1 hz
    have hx0 : x = 0 := by
      unfold sv at hx; rw [h0] at hx; cases m
      · simp at hx; omega
      · simp at hx; omega
    refine Calls.mono (bneg_zero m d w hz) fun e w' t => ⟨_, t.1, ⟨m, d, rfl, hd, ?_, ?_⟩, t.2⟩
    · unfold sv; rw [h0, hx0]; cases m <;> rfl
    · intro e; have := hm e; omega
  | false =>
    refine Calls.mono (bneg_some m d w hz) fun e w' t => ⟨_, t.1, ⟨!m, d, rfl, hd, ?_, ?_⟩, t.2⟩
    · unfold sv at *; cases m <;> simp at * <;> omega
    · intro e
      have := (zB_val hd).2 hz
      unfold sv at hx; cases m
      · simp at hx; omega
      · simp at e
end Go.Proofs.Ytipbjoeekbgnbaa

namespace Go.Proofs.Ytipbjoeekbgnbaa
open Go.RowKit
set_option linter.unusedVariables false
set_option maxRecDepth 100000


/-- The digits of a number below 2^64. -/
def dOf (u : Int) (j : Nat) : Int := if j = 0 then u % 4294967296 else if j = 1 then u / 4294967296 else 0
theorem dOf_dig (u : Int) (h0 : 0 ≤ u) (h1 : u < 18446744073709551616) : Dig (dOf u) := fun i _ => by unfold dOf; split; omega; split <;> omega
theorem dOf_val (u : Int) (h0 : 0 ≤ u) : valD (dOf u) 6 = u := by
  simp only [valD, dOf]
  simp
  omega
set_option maxHeartbeats 1000000 in
theorem of_pos (v : Int) (w : World) (h0 : 0 ≤ v) (h1 : v ≤ 9223372036854775807) :
    Calls Try.prog 16 #[.int .i64 v] w fun e w' => e = .returned (.agg #[.bool false, .int .i64 (v % 4294967296), .int .i64 (v / 4294967296), .int .i64 0, .int .i64 0, .int .i64 0, .int .i64 0]) ∧ Below w.heap.size w w' := by
  go_enter Try.func16, Try.ntmps16
  go_wp2
  exact bodyPost_ret (v := .agg #[.bool false, .int .i64 (v % 4294967296), .int .i64 (v / 4294967296), .int .i64 0, .int .i64 0, .int .i64 0, .int .i64 0]) (by simp [results, Try.results16, go_sem]) rfl ⟨rfl, (((Below.refl _ w).alloc (Nat.le_refl _) _).alloc (by simp) _)⟩
set_option maxHeartbeats 1000000 in
theorem of_neg (v u : Int) (w : World) (h0 : v < 0) (h1 : -9223372036854775808 ≤ v) (hu : -(v + 1) = u) :
    Calls Try.prog 16 #[.int .i64 v] w fun e w' => e = .returned (.agg #[.bool true, .int .i64 (dgP (dOf u) oneD 0), .int .i64 (dgP (dOf u) oneD 1), .int .i64 (dgP (dOf u) oneD 2), .int .i64 (dgP (dOf u) oneD 3), .int .i64 (dgP (dOf u) oneD 4), .int .i64 (dgP (dOf u) oneD 5)]) ∧ Below w.heap.size w w' := by
  have u0 : 0 ≤ u := by omega
  have u1 : u ≤ 9223372036854775807 := by omega
  have HO : Hid (∀ w, Calls Try.prog 28 #[.agg #[.bool true, .int .i64 (u % 4294967296), .int .i64 (u / 4294967296), .int .i64 0, .int .i64 0, .int .i64 0, .int .i64 0]] w fun e w' => e = .returned (.agg #[.bool true, .int .i64 (dgP (dOf u) oneD 0), .int .i64 (dgP (dOf u) oneD 1), .int .i64 (dgP (dOf u) oneD 2), .int .i64 (dgP (dOf u) oneD 3), .int .i64 (dgP (dOf u) oneD 4), .int .i64 (dgP (dOf u) oneD 5)]) ∧ Below w.heap.size w w') := fun w => addOne_any true (dOf u) w (dOf_dig u u0 (by omega))
  have b1 : -9223372036854775808 ≤ v + 1 := by omega
  have b2 : v + 1 ≤ 9223372036854775807 := by omega
  have R0 : BigAt ((w.alloc (.cells #[.bool false, .int .i64 0, .int .i64 0, .int .i64 0, .int .i64 0, .int .i64 0, .int .i64 0] 52)).alloc (.cells #[.bool true, .int .i64 (u % 4294967296), .int .i64 (u / 4294967296), .int .i64 0, .int .i64 0, .int .i64 0, .int .i64 0] 52)) w.heap.size false (fun _ => 0) := bigAt_of (by simp [go_sem]) (by simp [go_sem]) (by simp [go_sem]) (by simp [go_sem]) (by simp [go_sem]) (by simp [go_sem]) (by simp [go_sem]) (fun j => by simp [go_sem])
  have HR : Hid (BigAt ((w.alloc (.cells #[.bool false, .int .i64 0, .int .i64 0, .int .i64 0, .int .i64 0, .int .i64 0, .int .i64 0] 52)).alloc (.cells #[.bool true, .int .i64 (u % 4294967296), .int .i64 (u / 4294967296), .int .i64 0, .int .i64 0, .int .i64 0, .int .i64 0] 52)) w.heap.size false (fun _ => 0)) := R0
  clear R0
  go_enter Try.func16, Try.ntmps16
  go_wp2_with fail
  refine Calls.mono (HO.out _) ?_
  rintro e w1 ⟨rfl, hb⟩
  have hR := HR.out.below hb
  have HB : Hid (Below w.heap.size w w1) := (((Below.refl _ w).alloc (Nat.le_refl _) _).alloc (by simp) _).trans (hb.mono (by simp; omega))
  have t0 := hR.s
  have t1 : w1.cell? ⟨w.heap.size, 1, none⟩ = some (.int .i64 0) := hR.c 0 (by omega)
  have t2 : w1.cell? ⟨w.heap.size, 2, none⟩ = some (.int .i64 0) := hR.c 1 (by omega)
  have t3 : w1.cell? ⟨w.heap.size, 3, none⟩ = some (.int .i64 0) := hR.c 2 (by omega)
  have t4 : w1.cell? ⟨w.heap.size, 4, none⟩ = some (.int .i64 0) := hR.c 3 (by omega)
  have t5 : w1.cell? ⟨w.heap.size, 5, none⟩ = some (.int .i64 0) := hR.c 4 (by omega)
  have t6 : w1.cell? ⟨w.heap.size, 6, none⟩ = some (.int .i64 0) := hR.c 5 (by omega)
  have tf := hR.f
  clear hR hb HR HO
  go_wp2
  refine bodyPost_ret (v := .agg #[.bool true, .int .i64 (dgP (dOf u) oneD 0), .int .i64 (dgP (dOf u) oneD 1), .int .i64 (dgP (dOf u) oneD 2), .int .i64 (dgP (dOf u) oneD 3), .int .i64 (dgP (dOf u) oneD 4), .int .i64 (dgP (dOf u) oneD 5)]) (by simp [results, Try.results16, go_sem, t0, t1, t2, t3, t4, t5, t6]) rfl ⟨rfl, ?_⟩
  exact bset (bset (bset (bset (bset (bset (bset HB.out _ _ _ (by omega)) _ _ _ (by omega)) _ _ _ (by omega)) _ _ _ (by omega)) _ _ _ (by omega)) _ _ _ (by omega)) _ _ _ (by omega)

theorem of_big (v : Int) (w : World) (h1 : -9223372036854775808 ≤ v) (h2 : v ≤ 9223372036854775807) :
    Calls Try.prog 16 #[.int .i64 v] w fun e w' => ∃ v', e = .returned v' ∧ IsBig v' v ∧ Below w.heap.size w w' := by
  by_cases h : v < 0
  · refine Calls.mono (of_neg v (-(v + 1)) w h h1 rfl) fun e w' t => ⟨_, t.1, ⟨true, dgP (dOf (-(v + 1))) oneD, rfl, dgP_dig (dOf_dig _ (by omega) (by omega)) oneD_dig, ?_, fun _ => h⟩, t.2⟩
    have hv := valP_exact (dOf_dig (-(v + 1)) (by omega) (by omega)) oneD_dig (by rw [dOf_val _ (by omega), valD_one]; omega)
    rw [dOf_val _ (by omega), valD_one] at hv
    unfold sv; rw [hv]; simp; omega
  · exact Calls.mono (of_pos v w (by omega) h2) fun e w' t => ⟨_, t.1, ⟨false, dOf v, rfl, dOf_dig v (by omega) (by omega), by unfold sv; rw [dOf_val v (by omega)]; rfl, fun h => by cases h⟩, t.2⟩
end Go.Proofs.Ytipbjoeekbgnbaa

namespace Go.Proofs.Ytipbjoeekbgnbaa
open Go.RowKit
set_option linter.unusedVariables false
set_option maxRecDepth 100000

theorem BigAt.other7 {W : World} {g h : Nat} {m : Bool} {d : Nat → Int} (k : BigAt W g m d) (hn : g ≠ h) (v0 v1 v2 v3 v4 v5 v6 : Value) :
    BigAt (((((((W.setCell ⟨h, 0, none⟩ v0).setCell ⟨h, 1, none⟩ v1).setCell ⟨h, 2, none⟩ v2).setCell ⟨h, 3, none⟩ v3).setCell ⟨h, 4, none⟩ v4).setCell ⟨h, 5, none⟩ v5).setCell ⟨h, 6, none⟩ v6) g m d :=
  ((((((k.other 0 v0 hn).other 1 v1 hn).other 2 v2 hn).other 3 v3 hn).other 4 v4 hn).other 5 v5 hn).other 6 v6 hn
theorem bset7 {B : Nat} {w W : World} (k : Below B w W) (h : Nat) (v0 v1 v2 v3 v4 v5 v6 : Value) (hb : B ≤ h) :
    Below B w (((((((W.setCell ⟨h, 0, none⟩ v0).setCell ⟨h, 1, none⟩ v1).setCell ⟨h, 2, none⟩ v2).setCell ⟨h, 3, none⟩ v3).setCell ⟨h, 4, none⟩ v4).setCell ⟨h, 5, none⟩ v5).setCell ⟨h, 6, none⟩ v6) :=
  bset (bset (bset (bset (bset (bset (bset k h 0 v0 hb) h 1 v1 hb) h 2 v2 hb) h 3 v3 hb) h 4 v4 hb) h 5 v5 hb) h 6 v6 hb

set_option maxHeartbeats 1000000 in
theorem add_same (m n : Bool) (a b : Nat → Int) (w : World) (ha : Dig a) (hb : Dig b) (hmn : (m == n) = true) :
    Calls Try.prog 14 #[.agg #[.bool m, .int .i64 (a 0), .int .i64 (a 1), .int .i64 (a 2), .int .i64 (a 3), .int .i64 (a 4), .int .i64 (a 5)], .agg #[.bool n, .int .i64 (b 0), .int .i64 (b 1), .int .i64 (b 2), .int .i64 (b 3), .int .i64 (b 4), .int .i64 (b 5)]] w fun e w' => e = .returned (.agg #[.bool m, .int .i64 (dgP a b 0), .int .i64 (dgP a b 1), .int .i64 (dgP a b 2), .int .i64 (dgP a b 3), .int .i64 (dgP a b 4), .int .i64 (dgP a b 5)]) ∧ Below w.heap.size w w' := by
  have HP : Hid (∀ w, Calls Try.prog 23 #[.agg #[.bool m, .int .i64 (a 0), .int .i64 (a 1), .int .i64 (a 2), .int .i64 (a 3), .int .i64 (a 4), .int .i64 (a 5)], .agg #[.bool n, .int .i64 (b 0), .int .i64 (b 1), .int .i64 (b 2), .int .i64 (b 3), .int .i64 (b 4), .int .i64 (b 5)]] w fun e w' => e = .returned (.agg #[.bool m, .int .i64 (dgP a b 0), .int .i64 (dgP a b 1), .int .i64 (dgP a b 2), .int .i64 (dgP a b 3), .int .i64 (dgP a b 4), .int .i64 (dgP a b 5)]) ∧ Below w.heap.size w w') := fun w => rplus_any m n a b w ha hb
  have A0 : BigAt (((w.alloc (.cells #[.bool m, .int .i64 (a 0), .int .i64 (a 1), .int .i64 (a 2), .int .i64 (a 3), .int .i64 (a 4), .int .i64 (a 5)] 52)).alloc (.cells #[.bool n, .int .i64 (b 0), .int .i64 (b 1), .int .i64 (b 2), .int .i64 (b 3), .int .i64 (b 4), .int .i64 (b 5)] 52)).alloc (.cells #[.bool false, .int .i64 0, .int .i64 0, .int .i64 0, .int .i64 0, .int .i64 0, .int .i64 0] 52)) w.heap.size m a := bigAt_of (by simp [go_sem]) (by simp [go_sem]) (by simp [go_sem]) (by simp [go_sem]) (by simp [go_sem]) (by simp [go_sem]) (by simp [go_sem]) (fun j => by simp [go_sem])
  have B0 : BigAt (((w.alloc (.cells #[.bool m, .int .i64 (a 0), .int .i64 (a 1), .int .i64 (a 2), .int .i64 (a 3), .int .i64 (a 4), .int .i64 (a 5)] 52)).alloc (.cells #[.bool n, .int .i64 (b 0), .int .i64 (b 1), .int .i64 (b 2), .int .i64 (b 3), .int .i64 (b 4), .int .i64 (b 5)] 52)).alloc (.cells #[.bool false, .int .i64 0, .int .i64 0, .int .i64 0, .int .i64 0, .int .i64 0, .int .i64 0] 52)) (w.heap.size + 1) n b := bigAt_of (by simp [go_sem]) (by simp [go_sem]) (by simp [go_sem]) (by simp [go_sem]) (by simp [go_sem]) (by simp [go_sem]) (by simp [go_sem]) (fun j => by simp [go_sem])
  have R0 : BigAt (((w.alloc (.cells #[.bool m, .int .i64 (a 0), .int .i64 (a 1), .int .i64 (a 2), .int .i64 (a 3), .int .i64 (a 4), .int .i64 (a 5)] 52)).alloc (.cells #[.bool n, .int .i64 (b 0), .int .i64 (b 1), .int .i64 (b 2), .int .i64 (b 3), .int .i64 (b 4), .int .i64 (b 5)] 52)).alloc (.cells #[.bool false, .int .i64 0, .int .i64 0, .int .i64 0, .int .i64 0, .int .i64 0, .int .i64 0] 52)) (w.heap.size + 1 + 1) false (fun _ => 0) := bigAt_of (by simp [go_sem]) (by simp [go_sem]) (by simp [go_sem]) (by simp [go_sem]) (by simp [go_sem]) (by simp [go_sem]) (by simp [go_sem]) (fun j => by simp [go_sem])
  have W0b : Below w.heap.size w (((w.alloc (.cells #[.bool m, .int .i64 (a 0), .int .i64 (a 1), .int .i64 (a 2), .int .i64 (a 3), .int .i64 (a 4), .int .i64 (a 5)] 52)).alloc (.cells #[.bool n, .int .i64 (b 0), .int .i64 (b 1), .int .i64 (b 2), .int .i64 (b 3), .int .i64 (b 4), .int .i64 (b 5)] 52)).alloc (.cells #[.bool false, .int .i64 0, .int .i64 0, .int .i64 0, .int .i64 0, .int .i64 0, .int .i64 0] 52)) := ((((Below.refl _ w).alloc (Nat.le_refl _) _).alloc (by simp) _).alloc (by simp; omega) _)
  have HA : Hid (BigAt (((w.alloc (.cells #[.bool m, .int .i64 (a 0), .int .i64 (a 1), .int .i64 (a 2), .int .i64 (a 3), .int .i64 (a 4), .int .i64 (a 5)] 52)).alloc (.cells #[.bool n, .int .i64 (b 0), .int .i64 (b 1), .int .i64 (b 2), .int .i64 (b 3), .int .i64 (b 4), .int .i64 (b 5)] 52)).alloc (.cells #[.bool false, .int .i64 0, .int .i64 0, .int .i64 0, .int .i64 0, .int .i64 0, .int .i64 0] 52)) w.heap.size m a ∧ BigAt (((w.alloc (.cells #[.bool m, .int .i64 (a 0), .int .i64 (a 1), .int .i64 (a 2), .int .i64 (a 3), .int .i64 (a 4), .int .i64 (a 5)] 52)).alloc (.cells #[.bool n, .int .i64 (b 0), .int .i64 (b 1), .int .i64 (b 2), .int .i64 (b 3), .int .i64 (b 4), .int .i64 (b 5)] 52)).alloc (.cells #[.bool false, .int .i64 0, .int .i64 0, .int .i64 0, .int .i64 0, .int .i64 0, .int .i64 0] 52)) (w.heap.size + 1) n b ∧ BigAt (((w.alloc (.cells #[.bool m, .int .i64 (a 0), .int .i64 (a 1), .int .i64 (a 2), .int .i64 (a 3), .int .i64 (a 4), .int .i64 (a 5)] 52)).alloc (.cells #[.bool n, .int .i64 (b 0), .int .i64 (b 1), .int .i64 (b 2), .int .i64 (b 3), .int .i64 (b 4), .int .i64 (b 5)] 52)).alloc (.cells #[.bool false, .int .i64 0, .int .i64 0, .int .i64 0, .int .i64 0, .int .i64 0, .int .i64 0] 52)) (w.heap.size + 1 + 1) false (fun _ => 0) ∧ Below w.heap.size w (((w.alloc (.cells #[.bool m, .int .i64 (a 0), .int .i64 (a 1), .int .i64 (a 2), .int .i64 (a 3), .int .i64 (a 4), .int .i64 (a 5)] 52)).alloc (.cells #[.bool n, .int .i64 (b 0), .int .i64 (b 1), .int .i64 (b 2), .int .i64 (b 3), .int .i64 (b 4), .int .i64 (b 5)] 52)).alloc (.cells #[.bool false, .int .i64 0, .int .i64 0, .int .i64 0, .int .i64 0, .int .i64 0, .int .i64 0] 52))) := ⟨A0, B0, R0, W0b⟩
  clear A0 B0 R0 W0b
  clear ha hb
  go_enter Try.func14, Try.ntmps14
  go_wp2_with fail
  refine Calls.mono (HP.out _) ?_
  rintro e w1 ⟨rfl, hb⟩
  have hR := HA.out.2.2.1.below hb
  have HB : Hid (Below w.heap.size w w1) := HA.out.2.2.2.trans (hb.mono HA.out.2.2.2.size)
  have t0 := hR.s
  have t1 : w1.cell? ⟨w.heap.size + 1 + 1, 1, none⟩ = some (.int .i64 0) := hR.c 0 (by omega)
  have t2 : w1.cell? ⟨w.heap.size + 1 + 1, 2, none⟩ = some (.int .i64 0) := hR.c 1 (by omega)
  have t3 : w1.cell? ⟨w.heap.size + 1 + 1, 3, none⟩ = some (.int .i64 0) := hR.c 2 (by omega)
  have t4 : w1.cell? ⟨w.heap.size + 1 + 1, 4, none⟩ = some (.int .i64 0) := hR.c 3 (by omega)
  have t5 : w1.cell? ⟨w.heap.size + 1 + 1, 5, none⟩ = some (.int .i64 0) := hR.c 4 (by omega)
  have t6 : w1.cell? ⟨w.heap.size + 1 + 1, 6, none⟩ = some (.int .i64 0) := hR.c 5 (by omega)
  have tf := hR.f
  clear hR hb HA HP
  go_wp2
  refine bodyPost_ret (v := .agg #[.bool m, .int .i64 (dgP a b 0), .int .i64 (dgP a b 1), .int .i64 (dgP a b 2), .int .i64 (dgP a b 3), .int .i64 (dgP a b 4), .int .i64 (dgP a b 5)]) (by simp [results, Try.results14, go_sem, t0, t1, t2, t3, t4, t5, t6]) rfl ⟨rfl, ?_⟩
  exact bset (bset (bset (bset (bset (bset (bset HB.out _ _ _ (by omega)) _ _ _ (by omega)) _ _ _ (by omega)) _ _ _ (by omega)) _ _ _ (by omega)) _ _ _ (by omega)) _ _ _ (by omega)

set_option maxHeartbeats 4000000 in
theorem add_diff_ge_n (m n : Bool) (a b : Nat → Int) (w : World) (ha : Dig a) (hb : Dig b) (hmn : (m == n) = false) (hs : 0 ≤ sgnV a b) (hz : zB (dgL a b) = false) :
    Calls Try.prog 14 #[.agg #[.bool m, .int .i64 (a 0), .int .i64 (a 1), .int .i64 (a 2), .int .i64 (a 3), .int .i64 (a 4), .int .i64 (a 5)], .agg #[.bool n, .int .i64 (b 0), .int .i64 (b 1), .int .i64 (b 2), .int .i64 (b 3), .int .i64 (b 4), .int .i64 (b 5)]] w fun e w' => e = .returned (.agg #[.bool m, .int .i64 (dgL a b 0), .int .i64 (dgL a b 1), .int .i64 (dgL a b 2), .int .i64 (dgL a b 3), .int .i64 (dgL a b 4), .int .i64 (dgL a b 5)]) ∧ Below w.heap.size w w' := by
  have HL : Hid (∀ w, Calls Try.prog 25 #[.agg #[.bool m, .int .i64 (a 0), .int .i64 (a 1), .int .i64 (a 2), .int .i64 (a 3), .int .i64 (a 4), .int .i64 (a 5)], .agg #[.bool n, .int .i64 (b 0), .int .i64 (b 1), .int .i64 (b 2), .int .i64 (b 3), .int .i64 (b 4), .int .i64 (b 5)]] w fun e w' => e = .returned (.agg #[.bool m, .int .i64 (dgL a b 0), .int .i64 (dgL a b 1), .int .i64 (dgL a b 2), .int .i64 (dgL a b 3), .int .i64 (dgL a b 4), .int .i64 (dgL a b 5)]) ∧ Below w.heap.size w w') := fun w => rless_any m n a b w ha hb
  have HS : Hid (∀ w, Calls Try.prog 24 #[.agg #[.bool m, .int .i64 (a 0), .int .i64 (a 1), .int .i64 (a 2), .int .i64 (a 3), .int .i64 (a 4), .int .i64 (a 5)], .agg #[.bool n, .int .i64 (b 0), .int .i64 (b 1), .int .i64 (b 2), .int .i64 (b 3), .int .i64 (b 4), .int .i64 (b 5)]] w fun e w' => e = .returned (.int .i64 (sgnV a b)) ∧ Below w.heap.size w w') := fun w => rsize_any m n a b w ha hb
  have HZ : Hid (∀ w, Calls Try.prog 26 #[.agg #[.bool m, .int .i64 (dgL a b 0), .int .i64 (dgL a b 1), .int .i64 (dgL a b 2), .int .i64 (dgL a b 3), .int .i64 (dgL a b 4), .int .i64 (dgL a b 5)]] w fun e w' => e = .returned (.bool false) ∧ Below w.heap.size w w') := fun w => by rw [← hz]; exact bzero_any m (dgL a b) w
  have A0 : BigAt (((w.alloc (.cells #[.bool m, .int .i64 (a 0), .int .i64 (a 1), .int .i64 (a 2), .int .i64 (a 3), .int .i64 (a 4), .int .i64 (a 5)] 52)).alloc (.cells #[.bool n, .int .i64 (b 0), .int .i64 (b 1), .int .i64 (b 2), .int .i64 (b 3), .int .i64 (b 4), .int .i64 (b 5)] 52)).alloc (.cells #[.bool false, .int .i64 0, .int .i64 0, .int .i64 0, .int .i64 0, .int .i64 0, .int .i64 0] 52)) w.heap.size m a := bigAt_of (by simp [go_sem]) (by simp [go_sem]) (by simp [go_sem]) (by simp [go_sem]) (by simp [go_sem]) (by simp [go_sem]) (by simp [go_sem]) (fun j => by simp [go_sem])
  have B0 : BigAt (((w.alloc (.cells #[.bool m, .int .i64 (a 0), .int .i64 (a 1), .int .i64 (a 2), .int .i64 (a 3), .int .i64 (a 4), .int .i64 (a 5)] 52)).alloc (.cells #[.bool n, .int .i64 (b 0), .int .i64 (b 1), .int .i64 (b 2), .int .i64 (b 3), .int .i64 (b 4), .int .i64 (b 5)] 52)).alloc (.cells #[.bool false, .int .i64 0, .int .i64 0, .int .i64 0, .int .i64 0, .int .i64 0, .int .i64 0] 52)) (w.heap.size + 1) n b := bigAt_of (by simp [go_sem]) (by simp [go_sem]) (by simp [go_sem]) (by simp [go_sem]) (by simp [go_sem]) (by simp [go_sem]) (by simp [go_sem]) (fun j => by simp [go_sem])
  have R0 : BigAt (((w.alloc (.cells #[.bool m, .int .i64 (a 0), .int .i64 (a 1), .int .i64 (a 2), .int .i64 (a 3), .int .i64 (a 4), .int .i64 (a 5)] 52)).alloc (.cells #[.bool n, .int .i64 (b 0), .int .i64 (b 1), .int .i64 (b 2), .int .i64 (b 3), .int .i64 (b 4), .int .i64 (b 5)] 52)).alloc (.cells #[.bool false, .int .i64 0, .int .i64 0, .int .i64 0, .int .i64 0, .int .i64 0, .int .i64 0] 52)) (w.heap.size + 1 + 1) false (fun _ => 0) := bigAt_of (by simp [go_sem]) (by simp [go_sem]) (by simp [go_sem]) (by simp [go_sem]) (by simp [go_sem]) (by simp [go_sem]) (by simp [go_sem]) (fun j => by simp [go_sem])
  have W0b : Below w.heap.size w (((w.alloc (.cells #[.bool m, .int .i64 (a 0), .int .i64 (a 1), .int .i64 (a 2), .int .i64 (a 3), .int .i64 (a 4), .int .i64 (a 5)] 52)).alloc (.cells #[.bool n, .int .i64 (b 0), .int .i64 (b 1), .int .i64 (b 2), .int .i64 (b 3), .int .i64 (b 4), .int .i64 (b 5)] 52)).alloc (.cells #[.bool false, .int .i64 0, .int .i64 0, .int .i64 0, .int .i64 0, .int .i64 0, .int .i64 0] 52)) := ((((Below.refl _ w).alloc (Nat.le_refl _) _).alloc (by simp) _).alloc (by simp; omega) _)
  have HA : Hid (BigAt (((w.alloc (.cells #[.bool m, .int .i64 (a 0), .int .i64 (a 1), .int .i64 (a 2), .int .i64 (a 3), .int .i64 (a 4), .int .i64 (a 5)] 52)).alloc (.cells #[.bool n, .int .i64 (b 0), .int .i64 (b 1), .int .i64 (b 2), .int .i64 (b 3), .int .i64 (b 4), .int .i64 (b 5)] 52)).alloc (.cells #[.bool false, .int .i64 0, .int .i64 0, .int .i64 0, .int .i64 0, .int .i64 0, .int .i64 0] 52)) w.heap.size m a ∧ BigAt (((w.alloc (.cells #[.bool m, .int .i64 (a 0), .int .i64 (a 1), .int .i64 (a 2), .int .i64 (a 3), .int .i64 (a 4), .int .i64 (a 5)] 52)).alloc (.cells #[.bool n, .int .i64 (b 0), .int .i64 (b 1), .int .i64 (b 2), .int .i64 (b 3), .int .i64 (b 4), .int .i64 (b 5)] 52)).alloc (.cells #[.bool false, .int .i64 0, .int .i64 0, .int .i64 0, .int .i64 0, .int .i64 0, .int .i64 0] 52)) (w.heap.size + 1) n b ∧ BigAt (((w.alloc (.cells #[.bool m, .int .i64 (a 0), .int .i64 (a 1), .int .i64 (a 2), .int .i64 (a 3), .int .i64 (a 4), .int .i64 (a 5)] 52)).alloc (.cells #[.bool n, .int .i64 (b 0), .int .i64 (b 1), .int .i64 (b 2), .int .i64 (b 3), .int .i64 (b 4), .int .i64 (b 5)] 52)).alloc (.cells #[.bool false, .int .i64 0, .int .i64 0, .int .i64 0, .int .i64 0, .int .i64 0, .int .i64 0] 52)) (w.heap.size + 1 + 1) false (fun _ => 0) ∧ Below w.heap.size w (((w.alloc (.cells #[.bool m, .int .i64 (a 0), .int .i64 (a 1), .int .i64 (a 2), .int .i64 (a 3), .int .i64 (a 4), .int .i64 (a 5)] 52)).alloc (.cells #[.bool n, .int .i64 (b 0), .int .i64 (b 1), .int .i64 (b 2), .int .i64 (b 3), .int .i64 (b 4), .int .i64 (b 5)] 52)).alloc (.cells #[.bool false, .int .i64 0, .int .i64 0, .int .i64 0, .int .i64 0, .int .i64 0, .int .i64 0] 52))) := ⟨A0, B0, R0, W0b⟩
  clear A0 B0 R0 W0b
  clear ha hb hz
  go_enter Try.func14, Try.ntmps14
  go_wp2_with fail
  refine Calls.mono (HS.out _) ?_
  rintro e w1 ⟨rfl, hb⟩
  have hA := HA.out.1.below hb
  have hB := HA.out.2.1.below hb
  have hR := HA.out.2.2.1.below hb
  have HB1 : Hid (Below w.heap.size w w1) := HA.out.2.2.2.trans (hb.mono HA.out.2.2.2.size)
  have HR1 : Hid (BigAt w1 (w.heap.size + 1 + 1) false (fun _ => 0)) := hR
  have hAf := hA.f
  have hBf := hB.f
  have s0 := hA.s
  have e0 : w1.cell? ⟨w.heap.size, 1, none⟩ = some (.int .i64 (a 0)) := hA.c 0 (by omega)
  have e1 : w1.cell? ⟨w.heap.size, 2, none⟩ = some (.int .i64 (a 1)) := hA.c 1 (by omega)
  have e2 : w1.cell? ⟨w.heap.size, 3, none⟩ = some (.int .i64 (a 2)) := hA.c 2 (by omega)
  have e3 : w1.cell? ⟨w.heap.size, 4, none⟩ = some (.int .i64 (a 3)) := hA.c 3 (by omega)
  have e4 : w1.cell? ⟨w.heap.size, 5, none⟩ = some (.int .i64 (a 4)) := hA.c 4 (by omega)
  have e5 : w1.cell? ⟨w.heap.size, 6, none⟩ = some (.int .i64 (a 5)) := hA.c 5 (by omega)
  have s1 := hB.s
  have f0 : w1.cell? ⟨w.heap.size + 1, 1, none⟩ = some (.int .i64 (b 0)) := hB.c 0 (by omega)
  have f1 : w1.cell? ⟨w.heap.size + 1, 2, none⟩ = some (.int .i64 (b 1)) := hB.c 1 (by omega)
  have f2 : w1.cell? ⟨w.heap.size + 1, 3, none⟩ = some (.int .i64 (b 2)) := hB.c 2 (by omega)
  have f3 : w1.cell? ⟨w.heap.size + 1, 4, none⟩ = some (.int .i64 (b 3)) := hB.c 3 (by omega)
  have f4 : w1.cell? ⟨w.heap.size + 1, 5, none⟩ = some (.int .i64 (b 4)) := hB.c 4 (by omega)
  have f5 : w1.cell? ⟨w.heap.size + 1, 6, none⟩ = some (.int .i64 (b 5)) := hB.c 5 (by omega)
  clear hA hB hR hb HA HS
  go_wp2_with fail
  refine Calls.mono (HL.out _) ?_
  rintro e w2 ⟨rfl, hb⟩
  have hR2 : BigAt w2 (w.heap.size + 1 + 1) false (fun _ => 0) := (HR1.out).below hb
  have HR2 : Hid (BigAt (w2.alloc (.cells #[.bool m, .int .i64 (dgL a b 0), .int .i64 (dgL a b 1), .int .i64 (dgL a b 2), .int .i64 (dgL a b 3), .int .i64 (dgL a b 4), .int .i64 (dgL a b 5)] 52)) (w.heap.size + 1 + 1) false (fun _ => 0)) := hR2.below ((Below.refl _ w2).alloc (Nat.le_refl _) _)
  have HC2 : Hid (BigAt (w2.alloc (.cells #[.bool m, .int .i64 (dgL a b 0), .int .i64 (dgL a b 1), .int .i64 (dgL a b 2), .int .i64 (dgL a b 3), .int .i64 (dgL a b 4), .int .i64 (dgL a b 5)] 52)) w2.heap.size m (dgL a b)) := bigAt_of (by simp [go_sem]) (by simp [go_sem]) (by simp [go_sem]) (by simp [go_sem]) (by simp [go_sem]) (by simp [go_sem]) (by simp [go_sem]) (fun j => by simp [go_sem])
  have hlt : w.heap.size + 1 + 1 < w2.heap.size := hR2.lt
  have HB2 : Hid (Below w.heap.size w (w2.alloc (.cells #[.bool m, .int .i64 (dgL a b 0), .int .i64 (dgL a b 1), .int .i64 (dgL a b 2), .int .i64 (dgL a b 3), .int .i64 (dgL a b 4), .int .i64 (dgL a b 5)] 52))) := by
    have k : Below w.heap.size w w2 := (HB1.out).trans (hb.mono (by have := HB1.out.size; omega))
    exact k.alloc k.size _
  clear hb hR2 hAf hBf HR1 HB1 HL
  clear s0 s1 e0 e1 e2 e3 e4 e5 f0 f1 f2 f3 f4 f5
  go_wp2_with fail
  refine Calls.mono (HZ.out _) ?_
  rintro e w3 ⟨rfl, hb⟩
  have hC := HC2.out.below hb
  have hR := HR2.out.below hb
  have HB : Hid (Below w.heap.size w w3) := HB2.out.trans (hb.mono HB2.out.size)
  have cf := hC.f
  have s0 := hC.s
  have e0 : w3.cell? ⟨w2.heap.size, 1, none⟩ = some (.int .i64 (dgL a b 0)) := hC.c 0 (by omega)
  have e1 : w3.cell? ⟨w2.heap.size, 2, none⟩ = some (.int .i64 (dgL a b 1)) := hC.c 1 (by omega)
  have e2 : w3.cell? ⟨w2.heap.size, 3, none⟩ = some (.int .i64 (dgL a b 2)) := hC.c 2 (by omega)
  have e3 : w3.cell? ⟨w2.heap.size, 4, none⟩ = some (.int .i64 (dgL a b 3)) := hC.c 3 (by omega)
  have e4 : w3.cell? ⟨w2.heap.size, 5, none⟩ = some (.int .i64 (dgL a b 4)) := hC.c 4 (by omega)
  have e5 : w3.cell? ⟨w2.heap.size, 6, none⟩ = some (.int .i64 (dgL a b 5)) := hC.c 5 (by omega)
  have t0 := hR.s
  have t1 : w3.cell? ⟨w.heap.size + 1 + 1, 1, none⟩ = some (.int .i64 0) := hR.c 0 (by omega)
  have t2 : w3.cell? ⟨w.heap.size + 1 + 1, 2, none⟩ = some (.int .i64 0) := hR.c 1 (by omega)
  have t3 : w3.cell? ⟨w.heap.size + 1 + 1, 3, none⟩ = some (.int .i64 0) := hR.c 2 (by omega)
  have t4 : w3.cell? ⟨w.heap.size + 1 + 1, 4, none⟩ = some (.int .i64 0) := hR.c 3 (by omega)
  have t5 : w3.cell? ⟨w.heap.size + 1 + 1, 5, none⟩ = some (.int .i64 0) := hR.c 4 (by omega)
  have t6 : w3.cell? ⟨w.heap.size + 1 + 1, 6, none⟩ = some (.int .i64 0) := hR.c 5 (by omega)
  have tf := hR.f
  clear hC hR hb HC2 HR2 HB2 HZ
  go_wp2
  refine bodyPost_ret (v := .agg #[.bool m, .int .i64 (dgL a b 0), .int .i64 (dgL a b 1), .int .i64 (dgL a b 2), .int .i64 (dgL a b 3), .int .i64 (dgL a b 4), .int .i64 (dgL a b 5)]) (by simp [results, Try.results14, go_sem, t0, t1, t2, t3, t4, t5, t6]) rfl ⟨rfl, ?_⟩
  exact bset (bset (bset (bset (bset (bset (bset HB.out _ _ _ (by omega)) _ _ _ (by omega)) _ _ _ (by omega)) _ _ _ (by omega)) _ _ _ (by omega)) _ _ _ (by omega)) _ _ _ (by omega)

set_option maxHeartbeats 4000000 in
theorem add_diff_ge_z (m n : Bool) (a b : Nat → Int) (w : World) (ha : Dig a) (hb : Dig b) (hmn : (m == n) = false) (hs : 0 ≤ sgnV a b) (hz : zB (dgL a b) = true) :
    Calls Try.prog 14 #[.agg #[.bool m, .int .i64 (a 0), .int .i64 (a 1), .int .i64 (a 2), .int .i64 (a 3), .int .i64 (a 4), .int .i64 (a 5)], .agg #[.bool n, .int .i64 (b 0), .int .i64 (b 1), .int .i64 (b 2), .int .i64 (b 3), .int .i64 (b 4), .int .i64 (b 5)]] w fun e w' => e = .returned (.agg #[.bool false, .int .i64 (dgL a b 0), .int .i64 (dgL a b 1), .int .i64 (dgL a b 2), .int .i64 (dgL a b 3), .int .i64 (dgL a b 4), .int .i64 (dgL a b 5)]) ∧ Below w.heap.size w w' := by
  have HL : Hid (∀ w, Calls Try.prog 25 #[.agg #[.bool m, .int .i64 (a 0), .int .i64 (a 1), .int .i64 (a 2), .int .i64 (a 3), .int .i64 (a 4), .int .i64 (a 5)], .agg #[.bool n, .int .i64 (b 0), .int .i64 (b 1), .int .i64 (b 2), .int .i64 (b 3), .int .i64 (b 4), .int .i64 (b 5)]] w fun e w' => e = .returned (.agg #[.bool m, .int .i64 (dgL a b 0), .int .i64 (dgL a b 1), .int .i64 (dgL a b 2), .int .i64 (dgL a b 3), .int .i64 (dgL a b 4), .int .i64 (dgL a b 5)]) ∧ Below w.heap.size w w') := fun w => rless_any m n a b w ha hb
  have HS : Hid (∀ w, Calls Try.prog 24 #[.agg #[.bool m, .int .i64 (a 0), .int .i64 (a 1), .int .i64 (a 2), .int .i64 (a 3), .int .i64 (a 4), .int .i64 (a 5)], .agg #[.bool n, .int .i64 (b 0), .int .i64 (b 1), .int .i64 (b 2), .int .i64 (b 3), .int .i64 (b 4), .int .i64 (b 5)]] w fun e w' => e = .returned (.int .i64 (sgnV a b)) ∧ Below w.heap.size w w') := fun w => rsize_any m n a b w ha hb
  have HZ : Hid (∀ w, Calls Try.prog 26 #[.agg #[.bool m, .int .i64 (dgL a b 0), .int .i64 (dgL a b 1), .int .i64 (dgL a b 2), .int .i64 (dgL a b 3), .int .i64 (dgL a b 4), .int .i64 (dgL a b 5)]] w fun e w' => e = .returned (.bool true) ∧ Below w.heap.size w w') := fun w => by rw [← hz]; exact bzero_any m (dgL a b) w
  have A0 : BigAt (((w.alloc (.cells #[.bool m, .int .i64 (a 0), .int .i64 (a 1), .int .i64 (a 2), .int .i64 (a 3), .int .i64 (a 4), .int .i64 (a 5)] 52)).alloc (.cells #[.bool n, .int .i64 (b 0), .int .i64 (b 1), .int .i64 (b 2), .int .i64 (b 3), .int .i64 (b 4), .int .i64 (b 5)] 52)).alloc (.cells #[.bool false, .int .i64 0, .int .i64 0, .int .i64 0, .int .i64 0, .int .i64 0, .int .i64 0] 52)) w.heap.size m a := bigAt_of (by simp [go_sem]) (by simp [go_sem]) (by simp [go_sem]) (by simp [go_sem]) (by simp [go_sem]) (by simp [go_sem]) (by simp [go_sem]) (fun j => by simp [go_sem])
  have B0 : BigAt (((w.alloc (.cells #[.bool m, .int .i64 (a 0), .int .i64 (a 1), .int .i64 (a 2), .int .i64 (a 3), .int .i64 (a 4), .int .i64 (a 5)] 52)).alloc (.cells #[.bool n, .int .i64 (b 0), .int .i64 (b 1), .int .i64 (b 2), .int .i64 (b 3), .int .i64 (b 4), .int .i64 (b 5)] 52)).alloc (.cells #[.bool false, .int .i64 0, .int .i64 0, .int .i64 0, .int .i64 0, .int .i64 0, .int .i64 0] 52)) (w.heap.size + 1) n b := bigAt_of (by simp [go_sem]) (by simp [go_sem]) (by simp [go_sem]) (by simp [go_sem]) (by simp [go_sem]) (by simp [go_sem]) (by simp [go_sem]) (fun j => by simp [go_sem])
  have R0 : BigAt (((w.alloc (.cells #[.bool m, .int .i64 (a 0), .int .i64 (a 1), .int .i64 (a 2), .int .i64 (a 3), .int .i64 (a 4), .int .i64 (a 5)] 52)).alloc (.cells #[.bool n, .int .i64 (b 0), .int .i64 (b 1), .int .i64 (b 2), .int .i64 (b 3), .int .i64 (b 4), .int .i64 (b 5)] 52)).alloc (.cells #[.bool false, .int .i64 0, .int .i64 0, .int .i64 0, .int .i64 0, .int .i64 0, .int .i64 0] 52)) (w.heap.size + 1 + 1) false (fun _ => 0) := bigAt_of (by simp [go_sem]) (by simp [go_sem]) (by simp [go_sem]) (by simp [go_sem]) (by simp [go_sem]) (by simp [go_sem]) (by simp [go_sem]) (fun j => by simp [go_sem])
  have W0b : Below w.heap.size w (((w.alloc (.cells #[.bool m, .int .i64 (a 0), .int .i64 (a 1), .int .i64 (a 2), .int .i64 (a 3), .int .i64 (a 4), .int .i64 (a 5)] 52)).alloc (.cells #[.bool n, .int .i64 (b 0), .int .i64 (b 1), .int .i64 (b 2), .int .i64 (b 3), .int .i64 (b 4), .int .i64 (b 5)] 52)).alloc (.cells #[.bool false, .int .i64 0, .int .i64 0, .int .i64 0, .int .i64 0, .int .i64 0, .int .i64 0] 52)) := ((((Below.refl _ w).alloc (Nat.le_refl _) _).alloc (by simp) _).alloc (by simp; omega) _)
  have HA : Hid (BigAt (((w.alloc (.cells #[.bool m, .int .i64 (a 0), .int .i64 (a 1), .int .i64 (a 2), .int .i64 (a 3), .int .i64 (a 4), .int .i64 (a 5)] 52)).alloc (.cells #[.bool n, .int .i64 (b 0), .int .i64 (b 1), .int .i64 (b 2), .int .i64 (b 3), .int .i64 (b 4), .int .i64 (b 5)] 52)).alloc (.cells #[.bool false, .int .i64 0, .int .i64 0, .int .i64 0, .int .i64 0, .int .i64 0, .int .i64 0] 52)) w.heap.size m a ∧ BigAt (((w.alloc (.cells #[.bool m, .int .i64 (a 0), .int .i64 (a 1), .int .i64 (a 2), .int .i64 (a 3), .int .i64 (a 4), .int .i64 (a 5)] 52)).alloc (.cells #[.bool n, .int .i64 (b 0), .int .i64 (b 1), .int .i64 (b 2), .int .i64 (b 3), .int .i64 (b 4), .int .i64 (b 5)] 52)).alloc (.cells #[.bool false, .int .i64 0, .int .i64 0, .int .i64 0, .int .i64 0, .int .i64 0, .int .i64 0] 52)) (w.heap.size + 1) n b ∧ BigAt (((w.alloc (.cells #[.bool m, .int .i64 (a 0), .int .i64 (a 1), .int .i64 (a 2), .int .i64 (a 3), .int .i64 (a 4), .int .i64 (a 5)] 52)).alloc (.cells #[.bool n, .int .i64 (b 0), .int .i64 (b 1), .int .i64 (b 2), .int .i64 (b 3), .int .i64 (b 4), .int .i64 (b 5)] 52)).alloc (.cells #[.bool false, .int .i64 0, .int .i64 0, .int .i64 0, .int .i64 0, .int .i64 0, .int .i64 0] 52)) (w.heap.size + 1 + 1) false (fun _ => 0) ∧ Below w.heap.size w (((w.alloc (.cells #[.bool m, .int .i64 (a 0), .int .i64 (a 1), .int .i64 (a 2), .int .i64 (a 3), .int .i64 (a 4), .int .i64 (a 5)] 52)).alloc (.cells #[.bool n, .int .i64 (b 0), .int .i64 (b 1), .int .i64 (b 2), .int .i64 (b 3), .int .i64 (b 4), .int .i64 (b 5)] 52)).alloc (.cells #[.bool false, .int .i64 0, .int .i64 0, .int .i64 0, .int .i64 0, .int .i64 0, .int .i64 0] 52))) := ⟨A0, B0, R0, W0b⟩
  clear A0 B0 R0 W0b
  clear ha hb hz
  go_enter Try.func14, Try.ntmps14
  go_wp2_with fail
  refine Calls.mono (HS.out _) ?_
  rintro e w1 ⟨rfl, hb⟩
  have hA := HA.out.1.below hb
  have hB := HA.out.2.1.below hb
  have hR := HA.out.2.2.1.below hb
  have HB1 : Hid (Below w.heap.size w w1) := HA.out.2.2.2.trans (hb.mono HA.out.2.2.2.size)
  have HR1 : Hid (BigAt w1 (w.heap.size + 1 + 1) false (fun _ => 0)) := hR
  have hAf := hA.f
  have hBf := hB.f
  have s0 := hA.s
  have e0 : w1.cell? ⟨w.heap.size, 1, none⟩ = some (.int .i64 (a 0)) := hA.c 0 (by omega)
  have e1 : w1.cell? ⟨w.heap.size, 2, none⟩ = some (.int .i64 (a 1)) := hA.c 1 (by omega)
  have e2 : w1.cell? ⟨w.heap.size, 3, none⟩ = some (.int .i64 (a 2)) := hA.c 2 (by omega)
  have e3 : w1.cell? ⟨w.heap.size, 4, none⟩ = some (.int .i64 (a 3)) := hA.c 3 (by omega)
  have e4 : w1.cell? ⟨w.heap.size, 5, none⟩ = some (.int .i64 (a 4)) := hA.c 4 (by omega)
  have e5 : w1.cell? ⟨w.heap.size, 6, none⟩ = some (.int .i64 (a 5)) := hA.c 5 (by omega)
  have s1 := hB.s
  have f0 : w1.cell? ⟨w.heap.size + 1, 1, none⟩ = some (.int .i64 (b 0)) := hB.c 0 (by omega)
  have f1 : w1.cell? ⟨w.heap.size + 1, 2, none⟩ = some (.int .i64 (b 1)) := hB.c 1 (by omega)
  have f2 : w1.cell? ⟨w.heap.size + 1, 3, none⟩ = some (.int .i64 (b 2)) := hB.c 2 (by omega)
  have f3 : w1.cell? ⟨w.heap.size + 1, 4, none⟩ = some (.int .i64 (b 3)) := hB.c 3 (by omega)
  have f4 : w1.cell? ⟨w.heap.size + 1, 5, none⟩ = some (.int .i64 (b 4)) := hB.c 4 (by omega)
  have f5 : w1.cell? ⟨w.heap.size + 1, 6, none⟩ = some (.int .i64 (b 5)) := hB.c 5 (by omega)
  clear hA hB hR hb HA HS
  go_wp2_with fail
  refine Calls.mono (HL.out _) ?_
  rintro e w2 ⟨rfl, hb⟩
  have hR2 : BigAt w2 (w.heap.size + 1 + 1) false (fun _ => 0) := (HR1.out).below hb
  have HR2 : Hid (BigAt (w2.alloc (.cells #[.bool m, .int .i64 (dgL a b 0), .int .i64 (dgL a b 1), .int .i64 (dgL a b 2), .int .i64 (dgL a b 3), .int .i64 (dgL a b 4), .int .i64 (dgL a b 5)] 52)) (w.heap.size + 1 + 1) false (fun _ => 0)) := hR2.below ((Below.refl _ w2).alloc (Nat.le_refl _) _)
  have HC2 : Hid (BigAt (w2.alloc (.cells #[.bool m, .int .i64 (dgL a b 0), .int .i64 (dgL a b 1), .int .i64 (dgL a b 2), .int .i64 (dgL a b 3), .int .i64 (dgL a b 4), .int .i64 (dgL a b 5)] 52)) w2.heap.size m (dgL a b)) := bigAt_of (by simp [go_sem]) (by simp [go_sem]) (by simp [go_sem]) (by simp [go_sem]) (by simp [go_sem]) (by simp [go_sem]) (by simp [go_sem]) (fun j => by simp [go_sem])
  have hlt : w.heap.size + 1 + 1 < w2.heap.size := hR2.lt
  have HB2 : Hid (Below w.heap.size w (w2.alloc (.cells #[.bool m, .int .i64 (dgL a b 0), .int .i64 (dgL a b 1), .int .i64 (dgL a b 2), .int .i64 (dgL a b 3), .int .i64 (dgL a b 4), .int .i64 (dgL a b 5)] 52))) := by
    have k : Below w.heap.size w w2 := (HB1.out).trans (hb.mono (by have := HB1.out.size; omega))
    exact k.alloc k.size _
  clear hb hR2 hAf hBf HR1 HB1 HL
  clear s0 s1 e0 e1 e2 e3 e4 e5 f0 f1 f2 f3 f4 f5
  go_wp2_with fail
  refine Calls.mono (HZ.out _) ?_
  rintro e w3 ⟨rfl, hb⟩
  have hC := HC2.out.below hb
  have hR := HR2.out.below hb
  have HB : Hid (Below w.heap.size w w3) := HB2.out.trans (hb.mono HB2.out.size)
  have cf := hC.f
  have s0 := hC.s
  have e0 : w3.cell? ⟨w2.heap.size, 1, none⟩ = some (.int .i64 (dgL a b 0)) := hC.c 0 (by omega)
  have e1 : w3.cell? ⟨w2.heap.size, 2, none⟩ = some (.int .i64 (dgL a b 1)) := hC.c 1 (by omega)
  have e2 : w3.cell? ⟨w2.heap.size, 3, none⟩ = some (.int .i64 (dgL a b 2)) := hC.c 2 (by omega)
  have e3 : w3.cell? ⟨w2.heap.size, 4, none⟩ = some (.int .i64 (dgL a b 3)) := hC.c 3 (by omega)
  have e4 : w3.cell? ⟨w2.heap.size, 5, none⟩ = some (.int .i64 (dgL a b 4)) := hC.c 4 (by omega)
  have e5 : w3.cell? ⟨w2.heap.size, 6, none⟩ = some (.int .i64 (dgL a b 5)) := hC.c 5 (by omega)
  have t0 := hR.s
  have t1 : w3.cell? ⟨w.heap.size + 1 + 1, 1, none⟩ = some (.int .i64 0) := hR.c 0 (by omega)
  have t2 : w3.cell? ⟨w.heap.size + 1 + 1, 2, none⟩ = some (.int .i64 0) := hR.c 1 (by omega)
  have t3 : w3.cell? ⟨w.heap.size + 1 + 1, 3, none⟩ = some (.int .i64 0) := hR.c 2 (by omega)
  have t4 : w3.cell? ⟨w.heap.size + 1 + 1, 4, none⟩ = some (.int .i64 0) := hR.c 3 (by omega)
  have t5 : w3.cell? ⟨w.heap.size + 1 + 1, 5, none⟩ = some (.int .i64 0) := hR.c 4 (by omega)
  have t6 : w3.cell? ⟨w.heap.size + 1 + 1, 6, none⟩ = some (.int .i64 0) := hR.c 5 (by omega)
  have tf := hR.f
  clear hC hR hb HC2 HR2 HB2 HZ
  go_wp2
  refine bodyPost_ret (v := .agg #[.bool false, .int .i64 (dgL a b 0), .int .i64 (dgL a b 1), .int .i64 (dgL a b 2), .int .i64 (dgL a b 3), .int .i64 (dgL a b 4), .int .i64 (dgL a b 5)]) (by simp [results, Try.results14, go_sem, t0, t1, t2, t3, t4, t5, t6]) rfl ⟨rfl, ?_⟩
  exact bset (bset (bset (bset (bset (bset (bset (bset HB.out _ _ _ (by omega)) _ _ _ (by omega)) _ _ _ (by omega)) _ _ _ (by omega)) _ _ _ (by omega)) _ _ _ (by omega)) _ _ _ (by omega)) _ _ _ (by omega)

set_option maxHeartbeats 4000000 in
theorem add_diff_lt_n (m n : Bool) (a b : Nat → Int) (w : World) (ha : Dig a) (hb : Dig b) (hmn : (m == n) = false) (hs : sgnV a b < 0) (hz : zB (dgL b a) = false) :
    Calls Try.prog 14 #[.agg #[.bool m, .int .i64 (a 0), .int .i64 (a 1), .int .i64 (a 2), .int .i64 (a 3), .int .i64 (a 4), .int .i64 (a 5)], .agg #[.bool n, .int .i64 (b 0), .int .i64 (b 1), .int .i64 (b 2), .int .i64 (b 3), .int .i64 (b 4), .int .i64 (b 5)]] w fun e w' => e = .returned (.agg #[.bool n, .int .i64 (dgL b a 0), .int .i64 (dgL b a 1), .int .i64 (dgL b a 2), .int .i64 (dgL b a 3), .int .i64 (dgL b a 4), .int .i64 (dgL b a 5)]) ∧ Below w.heap.size w w' := by
  have HL : Hid (∀ w, Calls Try.prog 25 #[.agg #[.bool n, .int .i64 (b 0), .int .i64 (b 1), .int .i64 (b 2), .int .i64 (b 3), .int .i64 (b 4), .int .i64 (b 5)], .agg #[.bool m, .int .i64 (a 0), .int .i64 (a 1), .int .i64 (a 2), .int .i64 (a 3), .int .i64 (a 4), .int .i64 (a 5)]] w fun e w' => e = .returned (.agg #[.bool n, .int .i64 (dgL b a 0), .int .i64 (dgL b a 1), .int .i64 (dgL b a 2), .int .i64 (dgL b a 3), .int .i64 (dgL b a 4), .int .i64 (dgL b a 5)]) ∧ Below w.heap.size w w') := fun w => rless_any n m b a w hb ha
  have HS : Hid (∀ w, Calls Try.prog 24 #[.agg #[.bool m, .int .i64 (a 0), .int .i64 (a 1), .int .i64 (a 2), .int .i64 (a 3), .int .i64 (a 4), .int .i64 (a 5)], .agg #[.bool n, .int .i64 (b 0), .int .i64 (b 1), .int .i64 (b 2), .int .i64 (b 3), .int .i64 (b 4), .int .i64 (b 5)]] w fun e w' => e = .returned (.int .i64 (sgnV a b)) ∧ Below w.heap.size w w') := fun w => rsize_any m n a b w ha hb
  have HZ : Hid (∀ w, Calls Try.prog 26 #[.agg #[.bool n, .int .i64 (dgL b a 0), .int .i64 (dgL b a 1), .int .i64 (dgL b a 2), .int .i64 (dgL b a 3), .int .i64 (dgL b a 4), .int .i64 (dgL b a 5)]] w fun e w' => e = .returned (.bool false) ∧ Below w.heap.size w w') := fun w => by rw [← hz]; exact bzero_any n (dgL b a) w
  have A0 : BigAt (((w.alloc (.cells #[.bool m, .int .i64 (a 0), .int .i64 (a 1), .int .i64 (a 2), .int .i64 (a 3), .int .i64 (a 4), .int .i64 (a 5)] 52)).alloc (.cells #[.bool n, .int .i64 (b 0), .int .i64 (b 1), .int .i64 (b 2), .int .i64 (b 3), .int .i64 (b 4), .int .i64 (b 5)] 52)).alloc (.cells #[.bool false, .int .i64 0, .int .i64 0, .int .i64 0, .int .i64 0, .int .i64 0, .int .i64 0] 52)) w.heap.size m a := bigAt_of (by simp [go_sem]) (by simp [go_sem]) (by simp [go_sem]) (by simp [go_sem]) (by simp [go_sem]) (by simp [go_sem]) (by simp [go_sem]) (fun j => by simp [go_sem])
  have B0 : BigAt (((w.alloc (.cells #[.bool m, .int .i64 (a 0), .int .i64 (a 1), .int .i64 (a 2), .int .i64 (a 3), .int .i64 (a 4), .int .i64 (a 5)] 52)).alloc (.cells #[.bool n, .int .i64 (b 0), .int .i64 (b 1), .int .i64 (b 2), .int .i64 (b 3), .int .i64 (b 4), .int .i64 (b 5)] 52)).alloc (.cells #[.bool false, .int .i64 0, .int .i64 0, .int .i64 0, .int .i64 0, .int .i64 0, .int .i64 0] 52)) (w.heap.size + 1) n b := bigAt_of (by simp [go_sem]) (by simp [go_sem]) (by simp [go_sem]) (by simp [go_sem]) (by simp [go_sem]) (by simp [go_sem]) (by simp [go_sem]) (fun j => by simp [go_sem])
  have R0 : BigAt (((w.alloc (.cells #[.bool m, .int .i64 (a 0), .int .i64 (a 1), .int .i64 (a 2), .int .i64 (a 3), .int .i64 (a 4), .int .i64 (a 5)] 52)).alloc (.cells #[.bool n, .int .i64 (b 0), .int .i64 (b 1), .int .i64 (b 2), .int .i64 (b 3), .int .i64 (b 4), .int .i64 (b 5)] 52)).alloc (.cells #[.bool false, .int .i64 0, .int .i64 0, .int .i64 0, .int .i64 0, .int .i64 0, .int .i64 0] 52)) (w.heap.size + 1 + 1) false (fun _ => 0) := bigAt_of (by simp [go_sem]) (by simp [go_sem]) (by simp [go_sem]) (by simp [go_sem]) (by simp [go_sem]) (by simp [go_sem]) (by simp [go_sem]) (fun j => by simp [go_sem])
  have W0b : Below w.heap.size w (((w.alloc (.cells #[.bool m, .int .i64 (a 0), .int .i64 (a 1), .int .i64 (a 2), .int .i64 (a 3), .int .i64 (a 4), .int .i64 (a 5)] 52)).alloc (.cells #[.bool n, .int .i64 (b 0), .int .i64 (b 1), .int .i64 (b 2), .int .i64 (b 3), .int .i64 (b 4), .int .i64 (b 5)] 52)).alloc (.cells #[.bool false, .int .i64 0, .int .i64 0, .int .i64 0, .int .i64 0, .int .i64 0, .int .i64 0] 52)) := ((((Below.refl _ w).alloc (Nat.le_refl _) _).alloc (by simp) _).alloc (by simp; omega) _)
  have HA : Hid (BigAt (((w.alloc (.cells #[.bool m, .int .i64 (a 0), .int .i64 (a 1), .int .i64 (a 2), .int .i64 (a 3), .int .i64 (a 4), .int .i64 (a 5)] 52)).alloc (.cells #[.bool n, .int .i64 (b 0), .int .i64 (b 1), .int .i64 (b 2), .int .i64 (b 3), .int .i64 (b 4), .int .i64 (b 5)] 52)).alloc (.cells #[.bool false, .int .i64 0, .int .i64 0, .int .i64 0, .int .i64 0, .int .i64 0, .int .i64 0] 52)) w.heap.size m a ∧ BigAt (((w.alloc (.cells #[.bool m, .int .i64 (a 0), .int .i64 (a 1), .int .i64 (a 2), .int .i64 (a 3), .int .i64 (a 4), .int .i64 (a 5)] 52)).alloc (.cells #[.bool n, .int .i64 (b 0), .int .i64 (b 1), .int .i64 (b 2), .int .i64 (b 3), .int .i64 (b 4), .int .i64 (b 5)] 52)).alloc (.cells #[.bool false, .int .i64 0, .int .i64 0, .int .i64 0, .int .i64 0, .int .i64 0, .int .i64 0] 52)) (w.heap.size + 1) n b ∧ BigAt (((w.alloc (.cells #[.bool m, .int .i64 (a 0), .int .i64 (a 1), .int .i64 (a 2), .int .i64 (a 3), .int .i64 (a 4), .int .i64 (a 5)] 52)).alloc (.cells #[.bool n, .int .i64 (b 0), .int .i64 (b 1), .int .i64 (b 2), .int .i64 (b 3), .int .i64 (b 4), .int .i64 (b 5)] 52)).alloc (.cells #[.bool false, .int .i64 0, .int .i64 0, .int .i64 0, .int .i64 0, .int .i64 0, .int .i64 0] 52)) (w.heap.size + 1 + 1) false (fun _ => 0) ∧ Below w.heap.size w (((w.alloc (.cells #[.bool m, .int .i64 (a 0), .int .i64 (a 1), .int .i64 (a 2), .int .i64 (a 3), .int .i64 (a 4), .int .i64 (a 5)] 52)).alloc (.cells #[.bool n, .int .i64 (b 0), .int .i64 (b 1), .int .i64 (b 2), .int .i64 (b 3), .int .i64 (b 4), .int .i64 (b 5)] 52)).alloc (.cells #[.bool false, .int .i64 0, .int .i64 0, .int .i64 0, .int .i64 0, .int .i64 0, .int .i64 0] 52))) := ⟨A0, B0, R0, W0b⟩
  clear A0 B0 R0 W0b
  clear ha hb hz
  go_enter Try.func14, Try.ntmps14
  go_wp2_with fail
  refine Calls.mono (HS.out _) ?_
  rintro e w1 ⟨rfl, hb⟩
  have hA := HA.out.1.below hb
  have hB := HA.out.2.1.below hb
  have hR := HA.out.2.2.1.below hb
  have HB1 : Hid (Below w.heap.size w w1) := HA.out.2.2.2.trans (hb.mono HA.out.2.2.2.size)
  have HR1 : Hid (BigAt w1 (w.heap.size + 1 + 1) false (fun _ => 0)) := hR
  have hAf := hA.f
  have hBf := hB.f
  have s0 := hA.s
  have e0 : w1.cell? ⟨w.heap.size, 1, none⟩ = some (.int .i64 (a 0)) := hA.c 0 (by omega)
  have e1 : w1.cell? ⟨w.heap.size, 2, none⟩ = some (.int .i64 (a 1)) := hA.c 1 (by omega)
  have e2 : w1.cell? ⟨w.heap.size, 3, none⟩ = some (.int .i64 (a 2)) := hA.c 2 (by omega)
  have e3 : w1.cell? ⟨w.heap.size, 4, none⟩ = some (.int .i64 (a 3)) := hA.c 3 (by omega)
  have e4 : w1.cell? ⟨w.heap.size, 5, none⟩ = some (.int .i64 (a 4)) := hA.c 4 (by omega)
  have e5 : w1.cell? ⟨w.heap.size, 6, none⟩ = some (.int .i64 (a 5)) := hA.c 5 (by omega)
  have s1 := hB.s
  have f0 : w1.cell? ⟨w.heap.size + 1, 1, none⟩ = some (.int .i64 (b 0)) := hB.c 0 (by omega)
  have f1 : w1.cell? ⟨w.heap.size + 1, 2, none⟩ = some (.int .i64 (b 1)) := hB.c 1 (by omega)
  have f2 : w1.cell? ⟨w.heap.size + 1, 3, none⟩ = some (.int .i64 (b 2)) := hB.c 2 (by omega)
  have f3 : w1.cell? ⟨w.heap.size + 1, 4, none⟩ = some (.int .i64 (b 3)) := hB.c 3 (by omega)
  have f4 : w1.cell? ⟨w.heap.size + 1, 5, none⟩ = some (.int .i64 (b 4)) := hB.c 4 (by omega)
  have f5 : w1.cell? ⟨w.heap.size + 1, 6, none⟩ = some (.int .i64 (b 5)) := hB.c 5 (by omega)
  clear hA hB hR hb HA HS
  go_wp2_with fail
  refine Calls.mono (HL.out _) ?_
  rintro e w2 ⟨rfl, hb⟩
  have hR2 : BigAt w2 (w.heap.size + 1 + 1) false (fun _ => 0) := ((HR1.out.other7 (by omega) _ _ _ _ _ _ _).other7 (by omega) _ _ _ _ _ _ _).below hb
  have HR2 : Hid (BigAt (w2.alloc (.cells #[.bool n, .int .i64 (dgL b a 0), .int .i64 (dgL b a 1), .int .i64 (dgL b a 2), .int .i64 (dgL b a 3), .int .i64 (dgL b a 4), .int .i64 (dgL b a 5)] 52)) (w.heap.size + 1 + 1) false (fun _ => 0)) := hR2.below ((Below.refl _ w2).alloc (Nat.le_refl _) _)
  have HC2 : Hid (BigAt (w2.alloc (.cells #[.bool n, .int .i64 (dgL b a 0), .int .i64 (dgL b a 1), .int .i64 (dgL b a 2), .int .i64 (dgL b a 3), .int .i64 (dgL b a 4), .int .i64 (dgL b a 5)] 52)) w2.heap.size n (dgL b a)) := bigAt_of (by simp [go_sem]) (by simp [go_sem]) (by simp [go_sem]) (by simp [go_sem]) (by simp [go_sem]) (by simp [go_sem]) (by simp [go_sem]) (fun j => by simp [go_sem])
  have hlt : w.heap.size + 1 + 1 < w2.heap.size := hR2.lt
  have HB2 : Hid (Below w.heap.size w (w2.alloc (.cells #[.bool n, .int .i64 (dgL b a 0), .int .i64 (dgL b a 1), .int .i64 (dgL b a 2), .int .i64 (dgL b a 3), .int .i64 (dgL b a 4), .int .i64 (dgL b a 5)] 52))) := by
    have k : Below w.heap.size w w2 := (bset7 (bset7 HB1.out w.heap.size _ _ _ _ _ _ _ (Nat.le_refl _)) (w.heap.size + 1) _ _ _ _ _ _ _ (by omega)).trans (hb.mono (by have := HB1.out.size; simp; omega))
    exact k.alloc k.size _
  clear hb hR2 hAf hBf HR1 HB1 HL
  clear s0 s1 e0 e1 e2 e3 e4 e5 f0 f1 f2 f3 f4 f5
  go_wp2_with fail
  refine Calls.mono (HZ.out _) ?_
  rintro e w3 ⟨rfl, hb⟩
  have hC := HC2.out.below hb
  have hR := HR2.out.below hb
  have HB : Hid (Below w.heap.size w w3) := HB2.out.trans (hb.mono HB2.out.size)
  have cf := hC.f
  have s0 := hC.s
  have e0 : w3.cell? ⟨w2.heap.size, 1, none⟩ = some (.int .i64 (dgL b a 0)) := hC.c 0 (by omega)
  have e1 : w3.cell? ⟨w2.heap.size, 2, none⟩ = some (.int .i64 (dgL b a 1)) := hC.c 1 (by omega)
  have e2 : w3.cell? ⟨w2.heap.size, 3, none⟩ = some (.int .i64 (dgL b a 2)) := hC.c 2 (by omega)
  have e3 : w3.cell? ⟨w2.heap.size, 4, none⟩ = some (.int .i64 (dgL b a 3)) := hC.c 3 (by omega)
  have e4 : w3.cell? ⟨w2.heap.size, 5, none⟩ = some (.int .i64 (dgL b a 4)) := hC.c 4 (by omega)
  have e5 : w3.cell? ⟨w2.heap.size, 6, none⟩ = some (.int .i64 (dgL b a 5)) := hC.c 5 (by omega)
  have t0 := hR.s
  have t1 : w3.cell? ⟨w.heap.size + 1 + 1, 1, none⟩ = some (.int .i64 0) := hR.c 0 (by omega)
  have t2 : w3.cell? ⟨w.heap.size + 1 + 1, 2, none⟩ = some (.int .i64 0) := hR.c 1 (by omega)
  have t3 : w3.cell? ⟨w.heap.size + 1 + 1, 3, none⟩ = some (.int .i64 0) := hR.c 2 (by omega)
  have t4 : w3.cell? ⟨w.heap.size + 1 + 1, 4, none⟩ = some (.int .i64 0) := hR.c 3 (by omega)
  have t5 : w3.cell? ⟨w.heap.size + 1 + 1, 5, none⟩ = some (.int .i64 0) := hR.c 4 (by omega)
  have t6 : w3.cell? ⟨w.heap.size + 1 + 1, 6, none⟩ = some (.int .i64 0) := hR.c 5 (by omega)
  have tf := hR.f
  clear hC hR hb HC2 HR2 HB2 HZ
  go_wp2
  refine bodyPost_ret (v := .agg #[.bool n, .int .i64 (dgL b a 0), .int .i64 (dgL b a 1), .int .i64 (dgL b a 2), .int .i64 (dgL b a 3), .int .i64 (dgL b a 4), .int .i64 (dgL b a 5)]) (by simp [results, Try.results14, go_sem, t0, t1, t2, t3, t4, t5, t6]) rfl ⟨rfl, ?_⟩
  exact bset (bset (bset (bset (bset (bset (bset HB.out _ _ _ (by omega)) _ _ _ (by omega)) _ _ _ (by omega)) _ _ _ (by omega)) _ _ _ (by omega)) _ _ _ (by omega)) _ _ _ (by omega)

set_option maxHeartbeats 4000000 in
theorem add_diff_lt_z (m n : Bool) (a b : Nat → Int) (w : World) (ha : Dig a) (hb : Dig b) (hmn : (m == n) = false) (hs : sgnV a b < 0) (hz : zB (dgL b a) = true) :
    Calls Try.prog 14 #[.agg #[.bool m, .int .i64 (a 0), .int .i64 (a 1), .int .i64 (a 2), .int .i64 (a 3), .int .i64 (a 4), .int .i64 (a 5)], .agg #[.bool n, .int .i64 (b 0), .int .i64 (b 1), .int .i64 (b 2), .int .i64 (b 3), .int .i64 (b 4), .int .i64 (b 5)]] w fun e w' => e = .returned (.agg #[.bool false, .int .i64 (dgL b a 0), .int .i64 (dgL b a 1), .int .i64 (dgL b a 2), .int .i64 (dgL b a 3), .int .i64 (dgL b a 4), .int .i64 (dgL b a 5)]) ∧ Below w.heap.size w w' := by
  have HL : Hid (∀ w, Calls Try.prog 25 #[.agg #[.bool n, .int .i64 (b 0), .int .i64 (b 1), .int .i64 (b 2), .int .i64 (b 3), .int .i64 (b 4), .int .i64 (b 5)], .agg #[.bool m, .int .i64 (a 0), .int .i64 (a 1), .int .i64 (a 2), .int .i64 (a 3), .int .i64 (a 4), .int .i64 (a 5)]] w fun e w' => e = .returned (.agg #[.bool n, .int .i64 (dgL b a 0), .int .i64 (dgL b a 1), .int .i64 (dgL b a 2), .int .i64 (dgL b a 3), .int .i64 (dgL b a 4), .int .i64 (dgL b a 5)]) ∧ Below w.heap.size w w') := fun w => rless_any n m b a w hb ha
  have HS : Hid (∀ w, Calls Try.prog 24 #[.agg #[.bool m, .int .i64 (a 0), .int .i64 (a 1), .int .i64 (a 2), .int .i64 (a 3), .int .i64 (a 4), .int .i64 (a 5)], .agg #[.bool n, .int .i64 (b 0), .int .i64 (b 1), .int .i64 (b 2), .int .i64 (b 3), .int .i64 (b 4), .int .i64 (b 5)]] w fun e w' => e = .returned (.int .i64 (sgnV a b)) ∧ Below w.heap.size w w') := fun w => rsize_any m n a b w ha hb
  have HZ : Hid (∀ w, Calls Try.prog 26 #[.agg #[.bool n, .int .i64 (dgL b a 0), .int .i64 (dgL b a 1), .int .i64 (dgL b a 2), .int .i64 (dgL b a 3), .int .i64 (dgL b a 4), .int .i64 (dgL b a 5)]] w fun e w' => e = .returned (.bool true) ∧ Below w.heap.size w w') := fun w => by rw [← hz]; exact bzero_any n (dgL b a) w
  have A0 : BigAt (((w.alloc (.cells #[.bool m, .int .i64 (a 0), .int .i64 (a 1), .int .i64 (a 2), .int .i64 (a 3), .int .i64 (a 4), .int .i64 (a 5)] 52)).alloc (.cells #[.bool n, .int .i64 (b 0), .int .i64 (b 1), .int .i64 (b 2), .int .i64 (b 3), .int .i64 (b 4), .int .i64 (b 5)] 52)).alloc (.cells #[.bool false, .int .i64 0, .int .i64 0, .int .i64 0, .int .i64 0, .int .i64 0, .int .i64 0] 52)) w.heap.size m a := bigAt_of (by simp [go_sem]) (by simp [go_sem]) (by simp [go_sem]) (by simp [go_sem]) (by simp [go_sem]) (by simp [go_sem]) (by simp [go_sem]) (fun j => by simp [go_sem])
  have B0 : BigAt (((w.alloc (.cells #[.bool m, .int .i64 (a 0), .int .i64 (a 1), .int .i64 (a 2), .int .i64 (a 3), .int .i64 (a 4), .int .i64 (a 5)] 52)).alloc (.cells #[.bool n, .int .i64 (b 0), .int .i64 (b 1), .int .i64 (b 2), .int .i64 (b 3), .int .i64 (b 4), .int .i64 (b 5)] 52)).alloc (.cells #[.bool false, .int .i64 0, .int .i64 0, .int .i64 0, .int .i64 0, .int .i64 0, .int .i64 0] 52)) (w.heap.size + 1) n b := bigAt_of (by simp [go_sem]) (by simp [go_sem]) (by simp [go_sem]) (by simp [go_sem]) (by simp [go_sem]) (by simp [go_sem]) (by simp [go_sem]) (fun j => by simp [go_sem])
  have R0 : BigAt (((w.alloc (.cells #[.bool m, .int .i64 (a 0), .int .i64 (a 1), .int .i64 (a 2), .int .i64 (a 3), .int .i64 (a 4), .int .i64 (a 5)] 52)).alloc (.cells #[.bool n, .int .i64 (b 0), .int .i64 (b 1), .int .i64 (b 2), .int .i64 (b 3), .int .i64 (b 4), .int .i64 (b 5)] 52)).alloc (.cells #[.bool false, .int .i64 0, .int .i64 0, .int .i64 0, .int .i64 0, .int .i64 0, .int .i64 0] 52)) (w.heap.size + 1 + 1) false (fun _ => 0) := bigAt_of (by simp [go_sem]) (by simp [go_sem]) (by simp [go_sem]) (by simp [go_sem]) (by simp [go_sem]) (by simp [go_sem]) (by simp [go_sem]) (fun j => by simp [go_sem])
  have W0b : Below w.heap.size w (((w.alloc (.cells #[.bool m, .int .i64 (a 0), .int .i64 (a 1), .int .i64 (a 2), .int .i64 (a 3), .int .i64 (a 4), .int .i64 (a 5)] 52)).alloc (.cells #[.bool n, .int .i64 (b 0), .int .i64 (b 1), .int .i64 (b 2), .int .i64 (b 3), .int .i64 (b 4), .int .i64 (b 5)] 52)).alloc (.cells #[.bool false, .int .i64 0, .int .i64 0, .int .i64 0, .int .i64 0, .int .i64 0, .int .i64 0] 52)) := ((((Below.refl _ w).alloc (Nat.le_refl _) _).alloc (by simp) _).alloc (by simp; omega) _)
  have HA : Hid (BigAt (((w.alloc (.cells #[.bool m, .int .i64 (a 0), .int .i64 (a 1), .int .i64 (a 2), .int .i64 (a 3), .int .i64 (a 4), .int .i64 (a 5)] 52)).alloc (.cells #[.bool n, .int .i64 (b 0), .int .i64 (b 1), .int .i64 (b 2), .int .i64 (b 3), .int .i64 (b 4), .int .i64 (b 5)] 52)).alloc (.cells #[.bool false, .int .i64 0, .int .i64 0, .int .i64 0, .int .i64 0, .int .i64 0, .int .i64 0] 52)) w.heap.size m a ∧ BigAt (((w.alloc (.cells #[.bool m, .int .i64 (a 0), .int .i64 (a 1), .int .i64 (a 2), .int .i64 (a 3), .int .i64 (a 4), .int .i64 (a 5)] 52)).alloc (.cells #[.bool n, .int .i64 (b 0), .int .i64 (b 1), .int .i64 (b 2), .int .i64 (b 3), .int .i64 (b 4), .int .i64 (b 5)] 52)).alloc (.cells #[.bool false, .int .i64 0, .int .i64 0, .int .i64 0, .int .i64 0, .int .i64 0, .int .i64 0] 52)) (w.heap.size + 1) n b ∧ BigAt (((w.alloc (.cells #[.bool m, .int .i64 (a 0), .int .i64 (a 1), .int .i64 (a 2), .int .i64 (a 3), .int .i64 (a 4), .int .i64 (a 5)] 52)).alloc (.cells #[.bool n, .int .i64 (b 0), .int .i64 (b 1), .int .i64 (b 2), .int .i64 (b 3), .int .i64 (b 4), .int .i64 (b 5)] 52)).alloc (.cells #[.bool false, .int .i64 0, .int .i64 0, .int .i64 0, .int .i64 0, .int .i64 0, .int .i64 0] 52)) (w.heap.size + 1 + 1) false (fun _ => 0) ∧ Below w.heap.size w (((w.alloc (.cells #[.bool m, .int .i64 (a 0), .int .i64 (a 1), .int .i64 (a 2), .int .i64 (a 3), .int .i64 (a 4), .int .i64 (a 5)] 52)).alloc (.cells #[.bool n, .int .i64 (b 0), .int .i64 (b 1), .int .i64 (b 2), .int .i64 (b 3), .int .i64 (b 4), .int .i64 (b 5)] 52)).alloc (.cells #[.bool false, .int .i64 0, .int .i64 0, .int .i64 0, .int .i64 0, .int .i64 0, .int .i64 0] 52))) := ⟨A0, B0, R0, W0b⟩
  clear A0 B0 R0 W0b
  clear ha hb hz
  go_enter Try.func14, Try.ntmps14
  go_wp2_with fail
  refine Calls.mono (HS.out _) ?_
  rintro e w1 ⟨rfl, hb⟩
  have hA := HA.out.1.below hb
  have hB := HA.out.2.1.below hb
  have hR := HA.out.2.2.1.below hb
  have HB1 : Hid (Below w.heap.size w w1) := HA.out.2.2.2.trans (hb.mono HA.out.2.2.2.size)
  have HR1 : Hid (BigAt w1 (w.heap.size + 1 + 1) false (fun _ => 0)) := hR
  have hAf := hA.f
  have hBf := hB.f
  have s0 := hA.s
  have e0 : w1.cell? ⟨w.heap.size, 1, none⟩ = some (.int .i64 (a 0)) := hA.c 0 (by omega)
  have e1 : w1.cell? ⟨w.heap.size, 2, none⟩ = some (.int .i64 (a 1)) := hA.c 1 (by omega)
  have e2 : w1.cell? ⟨w.heap.size, 3, none⟩ = some (.int .i64 (a 2)) := hA.c 2 (by omega)
  have e3 : w1.cell? ⟨w.heap.size, 4, none⟩ = some (.int .i64 (a 3)) := hA.c 3 (by omega)
  have e4 : w1.cell? ⟨w.heap.size, 5, none⟩ = some (.int .i64 (a 4)) := hA.c 4 (by omega)
  have e5 : w1.cell? ⟨w.heap.size, 6, none⟩ = some (.int .i64 (a 5)) := hA.c 5 (by omega)
  have s1 := hB.s
  have f0 : w1.cell? ⟨w.heap.size + 1, 1, none⟩ = some (.int .i64 (b 0)) := hB.c 0 (by omega)
  have f1 : w1.cell? ⟨w.heap.size + 1, 2, none⟩ = some (.int .i64 (b 1)) := hB.c 1 (by omega)
  have f2 : w1.cell? ⟨w.heap.size + 1, 3, none⟩ = some (.int .i64 (b 2)) := hB.c 2 (by omega)
  have f3 : w1.cell? ⟨w.heap.size + 1, 4, none⟩ = some (.int .i64 (b 3)) := hB.c 3 (by omega)
  have f4 : w1.cell? ⟨w.heap.size + 1, 5, none⟩ = some (.int .i64 (b 4)) := hB.c 4 (by omega)
  have f5 : w1.cell? ⟨w.heap.size + 1, 6, none⟩ = some (.int .i64 (b 5)) := hB.c 5 (by omega)
  clear hA hB hR hb HA HS
  go_wp2_with fail
  refine Calls.mono (HL.out _) ?_
  rintro e w2 ⟨rfl, hb⟩
  have hR2 : BigAt w2 (w.heap.size + 1 + 1) false (fun _ => 0) := ((HR1.out.other7 (by omega) _ _ _ _ _ _ _).other7 (by omega) _ _ _ _ _ _ _).below hb
  have HR2 : Hid (BigAt (w2.alloc (.cells #[.bool n, .int .i64 (dgL b a 0), .int .i64 (dgL b a 1), .int .i64 (dgL b a 2), .int .i64 (dgL b a 3), .int .i64 (dgL b a 4), .int .i64 (dgL b a 5)] 52)) (w.heap.size + 1 + 1) false (fun _ => 0)) := hR2.below ((Below.refl _ w2).alloc (Nat.le_refl _) _)
  have HC2 : Hid (BigAt (w2.alloc (.cells #[.bool n, .int .i64 (dgL b a 0), .int .i64 (dgL b a 1), .int .i64 (dgL b a 2), .int .i64 (dgL b a 3), .int .i64 (dgL b a 4), .int .i64 (dgL b a 5)] 52)) w2.heap.size n (dgL b a)) := bigAt_of (by simp [go_sem]) (by simp [go_sem]) (by simp [go_sem]) (by simp [go_sem]) (by simp [go_sem]) (by simp [go_sem]) (by simp [go_sem]) (fun j => by simp [go_sem])
  have hlt : w.heap.size + 1 + 1 < w2.heap.size := hR2.lt
  have HB2 : Hid (Below w.heap.size w (w2.alloc (.cells #[.bool n, .int .i64 (dgL b a 0), .int .i64 (dgL b a 1), .int .i64 (dgL b a 2), .int .i64 (dgL b a 3), .int .i64 (dgL b a 4), .int .i64 (dgL b a 5)] 52))) := by
    have k : Below w.heap.size w w2 := (bset7 (bset7 HB1.out w.heap.size _ _ _ _ _ _ _ (Nat.le_refl _)) (w.heap.size + 1) _ _ _ _ _ _ _ (by omega)).trans (hb.mono (by have := HB1.out.size; simp; omega))
    exact k.alloc k.size _
  clear hb hR2 hAf hBf HR1 HB1 HL
  clear s0 s1 e0 e1 e2 e3 e4 e5 f0 f1 f2 f3 f4 f5
  go_wp2_with fail
  refine Calls.mono (HZ.out _) ?_
  rintro e w3 ⟨rfl, hb⟩
  have hC := HC2.out.below hb
  have hR := HR2.out.below hb
  have HB : Hid (Below w.heap.size w w3) := HB2.out.trans (hb.mono HB2.out.size)
  have cf := hC.f
  have s0 := hC.s
  have e0 : w3.cell? ⟨w2.heap.size, 1, none⟩ = some (.int .i64 (dgL b a 0)) := hC.c 0 (by omega)
  have e1 : w3.cell? ⟨w2.heap.size, 2, none⟩ = some (.int .i64 (dgL b a 1)) := hC.c 1 (by omega)
  have e2 : w3.cell? ⟨w2.heap.size, 3, none⟩ = some (.int .i64 (dgL b a 2)) := hC.c 2 (by omega)
  have e3 : w3.cell? ⟨w2.heap.size, 4, none⟩ = some (.int .i64 (dgL b a 3)) := hC.c 3 (by omega)
  have e4 : w3.cell? ⟨w2.heap.size, 5, none⟩ = some (.int .i64 (dgL b a 4)) := hC.c 4 (by omega)
  have e5 : w3.cell? ⟨w2.heap.size, 6, none⟩ = some (.int .i64 (dgL b a 5)) := hC.c 5 (by omega)
  have t0 := hR.s
  have t1 : w3.cell? ⟨w.heap.size + 1 + 1, 1, none⟩ = some (.int .i64 0) := hR.c 0 (by omega)
  have t2 : w3.cell? ⟨w.heap.size + 1 + 1, 2, none⟩ = some (.int .i64 0) := hR.c 1 (by omega)
  have t3 : w3.cell? ⟨w.heap.size + 1 + 1, 3, none⟩ = some (.int .i64 0) := hR.c 2 (by omega)
  have t4 : w3.cell? ⟨w.heap.size + 1 + 1, 4, none⟩ = some (.int .i64 0) := hR.c 3 (by omega)
  have t5 : w3.cell? ⟨w.heap.size + 1 + 1, 5, none⟩ = some (.int .i64 0) := hR.c 4 (by omega)
  have t6 : w3.cell? ⟨w.heap.size + 1 + 1, 6, none⟩ = some (.int .i64 0) := hR.c 5 (by omega)
  have tf := hR.f
  clear hC hR hb HC2 HR2 HB2 HZ
  go_wp2
  refine bodyPost_ret (v := .agg #[.bool false, .int .i64 (dgL b a 0), .int .i64 (dgL b a 1), .int .i64 (dgL b a 2), .int .i64 (dgL b a 3), .int .i64 (dgL b a 4), .int .i64 (dgL b a 5)]) (by simp [results, Try.results14, go_sem, t0, t1, t2, t3, t4, t5, t6]) rfl ⟨rfl, ?_⟩
  exact bset (bset (bset (bset (bset (bset (bset (bset HB.out _ _ _ (by omega)) _ _ _ (by omega)) _ _ _ (by omega)) _ _ _ (by omega)) _ _ _ (by omega)) _ _ _ (by omega)) _ _ _ (by omega)) _ _ _ (by omega)
end Go.Proofs.Ytipbjoeekbgnbaa

namespace Go.Proofs.Ytipbjoeekbgnbaa
open Go.RowKit
set_option linter.unusedVariables false
set_option maxRecDepth 100000

theorem sv_of {m : Bool} {d : Nat → Int} {x : Int} (hd : Dig d) (h : sv m d = x) (hs : m = true → x < 0) : (m = true ∧ valD d 6 = -x ∧ x < 0) ∨ (m = false ∧ valD d 6 = x ∧ 0 ≤ x) := by
  have := valD_nonneg hd 6 (by omega)
  cases m
  · simp [sv] at h; exact .inr ⟨rfl, h, by omega⟩
  · have h0 := hs rfl; simp [sv] at h; exact .inl ⟨rfl, by omega, h0⟩
theorem radd_big (v1 v2 : Value) (x y : Int) (w : World) (h1 : IsBig v1 x) (h2 : IsBig v2 y)
    (hx0 : -3138550867693340381917894711603833208051177722232017256448 < x) (hx1 : x < 3138550867693340381917894711603833208051177722232017256448)
    (hy0 : -3138550867693340381917894711603833208051177722232017256448 < y) (hy1 : y < 3138550867693340381917894711603833208051177722232017256448) :
    Calls Try.prog 14 #[v1, v2] w fun e w' => ∃ v', e = .returned v' ∧ IsBig v' (x + y) ∧ Below w.heap.size w w' := by
  obtain ⟨m, a, rfl, ha, hxa, hxs⟩ := h1
  obtain ⟨n, b, rfl, hb, hyb, hys⟩ := h2
  have X := sv_of ha hxa hxs
  have Y := sv_of hb hyb hys
  have va := valD_nonneg ha 6 (by omega)
  have vb := valD_nonneg hb 6 (by omega)
  have p6 : (4294967296 : Int) ^ 6 = 6277101735386680763835789423207666416102355444464034512896 := by decide
  by_cases hmn : (m == n) = true
  · have hmn' : m = n := by simpa using hmn
    have hv := valP_exact ha hb (by rw [p6]; subst hmn'; omega)
    refine Calls.mono (add_same m n a b w ha hb hmn) fun e w' t => ⟨_, t.1, ⟨m, dgP a b, rfl, dgP_dig ha hb, ?_, ?_⟩, t.2⟩
    · subst hmn'; unfold sv; rw [hv]; split <;> rename_i h <;> simp only [h] at X Y <;> simp at X Y <;> omega
    · intro h; have := hxs h; have := hys (hmn' ▸ h); omega
  · have hmn0 : (m == n) = false := by simpa using hmn
    have hmn' : m ≠ n := by simpa using hmn
    by_cases hs : sgnV a b < 0
    · have hlt : valD a 6 < valD b 6 := by
        by_cases h : valD a 6 < valD b 6
        · exact h
        · unfold sgnV at hs; rw [if_neg h] at hs; split at hs <;> omega
      have hv := valL_exact hb ha (by omega)
      cases hz : zB (dgL b a)
      · refine Calls.mono (add_diff_lt_n m n a b w ha hb hmn0 hs hz) fun e w' t => ⟨_, t.1, ⟨n, dgL b a, rfl, dgL_dig hb ha, ?_, ?_⟩, t.2⟩
        · unfold sv; rw [hv]; cases m <;> cases n <;> simp at hmn' X Y ⊢ <;> omega
        · intro h; subst h; cases m <;> simp at hmn' X Y ⊢; omega
      · have := (zB_val (dgL_dig hb ha)).1 hz
        omega
    · have hge : valD b 6 ≤ valD a 6 := by
        by_cases h : valD a 6 < valD b 6
        · unfold sgnV at hs; rw [if_pos h] at hs; omega
        · omega
      have hv := valL_exact ha hb hge
      cases hz : zB (dgL a b)
      · have hp := (zB_val (dgL_dig ha hb)).2 hz
        refine Calls.mono (add_diff_ge_n m n a b w ha hb hmn0 (by omega) hz) fun e w' t => ⟨_, t.1, ⟨m, dgL a b, rfl, dgL_dig ha hb, ?_, ?_⟩, t.2⟩
        · unfold sv; rw [hv]; cases m <;> cases n <;> simp at hmn' X Y ⊢ <;> omega
        · intro h; subst h; cases n <;> simp at hmn' X Y ⊢; omega
      · have hp := (zB_val (dgL_dig ha hb)).1 hz
        refine Calls.mono (add_diff_ge_z m n a b w ha hb hmn0 (by omega) hz) fun e w' t => ⟨_, t.1, ⟨false, dgL a b, rfl, dgL_dig ha hb, ?_, by simp⟩, t.2⟩
        unfold sv; rw [hv]; cases m <;> cases n <;> simp at hmn' X Y ⊢ <;> omega
end Go.Proofs.Ytipbjoeekbgnbaa

namespace Go.Proofs.Ytipbjoeekbgnbaa
open Go.RowKit
set_option linter.unusedVariables false
set_option maxRecDepth 100000

/-- Is the one less, the same, greater? -/
def cmpI (x y : Int) : Int := if x < y then -1 else if y < x then 1 else 0
theorem cmp_of {k : Bool} {d : Nat → Int} {x y : Int} (hd : Dig d) (hx : sv k d = x + -y) (hs : k = true → x + -y < 0) : cmpI x y = if zB d = true then 0 else if k = true then -1 else 1 := by
  have z := zB_val hd
  have v := valD_nonneg hd 6 (by omega)
  unfold cmpI
  cases hz : zB d
  · have := z.2 hz
    cases k
    · simp only [sv, Bool.false_eq_true, if_false] at hx ⊢; rw [if_neg (by omega), if_pos (by omega)]
    · have := hs rfl; simp only [Bool.false_eq_true, if_false, if_true]; rw [if_pos (by omega)]
  · have := z.1 hz
    have : x = y := by unfold sv at hx; rw [this] at hx; split at hx <;> omega
    simp [this]
theorem bigAt_new (V : World) : BigAt (V.alloc (.cells #[.bool false, .int .i64 0, .int .i64 0, .int .i64 0, .int .i64 0, .int .i64 0, .int .i64 0] 52)) V.heap.size false (fun _ => 0) := bigAt_of (by simp [go_sem]) (by simp [go_sem]) (by simp [go_sem]) (by simp [go_sem]) (by simp [go_sem]) (by simp [go_sem]) (by simp [go_sem]) (fun j => by simp [go_sem])
theorem bigAt_put {V : World} {g : Nat} {m0 : Bool} {d0 : Nat → Int} (L : BigAt V g m0 d0) (k : Bool) (d : Nat → Int) :
    BigAt (((((((V.setCell ⟨g, 0, none⟩ (.bool k)).setCell ⟨g, 1, none⟩ (.int .i64 (d 0))).setCell ⟨g, 2, none⟩ (.int .i64 (d 1))).setCell ⟨g, 3, none⟩ (.int .i64 (d 2))).setCell ⟨g, 4, none⟩ (.int .i64 (d 3))).setCell ⟨g, 5, none⟩ (.int .i64 (d 4))).setCell ⟨g, 6, none⟩ (.int .i64 (d 5))) g k d := by
  have t0 := L.s
  have t1 : V.cell? ⟨g, 1, none⟩ = some (.int .i64 (d0 0)) := L.c 0 (by omega)
  have t2 : V.cell? ⟨g, 2, none⟩ = some (.int .i64 (d0 1)) := L.c 1 (by omega)
  have t3 : V.cell? ⟨g, 3, none⟩ = some (.int .i64 (d0 2)) := L.c 2 (by omega)
  have t4 : V.cell? ⟨g, 4, none⟩ = some (.int .i64 (d0 3)) := L.c 3 (by omega)
  have t5 : V.cell? ⟨g, 5, none⟩ = some (.int .i64 (d0 4)) := L.c 4 (by omega)
  have t6 : V.cell? ⟨g, 6, none⟩ = some (.int .i64 (d0 5)) := L.c 5 (by omega)
  have tf := L.f
  exact bigAt_of (by simp [go_sem, t0]) (by simp [go_sem, t1]) (by simp [go_sem, t2]) (by simp [go_sem, t3]) (by simp [go_sem, t4]) (by simp [go_sem, t5]) (by simp [go_sem, t6]) (fun j => by simp [go_sem, tf])

set_option maxHeartbeats 600000 in
theorem rcompare_any (v1 v2 : Value) (x y : Int) (w : World) (h1 : IsBig v1 x) (h2 : IsBig v2 y)
    (hx0 : -3138550867693340381917894711603833208051177722232017256448 < x) (hx1 : x < 3138550867693340381917894711603833208051177722232017256448)
    (hy0 : -3138550867693340381917894711603833208051177722232017256448 < y) (hy1 : y < 3138550867693340381917894711603833208051177722232017256448) :
    Calls Try.prog 29 #[v1, v2] w fun e w' => e = .returned (.int .i64 (cmpI x y)) ∧ Below w.heap.size w w' := by
  have HN : Hid (∀ w, Calls Try.prog 39 #[v2] w fun e w' => ∃ v', e = .returned v' ∧ IsBig v' (-y) ∧ Below w.heap.size w w') := fun w => bneg_any v2 y w h2
  have HD : Hid (∀ v' w, IsBig v' (-y) → Calls Try.prog 14 #[v1, v'] w fun e w' => ∃ v'', e = .returned v'' ∧ IsBig v'' (x + -y) ∧ Below w.heap.size w w') := fun v' w h => radd_big v1 v' x (-y) w h1 h hx0 hx1 (by omega) (by omega)
  obtain ⟨m, a, rfl, ha, hxa, hxs⟩ := h1
  obtain ⟨n, b, rfl, hb, hyb, hys⟩ := h2
  clear ha hxa hxs hb hyb hys hx0 hx1 hy0 hy1
  have A0 : BigAt ((w.alloc (.cells #[.bool m, .int .i64 (a 0), .int .i64 (a 1), .int .i64 (a 2), .int .i64 (a 3), .int .i64 (a 4), .int .i64 (a 5)] 52)).alloc (.cells #[.bool n, .int .i64 (b 0), .int .i64 (b 1), .int .i64 (b 2), .int .i64 (b 3), .int .i64 (b 4), .int .i64 (b 5)] 52)) w.heap.size m a := bigAt_of (by simp [go_sem]) (by simp [go_sem]) (by simp [go_sem]) (by simp [go_sem]) (by simp [go_sem]) (by simp [go_sem]) (by simp [go_sem]) (fun j => by simp [go_sem])
  have B0 : BigAt ((w.alloc (.cells #[.bool m, .int .i64 (a 0), .int .i64 (a 1), .int .i64 (a 2), .int .i64 (a 3), .int .i64 (a 4), .int .i64 (a 5)] 52)).alloc (.cells #[.bool n, .int .i64 (b 0), .int .i64 (b 1), .int .i64 (b 2), .int .i64 (b 3), .int .i64 (b 4), .int .i64 (b 5)] 52)) (w.heap.size + 1) n b := bigAt_of (by simp [go_sem]) (by simp [go_sem]) (by simp [go_sem]) (by simp [go_sem]) (by simp [go_sem]) (by simp [go_sem]) (by simp [go_sem]) (fun j => by simp [go_sem])
  have kb : Below w.heap.size w ((w.alloc (.cells #[.bool m, .int .i64 (a 0), .int .i64 (a 1), .int .i64 (a 2), .int .i64 (a 3), .int .i64 (a 4), .int .i64 (a 5)] 52)).alloc (.cells #[.bool n, .int .i64 (b 0), .int .i64 (b 1), .int .i64 (b 2), .int .i64 (b 3), .int .i64 (b 4), .int .i64 (b 5)] 52)) := (((Below.refl _ w).alloc (Nat.le_refl _) _).alloc (by simp) _)
  have HA : Hid (BigAt ((w.alloc (.cells #[.bool m, .int .i64 (a 0), .int .i64 (a 1), .int .i64 (a 2), .int .i64 (a 3), .int .i64 (a 4), .int .i64 (a 5)] 52)).alloc (.cells #[.bool n, .int .i64 (b 0), .int .i64 (b 1), .int .i64 (b 2), .int .i64 (b 3), .int .i64 (b 4), .int .i64 (b 5)] 52)) w.heap.size m a ∧ BigAt ((w.alloc (.cells #[.bool m, .int .i64 (a 0), .int .i64 (a 1), .int .i64 (a 2), .int .i64 (a 3), .int .i64 (a 4), .int .i64 (a 5)] 52)).alloc (.cells #[.bool n, .int .i64 (b 0), .int .i64 (b 1), .int .i64 (b 2), .int .i64 (b 3), .int .i64 (b 4), .int .i64 (b 5)] 52)) (w.heap.size + 1) n b ∧ Below w.heap.size w ((w.alloc (.cells #[.bool m, .int .i64 (a 0), .int .i64 (a 1), .int .i64 (a 2), .int .i64 (a 3), .int .i64 (a 4), .int .i64 (a 5)] 52)).alloc (.cells #[.bool n, .int .i64 (b 0), .int .i64 (b 1), .int .i64 (b 2), .int .i64 (b 3), .int .i64 (b 4), .int .i64 (b 5)] 52))) := ⟨A0, B0, kb⟩
  clear A0 B0 kb
  go_enter Try.func29, Try.ntmps29
  go_wp2_with fail
  obtain ⟨W1, hW1⟩ : ∃ Z, ((w.alloc (.cells #[.bool m, .int .i64 (a 0), .int .i64 (a 1), .int .i64 (a 2), .int .i64 (a 3), .int .i64 (a 4), .int .i64 (a 5)] 52)).alloc (.cells #[.bool n, .int .i64 (b 0), .int .i64 (b 1), .int .i64 (b 2), .int .i64 (b 3), .int .i64 (b 4), .int .i64 (b 5)] 52)) = Z := ⟨_, rfl⟩
  have HK : Hid (∀ W', Below W1.drew.heap.size W1.drew W' → W'.cell? ⟨w.heap.size, 0, none⟩ = some (.bool m) ∧ W'.cell? ⟨w.heap.size, 1, none⟩ = some (.int .i64 (a 0)) ∧ W'.cell? ⟨w.heap.size, 2, none⟩ = some (.int .i64 (a 1)) ∧ W'.cell? ⟨w.heap.size, 3, none⟩ = some (.int .i64 (a 2)) ∧ W'.cell? ⟨w.heap.size, 4, none⟩ = some (.int .i64 (a 3)) ∧ W'.cell? ⟨w.heap.size, 5, none⟩ = some (.int .i64 (a 4)) ∧ W'.cell? ⟨w.heap.size, 6, none⟩ = some (.int .i64 (a 5)) ∧ W'.cell? ⟨w.heap.size + 1, 0, none⟩ = some (.bool n) ∧ W'.cell? ⟨w.heap.size + 1, 1, none⟩ = some (.int .i64 (b 0)) ∧ W'.cell? ⟨w.heap.size + 1, 2, none⟩ = some (.int .i64 (b 1)) ∧ W'.cell? ⟨w.heap.size + 1, 3, none⟩ = some (.int .i64 (b 2)) ∧ W'.cell? ⟨w.heap.size + 1, 4, none⟩ = some (.int .i64 (b 3)) ∧ W'.cell? ⟨w.heap.size + 1, 5, none⟩ = some (.int .i64 (b 4)) ∧ W'.cell? ⟨w.heap.size + 1, 6, none⟩ = some (.int .i64 (b 5))) := fun W' kk => by
    have q := hW1 ▸ HA.out
    have k2 : Below W1.heap.size W1 W' := ((Below.refl W1.heap.size W1).drew).trans (kk.mono (by simp))
    have A1 := q.1.below k2
    have B1 := q.2.1.below k2
    exact ⟨A1.s, A1.c 0 (by omega), A1.c 1 (by omega), A1.c 2 (by omega), A1.c 3 (by omega), A1.c 4 (by omega), A1.c 5 (by omega), B1.s, B1.c 0 (by omega), B1.c 1 (by omega), B1.c 2 (by omega), B1.c 3 (by omega), B1.c 4 (by omega), B1.c 5 (by omega)⟩
  have HW : Hid (Below w.heap.size w W1) := (hW1 ▸ HA.out).2.2
  rw [hW1]
  clear hW1 HA
  obtain ⟨W0, hW0⟩ : ∃ Z, W1.drew = Z := ⟨_, rfl⟩
  have HW0 : Hid (Below w.heap.size w W0) := by rw [← hW0]; exact HW.out.drew
  clear HW
  rw [hW0] at HK
  have kb : Below W0.heap.size W0 W0 := Below.refl _ _
  refine wp_region_held_drew (S := fun W' => W'.cell? ⟨w.heap.size, 0, none⟩ = some (.bool m) ∧ W'.cell? ⟨w.heap.size, 1, none⟩ = some (.int .i64 (a 0)) ∧ W'.cell? ⟨w.heap.size, 2, none⟩ = some (.int .i64 (a 1)) ∧ W'.cell? ⟨w.heap.size, 3, none⟩ = some (.int .i64 (a 2)) ∧ W'.cell? ⟨w.heap.size, 4, none⟩ = some (.int .i64 (a 3)) ∧ W'.cell? ⟨w.heap.size, 5, none⟩ = some (.int .i64 (a 4)) ∧ W'.cell? ⟨w.heap.size, 6, none⟩ = some (.int .i64 (a 5)) ∧ W'.cell? ⟨w.heap.size + 1, 0, none⟩ = some (.bool n) ∧ W'.cell? ⟨w.heap.size + 1, 1, none⟩ = some (.int .i64 (b 0)) ∧ W'.cell? ⟨w.heap.size + 1, 2, none⟩ = some (.int .i64 (b 1)) ∧ W'.cell? ⟨w.heap.size + 1, 3, none⟩ = some (.int .i64 (b 2)) ∧ W'.cell? ⟨w.heap.size + 1, 4, none⟩ = some (.int .i64 (b 3)) ∧ W'.cell? ⟨w.heap.size + 1, 5, none⟩ = some (.int .i64 (b 4)) ∧ W'.cell? ⟨w.heap.size + 1, 6, none⟩ = some (.int .i64 (b 5))) (by kernel_rfl) (hW0 ▸ HK.out _ kb) (fun hHeld => ?_)
  rw [hW0] at hHeld ⊢
  clear hW0 W1
  refine wpAnyH_take (i := 0) (oi := { dst := some 6, op := Op.load 52 (Operand.tmp 2), type := 52, pos := "fix.go:128", after := #[], guard := none }) (v := ?_) rfl (by kernel_rfl) (by kernel_rfl) (by kernel_rfl) (fun _ _ _ h => h) (Or.inl ⟨by rfl, ?_⟩) hHeld ?_
  rotate_left
  · (intro w hSw; (try dsimp only at hSw); go_simp; all_goals (try with_reducible rfl))
  try simp only [Act.put, List.setIfInBounds_toArray, List.set_cons_zero, List.set_cons_succ]
  refine wpAnyH_take (i := 1) (oi := { dst := some 7, op := Op.load 52 (Operand.tmp 3), type := 52, pos := "fix.go:128", after := #[], guard := none }) (v := ?_) rfl (by kernel_rfl) (by kernel_rfl) (by kernel_rfl) (fun _ _ _ h => h) (Or.inl ⟨by rfl, ?_⟩) hHeld ?_
  rotate_left
  · (intro w hSw; (try dsimp only at hSw); go_simp; all_goals (try with_reducible rfl))
  try simp only [Act.put, List.setIfInBounds_toArray, List.set_cons_zero, List.set_cons_succ]
  refine wpAnyH_ready (rs := [2, 4]) (by kernel_rfl) (by simp) ?_
  refine AllReadyH.cons (o := { dst := some 8, op := Op.call { callee := Callee.value (Operand.func 39), args := #[Operand.tmp 7], argTypes := #[52] }, type := 52, pos := "fix.go:128", after := #[{ on := 1, ground := Ground.data }], guard := none }) rfl (fun K hK => ?_) ?_
  · skip
    go_simp
    refine Calls.mono (HN.out _) ?_
    rintro e V2 ⟨v2, rfl, hv2, hb⟩
    have kb := kb.trans (hb.mono kb.size)
    clear hb
    go_wp2_with fail
    refine hK.out _ _ (HK.out _ kb) (fun hHeld => ?_)
    clear hK K
    try simp only [Act.put, List.setIfInBounds_toArray, List.set_cons_zero, List.set_cons_succ]
    refine wpAnyH_ready (rs := [3, 4]) (by kernel_rfl) (by simp) ?_
    refine AllReadyH.cons (o := { dst := some 9, op := Op.call { callee := Callee.value (Operand.func 14), args := #[Operand.tmp 6, Operand.tmp 8], argTypes := #[52, 52] }, type := 52, pos := "fix.go:128", after := #[{ on := 0, ground := Ground.data }, { on := 2, ground := Ground.data }, { on := 2, ground := Ground.chain }], guard := none }) rfl (fun K hK => ?_) ?_
    · skip
      go_simp
      refine Calls.mono (HD.out _ _ hv2) ?_
      rintro e V3 ⟨v3, rfl, ⟨k, d, rfl, hd, hx, hs⟩, hb⟩
      have kb := kb.trans (hb.mono kb.size)
      clear hb
      have HC : Hid (Dig d ∧ sv k d = x + -y ∧ (k = true → x + -y < 0)) := ⟨hd, hx, hs⟩
      clear hd hx hs
      go_wp2_with fail
      refine hK.out _ _ (HK.out _ kb) (fun hHeld => ?_)
      clear hK K
      try simp only [Act.put, List.setIfInBounds_toArray, List.set_cons_zero, List.set_cons_succ]
      refine wpAnyH_ready (rs := [4]) (by kernel_rfl) (by simp) ?_
      refine AllReadyH.cons (o := { dst := some 5, op := Op.alloc 52, type := 0, pos := "fix.go:128", after := #[], guard := none }) rfl (fun K hK => ?_) AllReadyH.nil
      go_simp
      have L := bigAt_new V3
      have hl := kb.size
      have kb := kb.alloc kb.size (.cells #[.bool false, .int .i64 0, .int .i64 0, .int .i64 0, .int .i64 0, .int .i64 0, .int .i64 0] 52)
      refine hK.out _ _ (HK.out _ kb) (fun hHeld => ?_)
      obtain ⟨V4, hV4⟩ : ∃ X, V3.alloc (.cells #[.bool false, .int .i64 0, .int .i64 0, .int .i64 0, .int .i64 0, .int .i64 0, .int .i64 0] 52) = X := ⟨_, rfl⟩
      rw [hV4] at L kb hHeld ⊢
      clear hV4
      clear hK K
      try simp only [Act.put, List.setIfInBounds_toArray, List.set_cons_zero, List.set_cons_succ]
      refine wpAnyH_ready (rs := [5]) (by kernel_rfl) (by simp) ?_
      refine AllReadyH.cons (o := { dst := none, op := Op.store 52 (Operand.tmp 5) (Operand.tmp 9), type := 0, pos := "fix.go:128", after := #[{ on := 4, ground := Ground.data }, { on := 3, ground := Ground.data }, { on := 3, ground := Ground.chain }, { on := 0, ground := Ground.phase }, { on := 1, ground := Ground.phase }, { on := 2, ground := Ground.phase }, { on := 3, ground := Ground.phase }, { on := 4, ground := Ground.phase }], guard := none }) rfl (fun K hK => ?_) AllReadyH.nil
      have t0 := L.s
      have t1 := L.c 0 (by omega)
      have t2 := L.c 1 (by omega)
      have t3 := L.c 2 (by omega)
      have t4 := L.c 3 (by omega)
      have t5 := L.c 4 (by omega)
      have t6 := L.c 5 (by omega)
      have tf := L.f
      (try dsimp only at t1 t2 t3 t4 t5 t6)
      go_simp
      have L := bigAt_put L k d
      have kb := bset7 kb _ (.bool k) (.int .i64 (d 0)) (.int .i64 (d 1)) (.int .i64 (d 2)) (.int .i64 (d 3)) (.int .i64 (d 4)) (.int .i64 (d 5)) hl
      clear t0 t1 t2 t3 t4 t5 t6 tf
      refine hK.out _ _ (HK.out _ kb) (fun hHeld => ?_)
      clear hK K
      try simp only [Act.put, List.setIfInBounds_toArray, List.set_cons_zero, List.set_cons_succ]
      refine wpAnyH_done (by kernel_rfl) ?_ _
      have s0 := L.s
      have e0 := L.c 0 (by omega)
      have e1 := L.c 1 (by omega)
      have e2 := L.c 2 (by omega)
      have e3 := L.c 3 (by omega)
      have e4 := L.c 4 (by omega)
      have e5 := L.c 5 (by omega)
      have sf := L.f
      have HL : Hid (BigAt _ _ k d) := L
      have HB : Hid (Below W0.heap.size W0 _) := kb
      clear L kb hHeld hl
      go_wp2_with fail
      refine Calls.mono (bzero_any k d _) ?_
      rintro e V5 ⟨rfl, hb⟩
      have hc := cmp_of HC.out.1 HC.out.2.1 HC.out.2.2
      have L := HL.out.below hb
      have HB5 : Hid (Below w.heap.size w V5) := HW0.out.trans ((HB.out.trans (hb.mono HB.out.size)).mono HW0.out.size)
      have s1 := L.s
      have sf := L.f
      clear L HL HB HC HW0 HK HN HD hb e0 e1 e2 e3 e4 e5 s0
      cases hz : zB d
      · cases k
        · have HR : Hid (cmpI x y = 1) := by rw [hc, hz]; rfl
          clear hc hz
          go_wp2
          exact bodyPost_ret (v := .int .i64 1) (by simp [results, Try.results29, go_sem]) rfl ⟨by rw [HR.out], HB5.out⟩
        · have HR : Hid (cmpI x y = -1) := by rw [hc, hz]; rfl
          clear hc hz
          go_wp2
          exact bodyPost_ret (v := .int .i64 (-1)) (by simp [results, Try.results29, go_sem]) rfl ⟨by rw [HR.out], HB5.out⟩
      · have HR : Hid (cmpI x y = 0) := by rw [hc, hz]; rfl
        clear hc hz
        go_wp2
        exact bodyPost_ret (v := .int .i64 0) (by simp [results, Try.results29, go_sem]) rfl ⟨by rw [HR.out], HB5.out⟩
    refine AllReadyH.cons (o := { dst := some 5, op := Op.alloc 52, type := 0, pos := "fix.go:128", after := #[], guard := none }) rfl (fun K hK => ?_) AllReadyH.nil
    go_simp
    have L := bigAt_new V2
    have hl := kb.size
    have kb := kb.alloc kb.size (.cells #[.bool false, .int .i64 0, .int .i64 0, .int .i64 0, .int .i64 0, .int .i64 0, .int .i64 0] 52)
    refine hK.out _ _ (HK.out _ kb) (fun hHeld => ?_)
    clear hK K
    try simp only [Act.put, List.setIfInBounds_toArray, List.set_cons_zero, List.set_cons_succ]
    refine wpAnyH_ready (rs := [3]) (by kernel_rfl) (by simp) ?_
    refine AllReadyH.cons (o := { dst := some 9, op := Op.call { callee := Callee.value (Operand.func 14), args := #[Operand.tmp 6, Operand.tmp 8], argTypes := #[52, 52] }, type := 52, pos := "fix.go:128", after := #[{ on := 0, ground := Ground.data }, { on := 2, ground := Ground.data }, { on := 2, ground := Ground.chain }], guard := none }) rfl (fun K hK => ?_) AllReadyH.nil
    go_simp
    refine Calls.mono (HD.out _ _ hv2) ?_
    rintro e V3 ⟨v3, rfl, ⟨k, d, rfl, hd, hx, hs⟩, hb⟩
    have L := L.below hb
    have kb := kb.trans (hb.mono kb.size)
    clear hb
    have HC : Hid (Dig d ∧ sv k d = x + -y ∧ (k = true → x + -y < 0)) := ⟨hd, hx, hs⟩
    clear hd hx hs
    go_wp2_with fail
    refine hK.out _ _ (HK.out _ kb) (fun hHeld => ?_)
    clear hK K
    try simp only [Act.put, List.setIfInBounds_toArray, List.set_cons_zero, List.set_cons_succ]
    refine wpAnyH_ready (rs := [5]) (by kernel_rfl) (by simp) ?_
    refine AllReadyH.cons (o := { dst := none, op := Op.store 52 (Operand.tmp 5) (Operand.tmp 9), type := 0, pos := "fix.go:128", after := #[{ on := 4, ground := Ground.data }, { on := 3, ground := Ground.data }, { on := 3, ground := Ground.chain }, { on := 0, ground := Ground.phase }, { on := 1, ground := Ground.phase }, { on := 2, ground := Ground.phase }, { on := 3, ground := Ground.phase }, { on := 4, ground := Ground.phase }], guard := none }) rfl (fun K hK => ?_) AllReadyH.nil
    have t0 := L.s
    have t1 := L.c 0 (by omega)
    have t2 := L.c 1 (by omega)
    have t3 := L.c 2 (by omega)
    have t4 := L.c 3 (by omega)
    have t5 := L.c 4 (by omega)
    have t6 := L.c 5 (by omega)
    have tf := L.f
    (try dsimp only at t1 t2 t3 t4 t5 t6)
    go_simp
    have L := bigAt_put L k d
    have kb := bset7 kb _ (.bool k) (.int .i64 (d 0)) (.int .i64 (d 1)) (.int .i64 (d 2)) (.int .i64 (d 3)) (.int .i64 (d 4)) (.int .i64 (d 5)) hl
    clear t0 t1 t2 t3 t4 t5 t6 tf
    refine hK.out _ _ (HK.out _ kb) (fun hHeld => ?_)
    clear hK K
    try simp only [Act.put, List.setIfInBounds_toArray, List.set_cons_zero, List.set_cons_succ]
    refine wpAnyH_done (by kernel_rfl) ?_ _
    have s0 := L.s
    have e0 := L.c 0 (by omega)
    have e1 := L.c 1 (by omega)
    have e2 := L.c 2 (by omega)
    have e3 := L.c 3 (by omega)
    have e4 := L.c 4 (by omega)
    have e5 := L.c 5 (by omega)
    have sf := L.f
    have HL : Hid (BigAt _ _ k d) := L
    have HB : Hid (Below W0.heap.size W0 _) := kb
    clear L kb hHeld hl
    go_wp2_with fail
    refine Calls.mono (bzero_any k d _) ?_
    rintro e V5 ⟨rfl, hb⟩
    have hc := cmp_of HC.out.1 HC.out.2.1 HC.out.2.2
    have L := HL.out.below hb
    have HB5 : Hid (Below w.heap.size w V5) := HW0.out.trans ((HB.out.trans (hb.mono HB.out.size)).mono HW0.out.size)
    have s1 := L.s
    have sf := L.f
    clear L HL HB HC HW0 HK HN HD hb e0 e1 e2 e3 e4 e5 s0
    cases hz : zB d
    · cases k
      · have HR : Hid (cmpI x y = 1) := by rw [hc, hz]; rfl
        clear hc hz
        go_wp2
        exact bodyPost_ret (v := .int .i64 1) (by simp [results, Try.results29, go_sem]) rfl ⟨by rw [HR.out], HB5.out⟩
      · have HR : Hid (cmpI x y = -1) := by rw [hc, hz]; rfl
        clear hc hz
        go_wp2
        exact bodyPost_ret (v := .int .i64 (-1)) (by simp [results, Try.results29, go_sem]) rfl ⟨by rw [HR.out], HB5.out⟩
    · have HR : Hid (cmpI x y = 0) := by rw [hc, hz]; rfl
      clear hc hz
      go_wp2
      exact bodyPost_ret (v := .int .i64 0) (by simp [results, Try.results29, go_sem]) rfl ⟨by rw [HR.out], HB5.out⟩
  refine AllReadyH.cons (o := { dst := some 5, op := Op.alloc 52, type := 0, pos := "fix.go:128", after := #[], guard := none }) rfl (fun K hK => ?_) AllReadyH.nil
  go_simp
  have L := bigAt_new W0
  have hl := kb.size
  have kb := kb.alloc kb.size (.cells #[.bool false, .int .i64 0, .int .i64 0, .int .i64 0, .int .i64 0, .int .i64 0, .int .i64 0] 52)
  refine hK.out _ _ (HK.out _ kb) (fun hHeld => ?_)
  clear hK K
  try simp only [Act.put, List.setIfInBounds_toArray, List.set_cons_zero, List.set_cons_succ]
  refine wpAnyH_ready (rs := [2]) (by kernel_rfl) (by simp) ?_
  refine AllReadyH.cons (o := { dst := some 8, op := Op.call { callee := Callee.value (Operand.func 39), args := #[Operand.tmp 7], argTypes := #[52] }, type := 52, pos := "fix.go:128", after := #[{ on := 1, ground := Ground.data }], guard := none }) rfl (fun K hK => ?_) AllReadyH.nil
  go_simp
  refine Calls.mono (HN.out _) ?_
  rintro e V2 ⟨v2, rfl, hv2, hb⟩
  have L := L.below hb
  have kb := kb.trans (hb.mono kb.size)
  clear hb
  go_wp2_with fail
  refine hK.out _ _ (HK.out _ kb) (fun hHeld => ?_)
  clear hK K
  try simp only [Act.put, List.setIfInBounds_toArray, List.set_cons_zero, List.set_cons_succ]
  refine wpAnyH_ready (rs := [3]) (by kernel_rfl) (by simp) ?_
  refine AllReadyH.cons (o := { dst := some 9, op := Op.call { callee := Callee.value (Operand.func 14), args := #[Operand.tmp 6, Operand.tmp 8], argTypes := #[52, 52] }, type := 52, pos := "fix.go:128", after := #[{ on := 0, ground := Ground.data }, { on := 2, ground := Ground.data }, { on := 2, ground := Ground.chain }], guard := none }) rfl (fun K hK => ?_) AllReadyH.nil
  go_simp
  refine Calls.mono (HD.out _ _ hv2) ?_
  rintro e V3 ⟨v3, rfl, ⟨k, d, rfl, hd, hx, hs⟩, hb⟩
  have L := L.below hb
  have kb := kb.trans (hb.mono kb.size)
  clear hb
  have HC : Hid (Dig d ∧ sv k d = x + -y ∧ (k = true → x + -y < 0)) := ⟨hd, hx, hs⟩
  clear hd hx hs
  go_wp2_with fail
  refine hK.out _ _ (HK.out _ kb) (fun hHeld => ?_)
  clear hK K
  try simp only [Act.put, List.setIfInBounds_toArray, List.set_cons_zero, List.set_cons_succ]
  refine wpAnyH_ready (rs := [5]) (by kernel_rfl) (by simp) ?_
  refine AllReadyH.cons (o := { dst := none, op := Op.store 52 (Operand.tmp 5) (Operand.tmp 9), type := 0, pos := "fix.go:128", after := #[{ on := 4, ground := Ground.data }, { on := 3, ground := Ground.data }, { on := 3, ground := Ground.chain }, { on := 0, ground := Ground.phase }, { on := 1, ground := Ground.phase }, { on := 2, ground := Ground.phase }, { on := 3, ground := Ground.phase }, { on := 4, ground := Ground.phase }], guard := none }) rfl (fun K hK => ?_) AllReadyH.nil
  have t0 := L.s
  have t1 := L.c 0 (by omega)
  have t2 := L.c 1 (by omega)
  have t3 := L.c 2 (by omega)
  have t4 := L.c 3 (by omega)
  have t5 := L.c 4 (by omega)
  have t6 := L.c 5 (by omega)
  have tf := L.f
  (try dsimp only at t1 t2 t3 t4 t5 t6)
  go_simp
  have L := bigAt_put L k d
  have kb := bset7 kb _ (.bool k) (.int .i64 (d 0)) (.int .i64 (d 1)) (.int .i64 (d 2)) (.int .i64 (d 3)) (.int .i64 (d 4)) (.int .i64 (d 5)) hl
  clear t0 t1 t2 t3 t4 t5 t6 tf
  refine hK.out _ _ (HK.out _ kb) (fun hHeld => ?_)
  clear hK K
  try simp only [Act.put, List.setIfInBounds_toArray, List.set_cons_zero, List.set_cons_succ]
  refine wpAnyH_done (by kernel_rfl) ?_ _
  have s0 := L.s
  have e0 := L.c 0 (by omega)
  have e1 := L.c 1 (by omega)
  have e2 := L.c 2 (by omega)
  have e3 := L.c 3 (by omega)
  have e4 := L.c 4 (by omega)
  have e5 := L.c 5 (by omega)
  have sf := L.f
  have HL : Hid (BigAt _ _ k d) := L
  have HB : Hid (Below W0.heap.size W0 _) := kb
  clear L kb hHeld hl
  go_wp2_with fail
  refine Calls.mono (bzero_any k d _) ?_
  rintro e V5 ⟨rfl, hb⟩
  have hc := cmp_of HC.out.1 HC.out.2.1 HC.out.2.2
  have L := HL.out.below hb
  have HB5 : Hid (Below w.heap.size w V5) := HW0.out.trans ((HB.out.trans (hb.mono HB.out.size)).mono HW0.out.size)
  have s1 := L.s
  have sf := L.f
  clear L HL HB HC HW0 HK HN HD hb e0 e1 e2 e3 e4 e5 s0
  cases hz : zB d
  · cases k
    · have HR : Hid (cmpI x y = 1) := by rw [hc, hz]; rfl
      clear hc hz
      go_wp2
      exact bodyPost_ret (v := .int .i64 1) (by simp [results, Try.results29, go_sem]) rfl ⟨by rw [HR.out], HB5.out⟩
    · have HR : Hid (cmpI x y = -1) := by rw [hc, hz]; rfl
      clear hc hz
      go_wp2
      exact bodyPost_ret (v := .int .i64 (-1)) (by simp [results, Try.results29, go_sem]) rfl ⟨by rw [HR.out], HB5.out⟩
  · have HR : Hid (cmpI x y = 0) := by rw [hc, hz]; rfl
    clear hc hz
    go_wp2
    exact bodyPost_ret (v := .int .i64 0) (by simp [results, Try.results29, go_sem]) rfl ⟨by rw [HR.out], HB5.out⟩
end Go.Proofs.Ytipbjoeekbgnbaa

namespace Go.Proofs.Ytipbjoeekbgnbaa
open Go.RowKit
set_option linter.unusedVariables false
set_option maxRecDepth 100000
end Go.Proofs.Ytipbjoeekbgnbaa

namespace Go.Proofs.Ytipbjoeekbgnbaa
open Go.RowKit
set_option linter.unusedVariables false
set_option maxRecDepth 100000

theorem wrap_pos {p q x : Int} (h : p * 4294967296 + q = x) (h0 : 0 ≤ q) (h1 : q < 4294967296) (h2 : 0 ≤ p) (h3 : x ≤ 9223372036854775807) : wrap64 (wrap64 (p * 4294967296) + q) = x := by unfold wrap64; omega
theorem wrap_neg {p q x : Int} (h : p * 4294967296 + q = -x) (hx : x < 0) (h0 : 0 ≤ q) (h1 : q < 4294967296) (h2 : 0 ≤ p) (h3 : -9223372036854775808 ≤ x) : wrap64 (wrap64 (-wrap64 (wrap64 (wrap64 (p * 4294967296) + q) - 1)) - 1) = x := by unfold wrap64; omega

end Go.Proofs.Ytipbjoeekbgnbaa

namespace Go.Proofs.Ytipbjoeekbgnbaa
open Go.RowKit
set_option linter.unusedVariables false
set_option maxRecDepth 100000
end Go.Proofs.Ytipbjoeekbgnbaa

namespace Go.Proofs.Ytipbjoeekbgnbaa
open Go.RowKit
set_option linter.unusedVariables false
set_option maxRecDepth 100000
end Go.Proofs.Ytipbjoeekbgnbaa

namespace Go.Proofs.Ytipbjoeekbgnbaa
open Go.RowKit
set_option linter.unusedVariables false
set_option maxRecDepth 100000
end Go.Proofs.Ytipbjoeekbgnbaa
