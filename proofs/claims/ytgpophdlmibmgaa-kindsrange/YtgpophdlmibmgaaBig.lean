/- The contracts of the document's own numbers of six digits: zero, halves, plus, less. Conditions: the digits' own ranges. -/
import Derived.Test.YtgpophdlmibmgaaBigM
import Derived.Test.YtgpophdlmibmgaaLiveB
import Derived.Deep.QuietTactic
import Derived.BigQuiet
namespace Go.Proofs.Ytgpophdlmibmgaa
open Go.RowKit
set_option linter.unusedVariables false
set_option maxRecDepth 100000

/-- A number of six digits as a value. -/
def bigV (m : Bool) (d : Nat → Int) : Value := .agg #[.bool m, .int .i64 (d 0), .int .i64 (d 1), .int .i64 (d 2), .int .i64 (d 3), .int .i64 (d 4), .int .i64 (d 5)]
/-- Block g holds the digits d and the sign m. -/
structure BigAt (W : World) (g : Nat) (m : Bool) (d : Nat → Int) : Prop where
  s : W.cell? ⟨g, 0, none⟩ = some (.bool m)
  c : ∀ j, j < 6 → W.cell? ⟨g, 1 + j, none⟩ = some (.int .i64 (d j))
  f : ∀ j, W.frozen? ⟨g, j, none⟩ = false
theorem bigAt_of {W : World} {g : Nat} {m : Bool} {d : Nat → Int} (s : W.cell? ⟨g, 0, none⟩ = some (.bool m)) (c0 : W.cell? ⟨g, 1, none⟩ = some (.int .i64 (d 0))) (c1 : W.cell? ⟨g, 2, none⟩ = some (.int .i64 (d 1))) (c2 : W.cell? ⟨g, 3, none⟩ = some (.int .i64 (d 2))) (c3 : W.cell? ⟨g, 4, none⟩ = some (.int .i64 (d 3))) (c4 : W.cell? ⟨g, 5, none⟩ = some (.int .i64 (d 4))) (c5 : W.cell? ⟨g, 6, none⟩ = some (.int .i64 (d 5))) (f : ∀ j, W.frozen? ⟨g, j, none⟩ = false) : BigAt W g m d :=
  ⟨s, fun j hj => by
    match j, hj with
    | 0, _ => exact c0
    | 1, _ => exact c1
    | 2, _ => exact c2
    | 3, _ => exact c3
    | 4, _ => exact c4
    | 5, _ => exact c5, f⟩
theorem BigAt.drewN {W : World} {g : Nat} {m : Bool} {d : Nat → Int} (h : BigAt W g m d) (n : Nat) : BigAt (W.drewN n) g m d := ⟨h.s, h.c, h.f⟩
theorem bdrewN {B : Nat} {w W : World} (h : Below B w W) (n : Nat) : Below B w (W.drewN n) := by
  induction n with
  | zero => exact h
  | succ n ih => exact ih.drew
theorem BigAt.set {W : World} {g : Nat} {m : Bool} {d : Nat → Int} (h : BigAt W g m d) (k : Nat) (hk : k < 6) (x : Int) : BigAt (W.setCell ⟨g, 1 + k, none⟩ (.int .i64 x)) g m (fun j => if j = k then x else d j) := by
  refine ⟨?_, fun j hj => ?_, fun j => ?_⟩
  · rw [World.cell?_setCell_other _ _ _ _ (fun e => by injection e with _ e2; omega)]; exact h.s
  · by_cases e : j = k
    · subst e; rw [World.cell?_setCell_same _ _ _ (h.c j hj)]; simp
    · rw [World.cell?_setCell_other _ _ _ _ (fun e' => by injection e' with _ e2; omega), h.c j hj]; simp [e]
  · simp [h.f]
theorem BigAt.other {W : World} {g h : Nat} {m : Bool} {d : Nat → Int} (k : BigAt W g m d) (i : Nat) (v : Value) (hn : g ≠ h) : BigAt (W.setCell ⟨h, i, none⟩ v) g m d :=
  ⟨(World.cell?_of_block (w := W) (a := ⟨g, 0, none⟩) (Below.heap_setCell _ _ _ _ hn)).trans k.s, fun j hj => (World.cell?_of_block (w := W) (a := ⟨g, 1 + j, none⟩) (Below.heap_setCell _ _ _ _ hn)).trans (k.c j hj), fun j => (World.frozen?_of_block (w := W) (a := ⟨g, j, none⟩) (Below.heap_setCell _ _ _ _ hn)).trans (k.f j)⟩
theorem BigAt.eq {W : World} {g : Nat} {m : Bool} {d d' : Nat → Int} (h : BigAt W g m d) (e : ∀ j, j < 6 → d j = d' j) : BigAt W g m d' := ⟨h.s, fun j hj => by rw [← e j hj]; exact h.c j hj, h.f⟩
theorem bset {B : Nat} {w W : World} (h : Below B w W) (b o : Nat) (v : Value) (hb : B ≤ b) : Below B w (W.setCell ⟨b, o, none⟩ v) := h.setCell hb v
set_option maxHeartbeats 1000000 in
theorem rplus_any (m n : Bool) (a b : Nat → Int) (w : World) (ha : Dig a) (hb : Dig b) :
    Calls Try.prog 39 #[.agg #[.bool m, .int .i64 (a 0), .int .i64 (a 1), .int .i64 (a 2), .int .i64 (a 3), .int .i64 (a 4), .int .i64 (a 5)], .agg #[.bool n, .int .i64 (b 0), .int .i64 (b 1), .int .i64 (b 2), .int .i64 (b 3), .int .i64 (b 4), .int .i64 (b 5)]] w
      fun e w' => e = .returned (.agg #[.bool m, .int .i64 (dgP a b 0), .int .i64 (dgP a b 1), .int .i64 (dgP a b 2), .int .i64 (dgP a b 3), .int .i64 (dgP a b 4), .int .i64 (dgP a b 5)]) ∧ Below w.heap.size w w' := by
  have HD : Hid (Dig a ∧ Dig b) := ⟨ha, hb⟩
  have A0 : BigAt (((w.alloc (.cells #[.bool m, .int .i64 (a 0), .int .i64 (a 1), .int .i64 (a 2), .int .i64 (a 3), .int .i64 (a 4), .int .i64 (a 5)] 71)).alloc (.cells #[.bool n, .int .i64 (b 0), .int .i64 (b 1), .int .i64 (b 2), .int .i64 (b 3), .int .i64 (b 4), .int .i64 (b 5)] 71)).alloc (.cells #[.bool false, .int .i64 0, .int .i64 0, .int .i64 0, .int .i64 0, .int .i64 0, .int .i64 0] 71)) w.heap.size m a := bigAt_of (by simp [go_sem]) (by simp [go_sem]) (by simp [go_sem]) (by simp [go_sem]) (by simp [go_sem]) (by simp [go_sem]) (by simp [go_sem]) (fun j => by simp [go_sem])
  have B0 : BigAt (((w.alloc (.cells #[.bool m, .int .i64 (a 0), .int .i64 (a 1), .int .i64 (a 2), .int .i64 (a 3), .int .i64 (a 4), .int .i64 (a 5)] 71)).alloc (.cells #[.bool n, .int .i64 (b 0), .int .i64 (b 1), .int .i64 (b 2), .int .i64 (b 3), .int .i64 (b 4), .int .i64 (b 5)] 71)).alloc (.cells #[.bool false, .int .i64 0, .int .i64 0, .int .i64 0, .int .i64 0, .int .i64 0, .int .i64 0] 71)) (w.heap.size + 1) n b := bigAt_of (by simp [go_sem]) (by simp [go_sem]) (by simp [go_sem]) (by simp [go_sem]) (by simp [go_sem]) (by simp [go_sem]) (by simp [go_sem]) (fun j => by simp [go_sem])
  have R0 : BigAt (((w.alloc (.cells #[.bool m, .int .i64 (a 0), .int .i64 (a 1), .int .i64 (a 2), .int .i64 (a 3), .int .i64 (a 4), .int .i64 (a 5)] 71)).alloc (.cells #[.bool n, .int .i64 (b 0), .int .i64 (b 1), .int .i64 (b 2), .int .i64 (b 3), .int .i64 (b 4), .int .i64 (b 5)] 71)).alloc (.cells #[.bool false, .int .i64 0, .int .i64 0, .int .i64 0, .int .i64 0, .int .i64 0, .int .i64 0] 71)) (w.heap.size + 1 + 1) false (fun _ => 0) := bigAt_of (by simp [go_sem]) (by simp [go_sem]) (by simp [go_sem]) (by simp [go_sem]) (by simp [go_sem]) (by simp [go_sem]) (by simp [go_sem]) (fun j => by simp [go_sem])
  have W0b : Below w.heap.size w (((w.alloc (.cells #[.bool m, .int .i64 (a 0), .int .i64 (a 1), .int .i64 (a 2), .int .i64 (a 3), .int .i64 (a 4), .int .i64 (a 5)] 71)).alloc (.cells #[.bool n, .int .i64 (b 0), .int .i64 (b 1), .int .i64 (b 2), .int .i64 (b 3), .int .i64 (b 4), .int .i64 (b 5)] 71)).alloc (.cells #[.bool false, .int .i64 0, .int .i64 0, .int .i64 0, .int .i64 0, .int .i64 0, .int .i64 0] 71)) := ((((Below.refl _ w).alloc (Nat.le_refl _) _).alloc (by simp) _).alloc (by simp; omega) _)
  have HA : Hid (BigAt (((w.alloc (.cells #[.bool m, .int .i64 (a 0), .int .i64 (a 1), .int .i64 (a 2), .int .i64 (a 3), .int .i64 (a 4), .int .i64 (a 5)] 71)).alloc (.cells #[.bool n, .int .i64 (b 0), .int .i64 (b 1), .int .i64 (b 2), .int .i64 (b 3), .int .i64 (b 4), .int .i64 (b 5)] 71)).alloc (.cells #[.bool false, .int .i64 0, .int .i64 0, .int .i64 0, .int .i64 0, .int .i64 0, .int .i64 0] 71)) w.heap.size m a ∧ BigAt (((w.alloc (.cells #[.bool m, .int .i64 (a 0), .int .i64 (a 1), .int .i64 (a 2), .int .i64 (a 3), .int .i64 (a 4), .int .i64 (a 5)] 71)).alloc (.cells #[.bool n, .int .i64 (b 0), .int .i64 (b 1), .int .i64 (b 2), .int .i64 (b 3), .int .i64 (b 4), .int .i64 (b 5)] 71)).alloc (.cells #[.bool false, .int .i64 0, .int .i64 0, .int .i64 0, .int .i64 0, .int .i64 0, .int .i64 0] 71)) (w.heap.size + 1) n b ∧ BigAt (((w.alloc (.cells #[.bool m, .int .i64 (a 0), .int .i64 (a 1), .int .i64 (a 2), .int .i64 (a 3), .int .i64 (a 4), .int .i64 (a 5)] 71)).alloc (.cells #[.bool n, .int .i64 (b 0), .int .i64 (b 1), .int .i64 (b 2), .int .i64 (b 3), .int .i64 (b 4), .int .i64 (b 5)] 71)).alloc (.cells #[.bool false, .int .i64 0, .int .i64 0, .int .i64 0, .int .i64 0, .int .i64 0, .int .i64 0] 71)) (w.heap.size + 1 + 1) false (fun _ => 0) ∧ Below w.heap.size w (((w.alloc (.cells #[.bool m, .int .i64 (a 0), .int .i64 (a 1), .int .i64 (a 2), .int .i64 (a 3), .int .i64 (a 4), .int .i64 (a 5)] 71)).alloc (.cells #[.bool n, .int .i64 (b 0), .int .i64 (b 1), .int .i64 (b 2), .int .i64 (b 3), .int .i64 (b 4), .int .i64 (b 5)] 71)).alloc (.cells #[.bool false, .int .i64 0, .int .i64 0, .int .i64 0, .int .i64 0, .int .i64 0, .int .i64 0] 71))) := ⟨A0, B0, R0, W0b⟩
  clear A0 B0 R0 W0b ha hb
  go_enter Try.func39, Try.ntmps39
  go_wp2
  go_loopw [5, 6] (fun c i wr => ∃ k : Nat, k ≤ 6 ∧ i = .int .i64 k ∧ c = .int .i64 (crP a b k) ∧ BigAt wr w.heap.size m (fun j => if j < k then dgP a b j else a j) ∧ BigAt wr (w.heap.size + 1) n b ∧ BigAt wr (w.heap.size + 1 + 1) false (fun _ => 0) ∧ Below w.heap.size w wr) (fun _ i _ => 6 - (intOf i).toNat)
  case atStart => exact ⟨0, by omega, rfl, rfl, by simpa using HA.out.1, HA.out.2.1, HA.out.2.2.1, HA.out.2.2.2⟩
  case round =>
    obtain ⟨k, hk, rfl, rfl, hA, hB, hR, hbel⟩ := hrel
    have HI : Hid (BigAt wr w.heap.size m (fun j => if j < k then dgP a b j else a j) ∧ BigAt wr (w.heap.size + 1) n b ∧ BigAt wr (w.heap.size + 1 + 1) false (fun _ => 0) ∧ Below w.heap.size w wr) := ⟨hA, hB, hR, hbel⟩
    by_cases hlt : k < 6
    · have c1 := hA.c k hlt
      simp only [Nat.lt_irrefl, if_false] at c1
      have c2 := hB.c k hlt
      have f1 := hA.f (1 + k)
      have d1 := HD.out.1 k hlt
      have d2 := HD.out.2 k hlt
      have d3 := crP_bd HD.out.1 HD.out.2 k hk
      clear hA hB hR hbel
      go_wp2
      go_quiet (fail)
      have HI2 : Hid (BigAt (wr.drewN nq) w.heap.size m (fun j => if j < k then dgP a b j else a j) ∧ BigAt (wr.drewN nq) (w.heap.size + 1) n b ∧ BigAt (wr.drewN nq) (w.heap.size + 1 + 1) false (fun _ => 0) ∧ Below w.heap.size w (wr.drewN nq)) := ⟨HI.out.1.drewN nq, HI.out.2.1.drewN nq, HI.out.2.2.1.drewN nq, bdrewN HI.out.2.2.2 nq⟩
      generalize wr.drewN nq = W1 at *
      have g1 := HI2.out.1.c k hlt
      simp only [Nat.lt_irrefl, if_false] at g1
      have g2 := HI2.out.1.f (1 + k)
      clear c1 c2 f1 HI
      go_wp2
      go_roundw
      case rel => exact ⟨k + 1, by omega, by go_num, rfl, (HI2.out.1.set k hlt _).eq (fun j hj => by
          by_cases e : j = k
          · subst e; simp [dgP]
          · simp only [e, if_false]
            by_cases e2 : j < k
            · rw [if_pos e2, if_pos (by omega)]
            · rw [if_neg e2, if_neg (by omega)]), HI2.out.2.1.other _ _ (by omega), HI2.out.2.2.1.other _ _ (by omega), bset HI2.out.2.2.2 _ _ _ (Nat.le_refl _)⟩
      case measure => simp [intOf]; omega
    · obtain rfl : k = 6 := by omega
      have hA' : BigAt wr w.heap.size m (dgP a b) := hA.eq (fun j hj => by simp [hj])
      have s0 := hA'.s
      have e0 : wr.cell? ⟨w.heap.size, 1, none⟩ = some (.int .i64 (dgP a b 0)) := hA'.c 0 (by omega)
      have e1 : wr.cell? ⟨w.heap.size, 2, none⟩ = some (.int .i64 (dgP a b 1)) := hA'.c 1 (by omega)
      have e2 : wr.cell? ⟨w.heap.size, 3, none⟩ = some (.int .i64 (dgP a b 2)) := hA'.c 2 (by omega)
      have e3 : wr.cell? ⟨w.heap.size, 4, none⟩ = some (.int .i64 (dgP a b 3)) := hA'.c 3 (by omega)
      have e4 : wr.cell? ⟨w.heap.size, 5, none⟩ = some (.int .i64 (dgP a b 4)) := hA'.c 4 (by omega)
      have e5 : wr.cell? ⟨w.heap.size, 6, none⟩ = some (.int .i64 (dgP a b 5)) := hA'.c 5 (by omega)
      have t0 := hR.s
      have t1 : wr.cell? ⟨w.heap.size + 1 + 1, 1, none⟩ = some (.int .i64 0) := hR.c 0 (by omega)
      have t2 : wr.cell? ⟨w.heap.size + 1 + 1, 2, none⟩ = some (.int .i64 0) := hR.c 1 (by omega)
      have t3 : wr.cell? ⟨w.heap.size + 1 + 1, 3, none⟩ = some (.int .i64 0) := hR.c 2 (by omega)
      have t4 : wr.cell? ⟨w.heap.size + 1 + 1, 4, none⟩ = some (.int .i64 0) := hR.c 3 (by omega)
      have t5 : wr.cell? ⟨w.heap.size + 1 + 1, 5, none⟩ = some (.int .i64 0) := hR.c 4 (by omega)
      have t6 : wr.cell? ⟨w.heap.size + 1 + 1, 6, none⟩ = some (.int .i64 0) := hR.c 5 (by omega)
      have tf := hR.f
      have HB : Hid (Below w.heap.size w wr) := hbel
      clear hA hA' hB hR hbel HI HA HD
      go_wp2
      exact bodyPost_ret (v := .agg #[.bool m, .int .i64 (dgP a b 0), .int .i64 (dgP a b 1), .int .i64 (dgP a b 2), .int .i64 (dgP a b 3), .int .i64 (dgP a b 4), .int .i64 (dgP a b 5)]) (by simp [results, Try.results39, go_sem, t0, t1, t2, t3, t4, t5, t6]) rfl ⟨rfl, bset (bset (bset (bset (bset (bset (bset HB.out _ _ _ (by omega)) _ _ _ (by omega)) _ _ _ (by omega)) _ _ _ (by omega)) _ _ _ (by omega)) _ _ _ (by omega)) _ _ _ (by omega)⟩
end Go.Proofs.Ytgpophdlmibmgaa
