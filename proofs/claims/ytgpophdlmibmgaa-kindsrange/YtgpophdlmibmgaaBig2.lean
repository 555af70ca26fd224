/- The contracts of the document's own numbers of six digits: less. Conditions: the digits' own ranges. -/
import Derived.Test.YtgpophdlmibmgaaBig
namespace Go.Proofs.Ytgpophdlmibmgaa
open Go.RowKit
set_option linter.unusedVariables false
set_option maxRecDepth 100000

set_option maxHeartbeats 1000000 in
theorem rless_any (m n : Bool) (a b : Nat → Int) (w : World) (ha : Dig a) (hb : Dig b) :
    Calls Try.prog 41 #[.agg #[.bool m, .int .i64 (a 0), .int .i64 (a 1), .int .i64 (a 2), .int .i64 (a 3), .int .i64 (a 4), .int .i64 (a 5)], .agg #[.bool n, .int .i64 (b 0), .int .i64 (b 1), .int .i64 (b 2), .int .i64 (b 3), .int .i64 (b 4), .int .i64 (b 5)]] w fun e w' => e = .returned (.agg #[.bool m, .int .i64 (dgL a b 0), .int .i64 (dgL a b 1), .int .i64 (dgL a b 2), .int .i64 (dgL a b 3), .int .i64 (dgL a b 4), .int .i64 (dgL a b 5)]) ∧ Below w.heap.size w w' := by
  have HD : Hid (Dig a ∧ Dig b) := ⟨ha, hb⟩
  have A0 : BigAt (((w.alloc (.cells #[.bool m, .int .i64 (a 0), .int .i64 (a 1), .int .i64 (a 2), .int .i64 (a 3), .int .i64 (a 4), .int .i64 (a 5)] 71)).alloc (.cells #[.bool n, .int .i64 (b 0), .int .i64 (b 1), .int .i64 (b 2), .int .i64 (b 3), .int .i64 (b 4), .int .i64 (b 5)] 71)).alloc (.cells #[.bool false, .int .i64 0, .int .i64 0, .int .i64 0, .int .i64 0, .int .i64 0, .int .i64 0] 71)) w.heap.size m a := bigAt_of (by simp [go_sem]) (by simp [go_sem]) (by simp [go_sem]) (by simp [go_sem]) (by simp [go_sem]) (by simp [go_sem]) (by simp [go_sem]) (fun j => by simp [go_sem])
  have B0 : BigAt (((w.alloc (.cells #[.bool m, .int .i64 (a 0), .int .i64 (a 1), .int .i64 (a 2), .int .i64 (a 3), .int .i64 (a 4), .int .i64 (a 5)] 71)).alloc (.cells #[.bool n, .int .i64 (b 0), .int .i64 (b 1), .int .i64 (b 2), .int .i64 (b 3), .int .i64 (b 4), .int .i64 (b 5)] 71)).alloc (.cells #[.bool false, .int .i64 0, .int .i64 0, .int .i64 0, .int .i64 0, .int .i64 0, .int .i64 0] 71)) (w.heap.size + 1) n b := bigAt_of (by simp [go_sem]) (by simp [go_sem]) (by simp [go_sem]) (by simp [go_sem]) (by simp [go_sem]) (by simp [go_sem]) (by simp [go_sem]) (fun j => by simp [go_sem])
  have R0 : BigAt (((w.alloc (.cells #[.bool m, .int .i64 (a 0), .int .i64 (a 1), .int .i64 (a 2), .int .i64 (a 3), .int .i64 (a 4), .int .i64 (a 5)] 71)).alloc (.cells #[.bool n, .int .i64 (b 0), .int .i64 (b 1), .int .i64 (b 2), .int .i64 (b 3), .int .i64 (b 4), .int .i64 (b 5)] 71)).alloc (.cells #[.bool false, .int .i64 0, .int .i64 0, .int .i64 0, .int .i64 0, .int .i64 0, .int .i64 0] 71)) (w.heap.size + 1 + 1) false (fun _ => 0) := bigAt_of (by simp [go_sem]) (by simp [go_sem]) (by simp [go_sem]) (by simp [go_sem]) (by simp [go_sem]) (by simp [go_sem]) (by simp [go_sem]) (fun j => by simp [go_sem])
  have W0b : Below w.heap.size w (((w.alloc (.cells #[.bool m, .int .i64 (a 0), .int .i64 (a 1), .int .i64 (a 2), .int .i64 (a 3), .int .i64 (a 4), .int .i64 (a 5)] 71)).alloc (.cells #[.bool n, .int .i64 (b 0), .int .i64 (b 1), .int .i64 (b 2), .int .i64 (b 3), .int .i64 (b 4), .int .i64 (b 5)] 71)).alloc (.cells #[.bool false, .int .i64 0, .int .i64 0, .int .i64 0, .int .i64 0, .int .i64 0, .int .i64 0] 71)) := ((((Below.refl _ w).alloc (Nat.le_refl _) _).alloc (by simp) _).alloc (by simp; omega) _)
  have HA : Hid (BigAt (((w.alloc (.cells #[.bool m, .int .i64 (a 0), .int .i64 (a 1), .int .i64 (a 2), .int .i64 (a 3), .int .i64 (a 4), .int .i64 (a 5)] 71)).alloc (.cells #[.bool n, .int .i64 (b 0), .int .i64 (b 1), .int .i64 (b 2), .int .i64 (b 3), .int .i64 (b 4), .int .i64 (b 5)] 71)).alloc (.cells #[.bool false, .int .i64 0, .int .i64 0, .int .i64 0, .int .i64 0, .int .i64 0, .int .i64 0] 71)) w.heap.size m a ∧ BigAt (((w.alloc (.cells #[.bool m, .int .i64 (a 0), .int .i64 (a 1), .int .i64 (a 2), .int .i64 (a 3), .int .i64 (a 4), .int .i64 (a 5)] 71)).alloc (.cells #[.bool n, .int .i64 (b 0), .int .i64 (b 1), .int .i64 (b 2), .int .i64 (b 3), .int .i64 (b 4), .int .i64 (b 5)] 71)).alloc (.cells #[.bool false, .int .i64 0, .int .i64 0, .int .i64 0, .int .i64 0, .int .i64 0, .int .i64 0] 71)) (w.heap.size + 1) n b ∧ BigAt (((w.alloc (.cells #[.bool m, .int .i64 (a 0), .int .i64 (a 1), .int .i64 (a 2), .int .i64 (a 3), .int .i64 (a 4), .int .i64 (a 5)] 71)).alloc (.cells #[.bool n, .int .i64 (b 0), .int .i64 (b 1), .int .i64 (b 2), .int .i64 (b 3), .int .i64 (b 4), .int .i64 (b 5)] 71)).alloc (.cells #[.bool false, .int .i64 0, .int .i64 0, .int .i64 0, .int .i64 0, .int .i64 0, .int .i64 0] 71)) (w.heap.size + 1 + 1) false (fun _ => 0) ∧ Below w.heap.size w (((w.alloc (.cells #[.bool m, .int .i64 (a 0), .int .i64 (a 1), .int .i64 (a 2), .int .i64 (a 3), .int .i64 (a 4), .int .i64 (a 5)] 71)).alloc (.cells #[.bool n, .int .i64 (b 0), .int .i64 (b 1), .int .i64 (b 2), .int .i64 (b 3), .int .i64 (b 4), .int .i64 (b 5)] 71)).alloc (.cells #[.bool false, .int .i64 0, .int .i64 0, .int .i64 0, .int .i64 0, .int .i64 0, .int .i64 0] 71))) := ⟨A0, B0, R0, W0b⟩
  clear A0 B0 R0 W0b ha hb
  go_enter Try.func41, Try.ntmps41
  go_wp2
  go_loopw [5, 6] (fun c i wr => ∃ k : Nat, k ≤ 6 ∧ i = .int .i64 k ∧ c = .int .i64 (brL a b k) ∧ BigAt wr w.heap.size m (fun j => if j < k then dgL a b j else a j) ∧ BigAt wr (w.heap.size + 1) n b ∧ BigAt wr (w.heap.size + 1 + 1) false (fun _ => 0) ∧ Below w.heap.size w wr) (fun _ i _ => 6 - (intOf i).toNat)
  case atStart => exact ⟨0, by omega, rfl, rfl, by simpa using HA.out.1, HA.out.2.1, HA.out.2.2.1, HA.out.2.2.2⟩
  case round =>
    obtain ⟨k, hk, rfl, rfl, hA, hB, hR, hbel⟩ := hrel
    have HI : Hid (BigAt wr w.heap.size m (fun j => if j < k then dgL a b j else a j) ∧ BigAt wr (w.heap.size + 1) n b ∧ BigAt wr (w.heap.size + 1 + 1) false (fun _ => 0) ∧ Below w.heap.size w wr) := ⟨hA, hB, hR, hbel⟩
    by_cases hlt : k < 6
    · have c1 := hA.c k hlt
      simp only [Nat.lt_irrefl, if_false] at c1
      have c2 := hB.c k hlt
      have d1 := HD.out.1 k hlt
      have d2 := HD.out.2 k hlt
      have d3 := brL_bd a b k
      have HN : Hid (brL a b (k + 1) = if a k - b k - brL a b k < 0 then 1 else 0) := rfl
      have HG : Hid (dgL a b k = if a k - b k - brL a b k < 0 then a k - b k - brL a b k + 4294967296 else a k - b k - brL a b k) := rfl
      clear hA hB hR hbel
      go_wp2
      go_quiet (fail)
      have HI2 : Hid (BigAt (wr.drewN nq) w.heap.size m (fun j => if j < k then dgL a b j else a j) ∧ BigAt (wr.drewN nq) (w.heap.size + 1) n b ∧ BigAt (wr.drewN nq) (w.heap.size + 1 + 1) false (fun _ => 0) ∧ Below w.heap.size w (wr.drewN nq)) := ⟨HI.out.1.drewN nq, HI.out.2.1.drewN nq, HI.out.2.2.1.drewN nq, bdrewN HI.out.2.2.2 nq⟩
      generalize wr.drewN nq = W1 at *
      have g1 := HI2.out.1.c k hlt
      simp only [Nat.lt_irrefl, if_false] at g1
      have g2 := HI2.out.1.f (1 + k)
      clear c1 c2 HI
      have rel : ∀ x, dgL a b k = x → BigAt (W1.setCell ⟨w.heap.size, 1 + k, none⟩ (.int .i64 x)) w.heap.size m (fun j => if j < k + 1 then dgL a b j else a j) := fun x hx => (HI2.out.1.set k hlt x).eq (fun j hj => by
        by_cases e : j = k
        · subst e; simp [hx]
        · simp only [e, if_false]
          by_cases e2 : j < k
          · rw [if_pos e2, if_pos (by omega)]
          · rw [if_neg e2, if_neg (by omega)])
      have RL : Hid (∀ x, dgL a b k = x → BigAt (W1.setCell ⟨w.heap.size, 1 + k, none⟩ (.int .i64 x)) w.heap.size m (fun j => if j < k + 1 then dgL a b j else a j)) := rel
      clear rel
      by_cases hv : a k - b k - brL a b k < 0
      · go_wp2
        go_roundw
        case rel => exact ⟨k + 1, by omega, by go_num, by rw [HN.out, if_pos hv], RL.out _ (by rw [HG.out, if_pos hv]), HI2.out.2.1.other _ _ (by omega), HI2.out.2.2.1.other _ _ (by omega), bset HI2.out.2.2.2 _ _ _ (Nat.le_refl _)⟩
        case measure => simp [intOf]; omega
      · go_wp2
        go_roundw
        case rel => exact ⟨k + 1, by omega, by go_num, by rw [HN.out, if_neg hv], RL.out _ (by rw [HG.out, if_neg hv]), HI2.out.2.1.other _ _ (by omega), HI2.out.2.2.1.other _ _ (by omega), bset HI2.out.2.2.2 _ _ _ (Nat.le_refl _)⟩
        case measure => simp [intOf]; omega
    · obtain rfl : k = 6 := by omega
      have hA' : BigAt wr w.heap.size m (dgL a b) := hA.eq (fun j hj => by simp [hj])
      have s0 := hA'.s
      have e0 : wr.cell? ⟨w.heap.size, 1, none⟩ = some (.int .i64 (dgL a b 0)) := hA'.c 0 (by omega)
      have e1 : wr.cell? ⟨w.heap.size, 2, none⟩ = some (.int .i64 (dgL a b 1)) := hA'.c 1 (by omega)
      have e2 : wr.cell? ⟨w.heap.size, 3, none⟩ = some (.int .i64 (dgL a b 2)) := hA'.c 2 (by omega)
      have e3 : wr.cell? ⟨w.heap.size, 4, none⟩ = some (.int .i64 (dgL a b 3)) := hA'.c 3 (by omega)
      have e4 : wr.cell? ⟨w.heap.size, 5, none⟩ = some (.int .i64 (dgL a b 4)) := hA'.c 4 (by omega)
      have e5 : wr.cell? ⟨w.heap.size, 6, none⟩ = some (.int .i64 (dgL a b 5)) := hA'.c 5 (by omega)
      have t0 := hR.s
      have t1 : wr.cell? ⟨w.heap.size + 1 + 1, 1, none⟩ = some (.int .i64 0) := hR.c 0 (by omega)
      have t2 : wr.cell? ⟨w.heap.size + 1 + 1, 2, none⟩ = some (.int .i64 0) := hR.c 1 (by omega)
      have t3 : wr.cell? ⟨w.heap.size + 1 + 1, 3, none⟩ = some (.int .i64 0) := hR.c 2 (by omega)
      have t4 : wr.cell? ⟨w.heap.size + 1 + 1, 4, none⟩ = some (.int .i64 0) := hR.c 3 (by omega)
      have t5 : wr.cell? ⟨w.heap.size + 1 + 1, 5, none⟩ = some (.int .i64 0) := hR.c 4 (by omega)
      have t6 : wr.cell? ⟨w.heap.size + 1 + 1, 6, none⟩ = some (.int .i64 0) := hR.c 5 (by omega)
      have tf := hR.f
      have HB : Hid (Below w.heap.size w wr) := hbel
      clear hA hA' hB hR hbel HI HA HD
      go_wp2
      exact bodyPost_ret (v := .agg #[.bool m, .int .i64 (dgL a b 0), .int .i64 (dgL a b 1), .int .i64 (dgL a b 2), .int .i64 (dgL a b 3), .int .i64 (dgL a b 4), .int .i64 (dgL a b 5)]) (by simp [results, Try.results41, go_sem, t0, t1, t2, t3, t4, t5, t6]) rfl ⟨rfl, bset (bset (bset (bset (bset (bset (bset HB.out _ _ _ (by omega)) _ _ _ (by omega)) _ _ _ (by omega)) _ _ _ (by omega)) _ _ _ (by omega)) _ _ _ (by omega)) _ _ _ (by omega)⟩
end Go.Proofs.Ytgpophdlmibmgaa
