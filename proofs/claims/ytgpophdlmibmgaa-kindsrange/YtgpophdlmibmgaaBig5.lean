/- The contracts of the document's own numbers of six digits: size. Conditions: the digits' own ranges. -/
import Derived.Test.YtgpophdlmibmgaaBig
namespace Go.Proofs.Ytgpophdlmibmgaa
open Go.RowKit
set_option linter.unusedVariables false
set_option maxRecDepth 100000

set_option maxHeartbeats 1000000 in
theorem rsize_any (m n : Bool) (a b : Nat → Int) (w : World) (ha : Dig a) (hb : Dig b) :
    Calls Try.prog 40 #[.agg #[.bool m, .int .i64 (a 0), .int .i64 (a 1), .int .i64 (a 2), .int .i64 (a 3), .int .i64 (a 4), .int .i64 (a 5)], .agg #[.bool n, .int .i64 (b 0), .int .i64 (b 1), .int .i64 (b 2), .int .i64 (b 3), .int .i64 (b 4), .int .i64 (b 5)]] w fun e w' => e = .returned (.int .i64 (sgnV a b)) ∧ Below w.heap.size w w' := by
  have HD : Hid (Dig a ∧ Dig b) := ⟨ha, hb⟩
  have A0 : BigAt ((w.alloc (.cells #[.bool m, .int .i64 (a 0), .int .i64 (a 1), .int .i64 (a 2), .int .i64 (a 3), .int .i64 (a 4), .int .i64 (a 5)] 71)).alloc (.cells #[.bool n, .int .i64 (b 0), .int .i64 (b 1), .int .i64 (b 2), .int .i64 (b 3), .int .i64 (b 4), .int .i64 (b 5)] 71)) w.heap.size m a := bigAt_of (by simp [go_sem]) (by simp [go_sem]) (by simp [go_sem]) (by simp [go_sem]) (by simp [go_sem]) (by simp [go_sem]) (by simp [go_sem]) (fun j => by simp [go_sem])
  have B0 : BigAt ((w.alloc (.cells #[.bool m, .int .i64 (a 0), .int .i64 (a 1), .int .i64 (a 2), .int .i64 (a 3), .int .i64 (a 4), .int .i64 (a 5)] 71)).alloc (.cells #[.bool n, .int .i64 (b 0), .int .i64 (b 1), .int .i64 (b 2), .int .i64 (b 3), .int .i64 (b 4), .int .i64 (b 5)] 71)) (w.heap.size + 1) n b := bigAt_of (by simp [go_sem]) (by simp [go_sem]) (by simp [go_sem]) (by simp [go_sem]) (by simp [go_sem]) (by simp [go_sem]) (by simp [go_sem]) (fun j => by simp [go_sem])
  have W0b : Below w.heap.size w ((w.alloc (.cells #[.bool m, .int .i64 (a 0), .int .i64 (a 1), .int .i64 (a 2), .int .i64 (a 3), .int .i64 (a 4), .int .i64 (a 5)] 71)).alloc (.cells #[.bool n, .int .i64 (b 0), .int .i64 (b 1), .int .i64 (b 2), .int .i64 (b 3), .int .i64 (b 4), .int .i64 (b 5)] 71)) := (((Below.refl _ w).alloc (Nat.le_refl _) _).alloc (by simp) _)
  have HA : Hid (BigAt ((w.alloc (.cells #[.bool m, .int .i64 (a 0), .int .i64 (a 1), .int .i64 (a 2), .int .i64 (a 3), .int .i64 (a 4), .int .i64 (a 5)] 71)).alloc (.cells #[.bool n, .int .i64 (b 0), .int .i64 (b 1), .int .i64 (b 2), .int .i64 (b 3), .int .i64 (b 4), .int .i64 (b 5)] 71)) w.heap.size m a ∧ BigAt ((w.alloc (.cells #[.bool m, .int .i64 (a 0), .int .i64 (a 1), .int .i64 (a 2), .int .i64 (a 3), .int .i64 (a 4), .int .i64 (a 5)] 71)).alloc (.cells #[.bool n, .int .i64 (b 0), .int .i64 (b 1), .int .i64 (b 2), .int .i64 (b 3), .int .i64 (b 4), .int .i64 (b 5)] 71)) (w.heap.size + 1) n b ∧ Below w.heap.size w ((w.alloc (.cells #[.bool m, .int .i64 (a 0), .int .i64 (a 1), .int .i64 (a 2), .int .i64 (a 3), .int .i64 (a 4), .int .i64 (a 5)] 71)).alloc (.cells #[.bool n, .int .i64 (b 0), .int .i64 (b 1), .int .i64 (b 2), .int .i64 (b 3), .int .i64 (b 4), .int .i64 (b 5)] 71))) := ⟨A0, B0, W0b⟩
  clear A0 B0 W0b ha hb
  go_enter Try.func40, Try.ntmps40
  go_wp2
  go_loopw [5] (fun i wr => ∃ k : Nat, k ≤ 6 ∧ i = .int .i64 ((k : Int) - 1) ∧ (∀ j, k ≤ j → j < 6 → a j = b j) ∧ BigAt wr w.heap.size m a ∧ BigAt wr (w.heap.size + 1) n b ∧ Below w.heap.size w wr) (fun i _ => (intOf i + 1).toNat)
  case atStart => exact ⟨6, by omega, by go_num, fun j h1 h2 => by omega, HA.out.1, HA.out.2.1, HA.out.2.2⟩
  case round =>
    obtain ⟨k, hk, rfl, heq, hA, hB, hbel⟩ := hrel
    have HQ : Hid (∀ j, k ≤ j → j < 6 → a j = b j) := heq
    have HI : Hid (BigAt wr w.heap.size m a ∧ BigAt wr (w.heap.size + 1) n b ∧ Below w.heap.size w wr) := ⟨hA, hB, hbel⟩
    clear heq
    by_cases h0 : k = 0
    · subst h0
      have HE : Hid (sgnV a b = 0) := by
        have e := val_eq (fun j hj => HQ.out j (by omega) hj)
        show sgnV a b = 0
        unfold sgnV; rw [e, if_neg (by omega), if_neg (by omega)]
      clear hA hB hbel
      go_wp2
      go_ret
      exact ⟨ret_int (by rw [HE.out]), HI.out.2.2⟩
    · obtain ⟨p, rfl⟩ : ∃ p, k = p + 1 := ⟨k - 1, by omega⟩
      have c1 := hA.c p (by omega)
      have c2 := hB.c p (by omega)
      have hp : p < 6 := by omega
      have ei : ((p + 1 : Nat) : Int) - 1 = (p : Int) := by omega
      rw [ei]
      clear hA hB hbel ei
      by_cases h1 : a p < b p
      · have HE : Hid (sgnV a b = -1) := by
          have := val_lt HD.out.1 HD.out.2 p hp h1 (fun j h1 h2 => HQ.out j (by omega) h2)
          show sgnV a b = -1
          unfold sgnV; rw [if_pos this]
        go_wp2
        go_quiet (fail)
        have HB2 : Hid (Below w.heap.size w (wr.drewN nq)) := bdrewN HI.out.2.2 nq
        go_wp2
        go_ret
        exact ⟨ret_int (by rw [HE.out]), HB2.out⟩
      · by_cases h2 : b p < a p
        · have HE : Hid (sgnV a b = 1) := by
            have := val_lt HD.out.2 HD.out.1 p hp h2 (fun j h1 h2 => (HQ.out j (by omega) h2).symm)
            show sgnV a b = 1
            unfold sgnV; rw [if_neg (by omega), if_pos this]
          go_wp2
          go_quiet (fail)
          have HI2 : Hid (BigAt (wr.drewN nq) w.heap.size m a ∧ BigAt (wr.drewN nq) (w.heap.size + 1) n b ∧ Below w.heap.size w (wr.drewN nq)) := ⟨HI.out.1.drewN nq, HI.out.2.1.drewN nq, bdrewN HI.out.2.2 nq⟩
          generalize wr.drewN nq = W1 at *
          have g1 := HI2.out.1.c p hp
          have g2 := HI2.out.2.1.c p hp
          clear c1 c2
          go_wp2
          go_quiet (fail)
          have HB2 : Hid (Below w.heap.size w (W1.drewN nq)) := bdrewN HI2.out.2.2 nq
          go_wp2
          go_ret
          exact ⟨ret_int (by rw [HE.out]), HB2.out⟩
        · have HE : Hid (a p = b p) := by show a p = b p; omega
          have HQ2 : Hid (∀ j, p ≤ j → j < 6 → a j = b j) := fun j h1 h2 => by
            by_cases e : j = p
            · rw [e]; exact HE.out
            · exact HQ.out j (by omega) h2
          go_wp2
          go_quiet (fail)
          have HI2 : Hid (BigAt (wr.drewN nq) w.heap.size m a ∧ BigAt (wr.drewN nq) (w.heap.size + 1) n b ∧ Below w.heap.size w (wr.drewN nq)) := ⟨HI.out.1.drewN nq, HI.out.2.1.drewN nq, bdrewN HI.out.2.2 nq⟩
          generalize wr.drewN nq = W1 at *
          have g1 := HI2.out.1.c p hp
          have g2 := HI2.out.2.1.c p hp
          clear c1 c2
          go_wp2
          go_quiet (fail)
          have HI3 : Hid (BigAt (W1.drewN nq) w.heap.size m a ∧ BigAt (W1.drewN nq) (w.heap.size + 1) n b ∧ Below w.heap.size w (W1.drewN nq)) := ⟨HI2.out.1.drewN nq, HI2.out.2.1.drewN nq, bdrewN HI2.out.2.2 nq⟩
          go_wp2
          go_roundw
          case rel => exact ⟨p, by omega, by go_num, HQ2.out, HI3.out.1, HI3.out.2.1, HI3.out.2.2⟩
          case measure => simp [intOf]
end Go.Proofs.Ytgpophdlmibmgaa
