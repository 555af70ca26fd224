/- The contracts of the document's own numbers of six digits: addOne. Conditions: the digits' own ranges. -/
import Derived.Test.YtgpophdlmibmgaaBig
namespace Go.Proofs.Ytgpophdlmibmgaa
open Go.RowKit
set_option linter.unusedVariables false
set_option maxRecDepth 100000

set_option maxHeartbeats 1000000 in
theorem addOne_any (m : Bool) (a : Nat → Int) (w : World) (ha : Dig a) :
    Calls Try.prog 44 #[.agg #[.bool m, .int .i64 (a 0), .int .i64 (a 1), .int .i64 (a 2), .int .i64 (a 3), .int .i64 (a 4), .int .i64 (a 5)]] w fun e w' => e = .returned (.agg #[.bool m, .int .i64 (dgP a oneD 0), .int .i64 (dgP a oneD 1), .int .i64 (dgP a oneD 2), .int .i64 (dgP a oneD 3), .int .i64 (dgP a oneD 4), .int .i64 (dgP a oneD 5)]) ∧ Below w.heap.size w w' := by
  have HD : Hid (Dig a) := ha
  have A0 : BigAt ((w.alloc (.cells #[.bool m, .int .i64 (a 0), .int .i64 (a 1), .int .i64 (a 2), .int .i64 (a 3), .int .i64 (a 4), .int .i64 (a 5)] 71)).alloc (.cells #[.bool false, .int .i64 0, .int .i64 0, .int .i64 0, .int .i64 0, .int .i64 0, .int .i64 0] 71)) w.heap.size m a := bigAt_of (by simp [go_sem]) (by simp [go_sem]) (by simp [go_sem]) (by simp [go_sem]) (by simp [go_sem]) (by simp [go_sem]) (by simp [go_sem]) (fun j => by simp [go_sem])
  have R0 : BigAt ((w.alloc (.cells #[.bool m, .int .i64 (a 0), .int .i64 (a 1), .int .i64 (a 2), .int .i64 (a 3), .int .i64 (a 4), .int .i64 (a 5)] 71)).alloc (.cells #[.bool false, .int .i64 0, .int .i64 0, .int .i64 0, .int .i64 0, .int .i64 0, .int .i64 0] 71)) (w.heap.size + 1) false (fun _ => 0) := bigAt_of (by simp [go_sem]) (by simp [go_sem]) (by simp [go_sem]) (by simp [go_sem]) (by simp [go_sem]) (by simp [go_sem]) (by simp [go_sem]) (fun j => by simp [go_sem])
  have W0b : Below w.heap.size w ((w.alloc (.cells #[.bool m, .int .i64 (a 0), .int .i64 (a 1), .int .i64 (a 2), .int .i64 (a 3), .int .i64 (a 4), .int .i64 (a 5)] 71)).alloc (.cells #[.bool false, .int .i64 0, .int .i64 0, .int .i64 0, .int .i64 0, .int .i64 0, .int .i64 0] 71)) := (((Below.refl _ w).alloc (Nat.le_refl _) _).alloc (by simp) _)
  have HA : Hid (BigAt ((w.alloc (.cells #[.bool m, .int .i64 (a 0), .int .i64 (a 1), .int .i64 (a 2), .int .i64 (a 3), .int .i64 (a 4), .int .i64 (a 5)] 71)).alloc (.cells #[.bool false, .int .i64 0, .int .i64 0, .int .i64 0, .int .i64 0, .int .i64 0, .int .i64 0] 71)) w.heap.size m a ∧ BigAt ((w.alloc (.cells #[.bool m, .int .i64 (a 0), .int .i64 (a 1), .int .i64 (a 2), .int .i64 (a 3), .int .i64 (a 4), .int .i64 (a 5)] 71)).alloc (.cells #[.bool false, .int .i64 0, .int .i64 0, .int .i64 0, .int .i64 0, .int .i64 0, .int .i64 0] 71)) (w.heap.size + 1) false (fun _ => 0) ∧ Below w.heap.size w ((w.alloc (.cells #[.bool m, .int .i64 (a 0), .int .i64 (a 1), .int .i64 (a 2), .int .i64 (a 3), .int .i64 (a 4), .int .i64 (a 5)] 71)).alloc (.cells #[.bool false, .int .i64 0, .int .i64 0, .int .i64 0, .int .i64 0, .int .i64 0, .int .i64 0] 71))) := ⟨A0, R0, W0b⟩
  clear A0 R0 W0b ha
  go_enter Try.func44, Try.ntmps44
  go_wp2
  go_loopw [3] (fun i wr => ∃ k : Nat, k ≤ 6 ∧ i = .int .i64 k ∧ (∀ j, j < k → a j = 4294967295) ∧ BigAt wr w.heap.size m (fun j => if j < k then 0 else a j) ∧ BigAt wr (w.heap.size + 1) false (fun _ => 0) ∧ Below w.heap.size w wr) (fun i _ => 6 - (intOf i).toNat)
  case atStart => exact ⟨0, by omega, rfl, fun j h => by omega, by simpa using HA.out.1, HA.out.2.1, HA.out.2.2⟩
  case round =>
    obtain ⟨k, hk, rfl, hfull, hA, hR, hbel⟩ := hrel
    have HF : Hid (∀ j, j < k → a j = 4294967295) := hfull
    have HI : Hid (BigAt wr w.heap.size m (fun j => if j < k then 0 else a j) ∧ BigAt wr (w.heap.size + 1) false (fun _ => 0) ∧ Below w.heap.size w wr) := ⟨hA, hR, hbel⟩
    clear hfull
    by_cases hlt : k < 6
    · have c1 := hA.c k hlt
      simp only [Nat.lt_irrefl, if_false] at c1
      have f1 := hA.f (1 + k)
      have d1 := HD.out k hlt
      by_cases hv : a k + 1 < 4294967296
      · have hA' : BigAt (wr.setCell ⟨w.heap.size, 1 + k, none⟩ (.int .i64 (a k + 1))) w.heap.size m (dgP a oneD) := (hA.set k hlt _).eq (fun j hj => by
          have hc := cin_full a k HF.out
          rw [dgP_one]
          by_cases e : j = k
          · subst e; simp only [if_true]; rw [hc]; omega
          · simp only [e, if_false]
            by_cases e2 : j < k
            · rw [if_pos e2, cin_full a j (fun i hi => HF.out i (by omega)), HF.out j e2]; rfl
            · rw [if_neg e2, cin_none HD.out k (by rw [hc]; exact hv) (by rw [hc]; omega) j (by omega) (by omega)]
              have := HD.out j hj; omega)
        have hR' := hR.other (1 + k) (.int .i64 (a k + 1)) (show w.heap.size + 1 ≠ w.heap.size by omega)
        have HW : Hid (BigAt (wr.setCell ⟨w.heap.size, 1 + k, none⟩ (.int .i64 (a k + 1))) w.heap.size m (dgP a oneD) ∧ BigAt (wr.setCell ⟨w.heap.size, 1 + k, none⟩ (.int .i64 (a k + 1))) (w.heap.size + 1) false (fun _ => 0) ∧ Below w.heap.size w (wr.setCell ⟨w.heap.size, 1 + k, none⟩ (.int .i64 (a k + 1)))) := ⟨hA', hR', bset hbel _ _ _ (Nat.le_refl _)⟩
        have g1 : (wr.setCell ⟨w.heap.size, 1 + k, none⟩ (.int .i64 (a k + 1))).cell? ⟨w.heap.size, 1 + k, none⟩ = some (.int .i64 (a k + 1)) := World.cell?_setCell_same _ _ _ c1
        have s0 := hA'.s
        have e0 : (wr.setCell ⟨w.heap.size, 1 + k, none⟩ (.int .i64 (a k + 1))).cell? ⟨w.heap.size, 1, none⟩ = some (.int .i64 (dgP a oneD 0)) := hA'.c 0 (by omega)
        have e1 : (wr.setCell ⟨w.heap.size, 1 + k, none⟩ (.int .i64 (a k + 1))).cell? ⟨w.heap.size, 2, none⟩ = some (.int .i64 (dgP a oneD 1)) := hA'.c 1 (by omega)
        have e2 : (wr.setCell ⟨w.heap.size, 1 + k, none⟩ (.int .i64 (a k + 1))).cell? ⟨w.heap.size, 3, none⟩ = some (.int .i64 (dgP a oneD 2)) := hA'.c 2 (by omega)
        have e3 : (wr.setCell ⟨w.heap.size, 1 + k, none⟩ (.int .i64 (a k + 1))).cell? ⟨w.heap.size, 4, none⟩ = some (.int .i64 (dgP a oneD 3)) := hA'.c 3 (by omega)
        have e4 : (wr.setCell ⟨w.heap.size, 1 + k, none⟩ (.int .i64 (a k + 1))).cell? ⟨w.heap.size, 5, none⟩ = some (.int .i64 (dgP a oneD 4)) := hA'.c 4 (by omega)
        have e5 : (wr.setCell ⟨w.heap.size, 1 + k, none⟩ (.int .i64 (a k + 1))).cell? ⟨w.heap.size, 6, none⟩ = some (.int .i64 (dgP a oneD 5)) := hA'.c 5 (by omega)
        have t0 := hR'.s
        have t1 : (wr.setCell ⟨w.heap.size, 1 + k, none⟩ (.int .i64 (a k + 1))).cell? ⟨w.heap.size + 1, 1, none⟩ = some (.int .i64 0) := hR'.c 0 (by omega)
        have t2 : (wr.setCell ⟨w.heap.size, 1 + k, none⟩ (.int .i64 (a k + 1))).cell? ⟨w.heap.size + 1, 2, none⟩ = some (.int .i64 0) := hR'.c 1 (by omega)
        have t3 : (wr.setCell ⟨w.heap.size, 1 + k, none⟩ (.int .i64 (a k + 1))).cell? ⟨w.heap.size + 1, 3, none⟩ = some (.int .i64 0) := hR'.c 2 (by omega)
        have t4 : (wr.setCell ⟨w.heap.size, 1 + k, none⟩ (.int .i64 (a k + 1))).cell? ⟨w.heap.size + 1, 4, none⟩ = some (.int .i64 0) := hR'.c 3 (by omega)
        have t5 : (wr.setCell ⟨w.heap.size, 1 + k, none⟩ (.int .i64 (a k + 1))).cell? ⟨w.heap.size + 1, 5, none⟩ = some (.int .i64 0) := hR'.c 4 (by omega)
        have t6 : (wr.setCell ⟨w.heap.size, 1 + k, none⟩ (.int .i64 (a k + 1))).cell? ⟨w.heap.size + 1, 6, none⟩ = some (.int .i64 0) := hR'.c 5 (by omega)
        have tf := hR'.f
        have HB : Hid (Below w.heap.size w (wr.setCell ⟨w.heap.size, 1 + k, none⟩ (.int .i64 (a k + 1)))) := HW.out.2.2
        clear hA hR hbel hA' hR' HI HF HW HA HD
        go_wp2
        exact bodyPost_ret (v := .agg #[.bool m, .int .i64 (dgP a oneD 0), .int .i64 (dgP a oneD 1), .int .i64 (dgP a oneD 2), .int .i64 (dgP a oneD 3), .int .i64 (dgP a oneD 4), .int .i64 (dgP a oneD 5)]) (by simp [results, Try.results44, go_sem, t0, t1, t2, t3, t4, t5, t6]) rfl ⟨rfl, bset (bset (bset (bset (bset (bset (bset HB.out _ _ _ (by omega)) _ _ _ (by omega)) _ _ _ (by omega)) _ _ _ (by omega)) _ _ _ (by omega)) _ _ _ (by omega)) _ _ _ (by omega)⟩
      · have c2 : a k = 4294967295 := by omega
        have hA' : BigAt ((wr.setCell ⟨w.heap.size, 1 + k, none⟩ (.int .i64 (a k + 1))).setCell ⟨w.heap.size, 1 + k, none⟩ (.int .i64 0)) w.heap.size m (fun j => if j < k + 1 then 0 else a j) := ((hA.set k hlt _).set k hlt _).eq (fun j hj => by
          by_cases e : j = k
          · subst e; simp
          · simp only [e, if_false]
            by_cases e2 : j < k
            · rw [if_pos e2, if_pos (by omega)]
            · rw [if_neg e2, if_neg (by omega)])
        have hR' := (hR.other (1 + k) (.int .i64 (a k + 1)) (show w.heap.size + 1 ≠ w.heap.size by omega)).other (1 + k) (.int .i64 0) (show w.heap.size + 1 ≠ w.heap.size by omega)
        have g1 : (wr.setCell ⟨w.heap.size, 1 + k, none⟩ (.int .i64 (a k + 1))).cell? ⟨w.heap.size, 1 + k, none⟩ = some (.int .i64 (a k + 1)) := World.cell?_setCell_same _ _ _ c1
        have HX : Hid (BigAt ((wr.setCell ⟨w.heap.size, 1 + k, none⟩ (.int .i64 (a k + 1))).setCell ⟨w.heap.size, 1 + k, none⟩ (.int .i64 0)) w.heap.size m (fun j => if j < k + 1 then 0 else a j) ∧ BigAt ((wr.setCell ⟨w.heap.size, 1 + k, none⟩ (.int .i64 (a k + 1))).setCell ⟨w.heap.size, 1 + k, none⟩ (.int .i64 0)) (w.heap.size + 1) false (fun _ => 0) ∧ Below w.heap.size w ((wr.setCell ⟨w.heap.size, 1 + k, none⟩ (.int .i64 (a k + 1))).setCell ⟨w.heap.size, 1 + k, none⟩ (.int .i64 0)) ∧ a k = 4294967295) := ⟨hA', hR', bset (bset hbel _ _ _ (Nat.le_refl _)) _ _ _ (Nat.le_refl _), c2⟩
        clear hA hR hbel hA' hR' c2
        have HF2 : Hid (∀ j, j < k + 1 → a j = 4294967295) := fun j hj => by
          by_cases e : j = k
          · rw [e]; exact HX.out.2.2.2
          · exact HF.out j (by omega)
        go_wp2
        go_roundw
        case rel => exact ⟨k + 1, by omega, by go_num, HF2.out, HX.out.1, HX.out.2.1, HX.out.2.2.1⟩
        case measure => simp [intOf]; omega
    · obtain rfl : k = 6 := by omega
      have hA' : BigAt wr w.heap.size m (dgP a oneD) := hA.eq (fun j hj => by
        rw [if_pos hj, dgP_one, cin_full a j (fun i hi => HF.out i (by omega)), HF.out j hj]; rfl)
      have s0 := hA'.s
      have e0 : wr.cell? ⟨w.heap.size, 1, none⟩ = some (.int .i64 (dgP a oneD 0)) := hA'.c 0 (by omega)
      have e1 : wr.cell? ⟨w.heap.size, 2, none⟩ = some (.int .i64 (dgP a oneD 1)) := hA'.c 1 (by omega)
      have e2 : wr.cell? ⟨w.heap.size, 3, none⟩ = some (.int .i64 (dgP a oneD 2)) := hA'.c 2 (by omega)
      have e3 : wr.cell? ⟨w.heap.size, 4, none⟩ = some (.int .i64 (dgP a oneD 3)) := hA'.c 3 (by omega)
      have e4 : wr.cell? ⟨w.heap.size, 5, none⟩ = some (.int .i64 (dgP a oneD 4)) := hA'.c 4 (by omega)
      have e5 : wr.cell? ⟨w.heap.size, 6, none⟩ = some (.int .i64 (dgP a oneD 5)) := hA'.c 5 (by omega)
      have t0 := hR.s
      have t1 : wr.cell? ⟨w.heap.size + 1, 1, none⟩ = some (.int .i64 0) := hR.c 0 (by omega)
      have t2 : wr.cell? ⟨w.heap.size + 1, 2, none⟩ = some (.int .i64 0) := hR.c 1 (by omega)
      have t3 : wr.cell? ⟨w.heap.size + 1, 3, none⟩ = some (.int .i64 0) := hR.c 2 (by omega)
      have t4 : wr.cell? ⟨w.heap.size + 1, 4, none⟩ = some (.int .i64 0) := hR.c 3 (by omega)
      have t5 : wr.cell? ⟨w.heap.size + 1, 5, none⟩ = some (.int .i64 0) := hR.c 4 (by omega)
      have t6 : wr.cell? ⟨w.heap.size + 1, 6, none⟩ = some (.int .i64 0) := hR.c 5 (by omega)
      have tf := hR.f
      have HB : Hid (Below w.heap.size w wr) := hbel
      clear hA hA' hR hbel HI HA HD HF
      go_wp2
      exact bodyPost_ret (v := .agg #[.bool m, .int .i64 (dgP a oneD 0), .int .i64 (dgP a oneD 1), .int .i64 (dgP a oneD 2), .int .i64 (dgP a oneD 3), .int .i64 (dgP a oneD 4), .int .i64 (dgP a oneD 5)]) (by simp [results, Try.results44, go_sem, t0, t1, t2, t3, t4, t5, t6]) rfl ⟨rfl, bset (bset (bset (bset (bset (bset (bset HB.out _ _ _ (by omega)) _ _ _ (by omega)) _ _ _ (by omega)) _ _ _ (by omega)) _ _ _ (by omega)) _ _ _ (by omega)) _ _ _ (by omega)⟩
end Go.Proofs.Ytgpophdlmibmgaa
