/- The contract of trace's Judge. Conditions: at most 2^30 weights. -/
import Derived.Test.YtipbjoeekbgnbaaTcV
namespace Go.Proofs.Ytipbjoeekbgnbaa
open Go.RowKit
set_option linter.unusedVariables false
set_option maxRecDepth 100000

def prC (v : Int) : List Value := [.int .i64 (v / 18446744073709551616), .int .u64 (v % 18446744073709551616)]
theorem prC_len (v : Int) : (prC v).length = 2 := rfl
theorem prC_one (v : Int) : ∀ u ∈ prC v, u.oneCell' = true := by intro u hu; simp [prC] at hu; rcases hu with rfl | rfl <;> rfl
theorem infoPr : (Try.prog.info? 63).map (fun i => (i.zero, i.size, i.bytes)) = some (some (.agg #[.int .i64 0, .int .u64 0]), 2, 16) := by kernel_rfl
theorem own_pr {w : World} {B : Nat} {v : Value} {vs : List Int} (h : Own prC 63 2 w B v vs) : ∃ a cap, v = .slice a vs.length cap ∧ PrRow w a vs := by
  obtain ⟨a, cap, e, _, _, hk⟩ := h.sl prC_len 0
  refine ⟨a, cap, e, fun i hi => ?_⟩
  obtain ⟨g, e2, _, _, hj⟩ := hk i hi
  refine ⟨g, 0, e2, ?_, ?_⟩
  · have := hj 0 (by omega); simpa [prC] using this
  · have := hj 1 (by omega); simpa [prC] using this
/-- Weights in memory: a signal's number, how many times. -/
def WtRow (w : World) (a : Option Addr) (ws : List (Int × Int)) : Prop := ∀ i, i < ws.length → ∃ b off, a = some ⟨b, off, none⟩ ∧ w.cell? ⟨b, off + i * 2, none⟩ = some (.int .i64 (ws.getD i (0, 0)).1) ∧ w.cell? ⟨b, off + i * 2 + 1, none⟩ = some (.int .i64 (ws.getD i (0, 0)).2)
theorem WtRow.below {w w' : World} {a : Option Addr} {ws : List (Int × Int)} (h : WtRow w a ws) (k : Below w.heap.size w w') : WtRow w' a ws := fun i hi => by
  obtain ⟨b, off, e, h1, h2⟩ := h i hi
  exact ⟨b, off, e, cell_up k h1, cell_up k h2⟩
theorem IRow.below {w w' : World} {a : Option Addr} {l : List Int} (h : IRow w a l) (k : Below w.heap.size w w') : IRow w' a l := fun i hi => by
  obtain ⟨b, off, e, h1⟩ := h i hi
  exact ⟨b, off, e, cell_up k h1⟩
/-- What a weight brings. -/
def pickW (row : List Int) (p : Int × Int) : Option Int := if 0 ≤ p.1 ∧ p.1 < row.length then some (p.2 * row.getD p.1.toNat 0) else none
def prodsTo (row : List Int) (ws : List (Int × Int)) (k : Nat) : List Int := (ws.take k).filterMap (pickW row)
theorem prodsTo_succ (row : List Int) (ws : List (Int × Int)) (k : Nat) (hk : k < ws.length) : prodsTo row ws (k + 1) = prodsTo row ws k ++ (pickW row (ws.getD k (0, 0))).toList := by
  unfold prodsTo
  rw [List.take_add_one, List.filterMap_append]
  congr 1
  rw [show ws[k]? = some (ws.getD k (0, 0)) by simp [List.getD_eq_getElem?_getD, hk]]
  generalize ws.getD k (0, 0) = p
  cases h : pickW row p <;> simp [h]
theorem prodsTo_len (row : List Int) (ws : List (Int × Int)) (k : Nat) : (prodsTo row ws k).length ≤ k := by
  unfold prodsTo
  exact Nat.le_trans (List.length_filterMap_le _ _) (by simp; omega)
def judgeSum (row : List Int) (ws : List (Int × Int)) : Int := (ws.filterMap (pickW row)).sum
def overB (S : Int) : Bool := decide (9223372036854775807 * 4294967296 < S) || decide (S < -9223372036854775808 * 4294967296)
def holdsB (S num : Int) : Bool := !overB S && decide (S ≤ num * 4294967296)
theorem cmpT_gt (S T : Int) : decide (0 < cmpT S T) = decide (T < S) := by
  rw [decide_eq_decide]; unfold cmpT; split
  · omega
  · split <;> omega
theorem cmpT_lt (S T : Int) : decide (cmpT S T < 0) = decide (S < T) := by
  rw [decide_eq_decide]; unfold cmpT; split
  · omega
  · split <;> omega
theorem cmpT_le (S T : Int) : decide (cmpT S T ≤ 0) = decide (S ≤ T) := by
  rw [decide_eq_decide]; unfold cmpT; split
  · omega
  · split <;> omega
theorem ret2_bool {a b c d : Bool} (h1 : b = a) (h2 : d = c) : Ending.returned (.tuple #[.bool a, .bool c]) = .returned (.tuple #[.bool b, .bool d]) := by rw [h1, h2]
theorem prods_fit {row : List Int} {ws : List (Int × Int)} (hw : ∀ p ∈ ws, B64 p.2) (hr : ∀ z ∈ row, B64 z) (k : Nat) : ∀ v ∈ prodsTo row ws k, PrFit v := by
  intro v hv
  unfold prodsTo at hv
  obtain ⟨p, hp, he⟩ := List.mem_filterMap.1 hv
  have hp2 := hw p (List.mem_of_mem_take hp)
  unfold pickW at he
  split at he
  · rename_i h
    simp only [Option.some.injEq] at he
    subst he
    exact prod_bound hp2 (hr _ (getD_mem 0 (by omega)))
  · cases he
set_option maxHeartbeats 8000000 in
theorem judge_tells (ta : Option Addr) (tc : Nat) (ws : List (Int × Int)) (num : Int) (ra : Option Addr) (rc : Nat) (row : List Int) (W : World) (h : WtRow W ta ws) (hr : IRow W ra row) (hw : ∀ p ∈ ws, B64 p.2) (hrow : ∀ z ∈ row, B64 z) (hn : B64 num) (hl : ws.length ≤ 1073741824) :
    Calls Try.prog 11 #[.agg #[.slice ta ws.length tc, .int .i64 num], .slice ra row.length rc] W fun e W' => e = .returned (.tuple #[.bool (holdsB (judgeSum row ws) num), .bool (overB (judgeSum row ws))]) ∧ Below W.heap.size W W' := by
  have HW : Hid (∀ X, Below W.heap.size W X → WtRow X ta ws) := fun X hX => h.below hX
  have HI : Hid (∀ X, Below W.heap.size W X → IRow X ra row) := fun X hX => hr.below hX
  have HBW : Hid (∀ p ∈ ws, B64 p.2) := hw
  have HBR : Hid (∀ z ∈ row, B64 z) := hrow
  obtain ⟨W1, hW1⟩ : ∃ X, W.alloc (.cells #[.slice ta ws.length tc, .int .i64 num] 45) = X := ⟨_, rfl⟩
  have HB1 : Hid (Below W.heap.size W W1) := by rw [← hW1]; exact (Below.refl _ _).alloc (Nat.le_refl _) _
  have hs1 : W1.heap.size = W.heap.size + 1 := by rw [← hW1]; simp
  have q0 : W1.cell? ⟨W.heap.size, 0, none⟩ = some (.slice ta ws.length tc) := by rw [← hW1]; simp [go_sem]
  have q1 : W1.cell? ⟨W.heap.size, 1, none⟩ = some (.int .i64 num) := by rw [← hW1]; simp [go_sem]
  have HW1 : Hid (W.alloc (.cells #[.slice ta ws.length tc, .int .i64 num] 45) = W1) := hW1
  clear h hr hw hrow hW1
  obtain ⟨i0, hi, hz0, hz2', hz2⟩ := info_parts infoPr
  go_enter Try.func11, Try.ntmps11
  go_wp2_with (at_make; refine wpList_make_own _ rfl _ _ _ rfl (W.heap.size + 1) 63 i0 (.agg #[.int .i64 0, .int .u64 0]) 2 Try.underlying58 hi hz0 hz2' .i64 .i64 16 16 rfl rfl rfl (by rw [hz2]; omega) (by unfold maxLen; omega) (by simp) ?_; intro w2 ho hg; rw [HW1.out] at hg; have hb2 := (Below.refl (W.heap.size + 1) W1).grown hg (by omega) (fun k hk => by cases hk); have k0 : w2.cell? ⟨W.heap.size, 0, none⟩ = some (.slice ta ws.length tc) := by (rw [hb2.cell (p := ⟨W.heap.size, 0, none⟩) (by simp)]; exact q0))
  have HB2 : Hid (Below (W.heap.size + 1) W1 w2) := hb2
  have HO2 : Hid (Own prC 63 2 w2 (W.heap.size + 1) (.slice (some ⟨W.heap.size + 1, 0, none⟩) 0 16) []) := by show Own prC _ 2 w2 _ _ _; simpa [Own, cellsL, hs1] using ho
  have HQ : Hid (∀ X, Below (W.heap.size + 1) W1 X → X.cell? ⟨W.heap.size, 1, none⟩ = some (.int .i64 num)) := fun X hX => by rw [hX.cell (p := ⟨W.heap.size, 1, none⟩) (by simp)]; exact q1
  clear hb2 ho hg k0 q0 q1
  go_loopw [6, 15] (fun p i wr => ∃ (k : Nat) (pa : Option Addr) (pc : Nat), k ≤ ws.length ∧ i = .int .i64 k ∧ p = .slice pa (prodsTo row ws k).length pc ∧ Own prC 63 2 wr (W.heap.size + 1) (.slice pa (prodsTo row ws k).length pc) (prodsTo row ws k) ∧ Below (W.heap.size + 1) W1 wr) (fun _ i _ => ws.length - (intOf i).toNat)
  case atStart => exact ⟨0, some ⟨W.heap.size + 1, 0, none⟩, 16, Nat.zero_le _, rfl, rfl, HO2.out, HB2.out⟩
  case round =>
    obtain ⟨k, pa, pc, hk, rfl, rfl, ho, hb⟩ := hrel
    have HO : Hid (Own prC 63 2 wr (W.heap.size + 1) (.slice pa (prodsTo row ws k).length pc) (prodsTo row ws k)) := ho
    have HB : Hid (Below (W.heap.size + 1) W1 wr) := hb
    have HBW1 : Hid (Below W.heap.size W wr) := HB1.out.trans (hb.mono (by omega))
    clear ho hb
    by_cases hlt : k < ws.length
    · obtain ⟨b, off, rfl, w0, w1⟩ := HW.out _ HBW1.out k hlt
      have HS : Hid (prodsTo row ws (k + 1) = prodsTo row ws k ++ (pickW row (ws.getD k (0, 0))).toList) := prodsTo_succ row ws k hlt
      have hB2 := HBW.out _ (getD_mem (0, 0) hlt)
      have HPL : Hid ((prodsTo row ws k).length ≤ k) := prodsTo_len row ws k
      generalize ws.getD k (0, 0) = p at *
      obtain ⟨sg, tm⟩ := p
      simp only at w0 w1 hB2
      have HBX : Hid (Below (W.heap.size + 1) W1 (wr.alloc (.cells #[.int .i64 sg, .int .i64 tm] 60))) := HB.out.alloc (by have := HB.out.size; omega) _
      by_cases h0 : 0 ≤ sg
      · by_cases h1 : sg < row.length
        · obtain ⟨s, rfl⟩ : ∃ s : Nat, sg = s := ⟨sg.toNat, by omega⟩
          obtain ⟨b2, off2, rfl, r0⟩ := HI.out _ HBW1.out s (by omega)
          have hrv := HBR.out _ (getD_mem 0 (show s < row.length by omega))
          have HE : Hid (prodsTo row ws (k + 1) = prodsTo row ws k ++ [tm * row.getD s 0]) := by
            show _ = _
            rw [HS.out]; unfold pickW; rw [if_pos ⟨by omega, by omega⟩]; rfl
          have HRC : Hid (∀ X, Below W.heap.size W X → X.cell? ⟨b2, off2 + s, none⟩ = some (.int .i64 (row.getD s 0))) := fun X hX => by
            obtain ⟨b', o', e, c⟩ := HI.out X hX s (by omega)
            cases e; exact c
          generalize row.getD s 0 = rv at *
          have HTM : Hid (∀ X, Calls Try.prog 20 #[.int .i64 tm, .int .i64 rv] X fun e W' => e = .returned (.agg #[.int .i64 (tm * rv / 18446744073709551616), .int .u64 (tm * rv % 18446744073709551616)]) ∧ Below X.heap.size X W') := fun X => ttimes_any tm rv X hB2 hrv
          have hb2lt : b2 < wr.heap.size := World.block_lt_of_cell? _ _ r0
          have HALL : Hid (∀ X, Below (wr.alloc (.cells #[.int .i64 s, .int .i64 tm] 60)).heap.size (wr.alloc (.cells #[.int .i64 s, .int .i64 tm] 60)) X → X.cell? ⟨wr.heap.size, 0, none⟩ = some (.int .i64 s) ∧ X.cell? ⟨wr.heap.size, 1, none⟩ = some (.int .i64 tm) ∧ X.cell? ⟨b2, off2 + s, none⟩ = some (.int .i64 rv)) := fun X hX => ⟨cell_up hX (by simp [go_sem]), cell_up hX (by simp [go_sem]), cell_up hX (by rw [cell_alloc_lt _ _ _ _ hb2lt]; exact r0)⟩
          have HBC : Hid (Below (wr.alloc (.cells #[.int .i64 s, .int .i64 tm] 60)).heap.size (wr.alloc (.cells #[.int .i64 s, .int .i64 tm] 60)) (wr.alloc (.cells #[.int .i64 s, .int .i64 tm] 60)).drew) := (Below.refl _ _).drew
          have HAP : Hid (∀ X, Below (wr.alloc (.cells #[.int .i64 s, .int .i64 tm] 60)).heap.size (wr.alloc (.cells #[.int .i64 s, .int .i64 tm] 60)) X → ∃ va vc X6, (Builtin.append_ #[58, 58] 58 #[.slice pa (prodsTo row ws k).length pc, .slice (some ⟨X.heap.size, 0, none⟩) 1 1]).run Try.prog (X.alloc (.cells #[.int .i64 (tm * rv / 18446744073709551616), .int .u64 (tm * rv % 18446744073709551616)] 63)) = .ok (.slice va (prodsTo row ws (k + 1)).length vc) X6 ∧ Own prC 63 2 X6 (W.heap.size + 1) (.slice va (prodsTo row ws (k + 1)).length vc) (prodsTo row ws (k + 1)) ∧ Below (W.heap.size + 1) W1 X6 ∧ X6.cell? ⟨wr.heap.size, 0, none⟩ = some (.int .i64 s) ∧ X6.cell? ⟨wr.heap.size, 1, none⟩ = some (.int .i64 tm) ∧ X6.cell? ⟨b2, off2 + s, none⟩ = some (.int .i64 rv)) := fun X hX => by
            have hXs := hX.size
            have hBs := HB.out.size
            simp at hXs
            have ho1 : Own prC 63 2 (X.alloc (.cells #[.int .i64 (tm * rv / 18446744073709551616), .int .u64 (tm * rv % 18446744073709551616)] 63)) (W.heap.size + 1) (.slice pa (prodsTo row ws k).length pc) (prodsTo row ws k) := ((HO.out.below ((Below.refl _ _).alloc (Nat.le_refl _) _)).below hX).below ((Below.refl _ _).alloc (Nat.le_refl _) _)
            have hl9 := HPL.out
            obtain ⟨v', X6, hr, ho, hg, hat⟩ := Own.append prC_len prC_one Try.underlying58 infoPr rfl (by omega) (X.alloc (.cells #[.int .i64 (tm * rv / 18446744073709551616), .int .u64 (tm * rv % 18446744073709551616)] 63)) (W.heap.size + 1) _ _ ho1 (tm * rv) X.heap.size
              (by intro j hj; have : j = 0 ∨ j = 1 := by omega
                  rcases this with rfl | rfl <;> simp [go_sem, prC]) (by unfold maxLen; omega) (by omega) (by simp; omega)
            obtain ⟨va, vc, rfl, _⟩ := own_pr ho
            rw [← HE.out] at ho hr
            have hge : ∀ g ∈ (Value.slice pa (prodsTo row ws k).length pc).ownBlock.toList, W.heap.size + 1 ≤ g := fun g hh => (Own.lt HO.out g (by simpa using hh)).1
            have hx1 : Below (W.heap.size + 1) W1 (X.alloc (.cells #[.int .i64 (tm * rv / 18446744073709551616), .int .u64 (tm * rv % 18446744073709551616)] 63)) := (HBX.out.trans (hX.mono (by simp; omega))).alloc (by omega) _
            have hsp := HO.out.lt
            refine ⟨va, vc, X6, hr, ho, hx1.trans ((Mod.grown hg).belowOf (by simp; omega) hge), ?_⟩
            have hn1 : ∀ i j u, (X.alloc (.cells #[.int .i64 (tm * rv / 18446744073709551616), .int .u64 (tm * rv % 18446744073709551616)] 63)).cell? ⟨i, j, none⟩ = some u → i ∉ (Value.slice pa (prodsTo row ws k).length pc).ownBlock.toList → X6.cell? ⟨i, j, none⟩ = some u := fun i j u hu hi => (Mod.grown hg).cell hu hi
            obtain ⟨z0, z1, z2⟩ := HALL.out X hX
            have y0 : (X.alloc (.cells #[.int .i64 (tm * rv / 18446744073709551616), .int .u64 (tm * rv % 18446744073709551616)] 63)).cell? ⟨wr.heap.size, 0, none⟩ = some (.int .i64 s) := cell_up ((Below.refl _ _).alloc (Nat.le_refl _) _) z0
            have y1 : (X.alloc (.cells #[.int .i64 (tm * rv / 18446744073709551616), .int .u64 (tm * rv % 18446744073709551616)] 63)).cell? ⟨wr.heap.size, 1, none⟩ = some (.int .i64 tm) := cell_up ((Below.refl _ _).alloc (Nat.le_refl _) _) z1
            have hnw : wr.heap.size ∉ (Value.slice pa (prodsTo row ws k).length pc).ownBlock.toList := fun hh => by have := (Own.lt HO.out _ (by simpa using hh)).2; omega
            exact ⟨hn1 _ _ _ y0 hnw, hn1 _ _ _ y1 hnw, HRC.out _ (HB1.out.trans ((hx1.trans ((Mod.grown hg).belowOf (by simp; omega) hge)).mono (by omega)))⟩
          clear hB2 hrv hb2lt h0
          go_wp2_with fail
          refine wp_region_held_drew (S := fun W' => W'.cell? ⟨wr.heap.size, 0, none⟩ = some (.int .i64 s) ∧ W'.cell? ⟨wr.heap.size, 1, none⟩ = some (.int .i64 tm) ∧ W'.cell? ⟨b2, off2 + s, none⟩ = some (.int .i64 rv)) (by kernel_rfl) (HALL.out _ HBC.out) (fun hHeld => ?_)
          refine wpAnyH_take (i := 0) (oi := { dst := some 29, op := Op.move (Operand.tmp 6), type := 58, pos := "sum.go:15", after := #[], guard := none }) (v := ?_) rfl (by kernel_rfl) (by kernel_rfl) (by kernel_rfl) (fun _ _ _ h => h) (Or.inl ⟨by rfl, ?_⟩) hHeld ?_
          rotate_left
          · (intro w hSw; (try dsimp only at hSw); go_simp; all_goals (try with_reducible rfl))
          try simp only [Act.put, List.setIfInBounds_toArray, List.set_cons_zero, List.set_cons_succ]
          refine wpAnyH_take (i := 1) (oi := { dst := some 30, op := Op.fieldAddr 60 (Operand.tmp 8) 1, type := 0, pos := "sum.go:15", after := #[], guard := none }) (v := ?_) rfl (by kernel_rfl) (by kernel_rfl) (by kernel_rfl) (fun _ _ _ h => h) (Or.inl ⟨by rfl, ?_⟩) hHeld ?_
          rotate_left
          · (intro w hSw; (try dsimp only at hSw); go_simp; all_goals (try with_reducible rfl))
          try simp only [Act.put, List.setIfInBounds_toArray, List.set_cons_zero, List.set_cons_succ]
          refine wpAnyH_take (i := 2) (oi := { dst := some 31, op := Op.load 3 (Operand.tmp 30), type := 3, pos := "sum.go:15", after := #[{ on := 1, ground := Ground.data }], guard := none }) (v := ?_) rfl (by kernel_rfl) (by kernel_rfl) (by kernel_rfl) (fun _ _ _ h => h) (Or.inl ⟨by rfl, ?_⟩) hHeld ?_
          rotate_left
          · (intro w hSw; (try dsimp only at hSw); go_simp; all_goals (try with_reducible rfl))
          try simp only [Act.put, List.setIfInBounds_toArray, List.set_cons_zero, List.set_cons_succ]
          refine wpAnyH_take (i := 3) (oi := { dst := some 32, op := Op.move (Operand.tmp 1), type := 26, pos := "sum.go:15", after := #[], guard := none }) (v := ?_) rfl (by kernel_rfl) (by kernel_rfl) (by kernel_rfl) (fun _ _ _ h => h) (Or.inl ⟨by rfl, ?_⟩) hHeld ?_
          rotate_left
          · (intro w hSw; (try dsimp only at hSw); go_simp; all_goals (try with_reducible rfl))
          try simp only [Act.put, List.setIfInBounds_toArray, List.set_cons_zero, List.set_cons_succ]
          refine wpAnyH_take (i := 4) (oi := { dst := some 33, op := Op.fieldAddr 60 (Operand.tmp 8) 0, type := 0, pos := "sum.go:15", after := #[], guard := none }) (v := ?_) rfl (by kernel_rfl) (by kernel_rfl) (by kernel_rfl) (fun _ _ _ h => h) (Or.inl ⟨by rfl, ?_⟩) hHeld ?_
          rotate_left
          · (intro w hSw; (try dsimp only at hSw); go_simp; all_goals (try with_reducible rfl))
          try simp only [Act.put, List.setIfInBounds_toArray, List.set_cons_zero, List.set_cons_succ]
          refine wpAnyH_take (i := 5) (oi := { dst := some 34, op := Op.load 3 (Operand.tmp 33), type := 3, pos := "sum.go:15", after := #[{ on := 4, ground := Ground.data }], guard := none }) (v := ?_) rfl (by kernel_rfl) (by kernel_rfl) (by kernel_rfl) (fun _ _ _ h => h) (Or.inl ⟨by rfl, ?_⟩) hHeld ?_
          rotate_left
          · (intro w hSw; (try dsimp only at hSw); go_simp; all_goals (try with_reducible rfl))
          try simp only [Act.put, List.setIfInBounds_toArray, List.set_cons_zero, List.set_cons_succ]
          refine wpAnyH_take (i := 6) (oi := { dst := some 35, op := Op.indexAddr 26 (Operand.tmp 32) (Operand.tmp 34), type := 0, pos := "sum.go:15", after := #[{ on := 3, ground := Ground.data }, { on := 5, ground := Ground.data }], guard := none }) (v := ?_) rfl (by kernel_rfl) (by kernel_rfl) (by kernel_rfl) (fun _ _ _ h => h) (Or.inl ⟨by rfl, ?_⟩) hHeld ?_
          rotate_left
          · (intro w hSw; (try dsimp only at hSw); go_simp; all_goals (try with_reducible rfl))
          try simp only [Act.put, List.setIfInBounds_toArray, List.set_cons_zero, List.set_cons_succ]
          refine wpAnyH_take (i := 7) (oi := { dst := some 36, op := Op.load 3 (Operand.tmp 35), type := 3, pos := "sum.go:15", after := #[{ on := 6, ground := Ground.data }], guard := none }) (v := ?_) rfl (by kernel_rfl) (by kernel_rfl) (by kernel_rfl) (fun _ _ _ h => h) (Or.inl ⟨by rfl, ?_⟩) hHeld ?_
          rotate_left
          · (intro w hSw; (try dsimp only at hSw); go_simp; all_goals (try with_reducible rfl))
          try simp only [Act.put, List.setIfInBounds_toArray, List.set_cons_zero, List.set_cons_succ]
          refine wpAnyH_ready (rs := [8]) (by kernel_rfl) (by simp) ?_
          refine AllReadyH.cons (o := { dst := some 37, op := Op.call { callee := Callee.value (Operand.func 20), args := #[Operand.tmp 31, Operand.tmp 36], argTypes := #[3, 3] }, type := 63, pos := "sum.go:15", after := #[{ on := 2, ground := Ground.data }, { on := 7, ground := Ground.data }], guard := none }) rfl (fun K hK => ?_) AllReadyH.nil
          go_simp
          refine Calls.mono (HTM.out _) ?_
          rintro e W4 ⟨rfl, hb4⟩
          have HBC : Hid (Below (wr.alloc (.cells #[.int .i64 s, .int .i64 tm] 60)).heap.size (wr.alloc (.cells #[.int .i64 s, .int .i64 tm] 60)) W4) := HBC.out.trans (hb4.mono HBC.out.size)
          have HSK : Hid (W4.cell? ⟨wr.heap.size, 0, none⟩ = some (.int .i64 s) ∧ W4.cell? ⟨wr.heap.size, 1, none⟩ = some (.int .i64 tm) ∧ W4.cell? ⟨b2, off2 + s, none⟩ = some (.int .i64 rv)) := HALL.out _ HBC.out
          clear hb4
          go_wp2_with fail
          refine hK.out _ _ HSK.out (fun hHeld => ?_)
          clear hK K
          try simp only [Act.put, List.setIfInBounds_toArray, List.set_cons_zero, List.set_cons_succ]
          refine wpAnyH_ready (rs := [9]) (by kernel_rfl) (by simp) ?_
          refine AllReadyH.cons (o := { dst := some 38, op := Op.buildSlice 58 1 #[(0, Operand.tmp 37)], type := 58, pos := "sum.go:15", after := #[{ on := 8, ground := Ground.data }], guard := none }) rfl (fun K hK => ?_) AllReadyH.nil
          go_simp
          have HBD : Hid (Below (wr.alloc (.cells #[.int .i64 s, .int .i64 tm] 60)).heap.size (wr.alloc (.cells #[.int .i64 s, .int .i64 tm] 60)) W4) := HBC.out
          have HBC : Hid (Below (wr.alloc (.cells #[.int .i64 s, .int .i64 tm] 60)).heap.size (wr.alloc (.cells #[.int .i64 s, .int .i64 tm] 60)) (W4.alloc (.cells #[.int .i64 (tm * rv / 18446744073709551616), .int .u64 (tm * rv % 18446744073709551616)] 63))) := HBC.out.alloc HBC.out.size _
          have HSK : Hid ((W4.alloc (.cells #[.int .i64 (tm * rv / 18446744073709551616), .int .u64 (tm * rv % 18446744073709551616)] 63)).cell? ⟨wr.heap.size, 0, none⟩ = some (.int .i64 s) ∧ (W4.alloc (.cells #[.int .i64 (tm * rv / 18446744073709551616), .int .u64 (tm * rv % 18446744073709551616)] 63)).cell? ⟨wr.heap.size, 1, none⟩ = some (.int .i64 tm) ∧ (W4.alloc (.cells #[.int .i64 (tm * rv / 18446744073709551616), .int .u64 (tm * rv % 18446744073709551616)] 63)).cell? ⟨b2, off2 + s, none⟩ = some (.int .i64 rv)) := HALL.out _ HBC.out
          refine hK.out _ _ HSK.out (fun hHeld => ?_)
          clear hK K
          try simp only [Act.put, List.setIfInBounds_toArray, List.set_cons_zero, List.set_cons_succ]
          refine wpAnyH_ready (rs := [10]) (by kernel_rfl) (by simp) ?_
          refine AllReadyH.cons (o := { dst := some 39, op := Op.call { callee := Callee.builtin Builtin.append, args := #[Operand.tmp 29, Operand.tmp 38], argTypes := #[58, 58] }, type := 58, pos := "sum.go:15", after := #[{ on := 0, ground := Ground.data }, { on := 9, ground := Ground.data }, { on := 8, ground := Ground.chain }], guard := none }) rfl (fun K hK => ?_) AllReadyH.nil
          obtain ⟨va, vc, X6, hr, ho6, hb6, hs6⟩ := HAP.out _ HBD.out
          have HSK : Hid _ := hs6
          have HO6 : Hid _ := ho6
          have HB6 : Hid _ := hb6
          clear ho6 hb6
          refine append_stepO (by rfl) _ _ (by rfl) (by rfl) _ _ _ _ (by rfl) (by rfl) hr ?_
          clear hr hs6
          refine hK.out _ _ HSK.out (fun hHeld => ?_)
          clear hK K
          try simp only [Act.put, List.setIfInBounds_toArray, List.set_cons_zero, List.set_cons_succ]
          refine wpAnyH_take (i := 11) (oi := { dst := some 6, op := Op.assign (Operand.tmp 39), type := 58, pos := "sum.go:15", after := #[{ on := 10, ground := Ground.data }, { on := 10, ground := Ground.chain }, { on := 0, ground := Ground.phase }, { on := 1, ground := Ground.phase }, { on := 2, ground := Ground.phase }, { on := 3, ground := Ground.phase }, { on := 4, ground := Ground.phase }, { on := 5, ground := Ground.phase }, { on := 6, ground := Ground.phase }, { on := 7, ground := Ground.phase }, { on := 8, ground := Ground.phase }, { on := 9, ground := Ground.phase }, { on := 10, ground := Ground.phase }], guard := none }) (v := ?_) rfl (by kernel_rfl) (by kernel_rfl) (by kernel_rfl) (fun _ _ _ h => h) (Or.inl ⟨by rfl, ?_⟩) hHeld ?_
          rotate_left
          · (intro w hSw; (try dsimp only at hSw); go_simp; all_goals (try with_reducible rfl))
          try simp only [Act.put, List.setIfInBounds_toArray, List.set_cons_zero, List.set_cons_succ]
          refine wpAnyH_done (by kernel_rfl) ?_ _
          go_wp2
          go_roundw
          case rel => exact ⟨k + 1, va, vc, by omega, by go_num, rfl, HO6.out, HB6.out⟩
          case measure => simp [intOf]; omega
        · have HE : Hid (prodsTo row ws (k + 1) = prodsTo row ws k) := by
            show _ = _
            rw [HS.out]; unfold pickW; rw [if_neg (by omega)]; simp
          have HOX : Hid (Own prC 63 2 (wr.alloc (.cells #[.int .i64 sg, .int .i64 tm] 60)) (W.heap.size + 1) (.slice pa (prodsTo row ws k).length pc) (prodsTo row ws k)) := HO.out.below ((Below.refl _ _).alloc (Nat.le_refl _) _)
          go_wp2
          go_roundw
          case rel => exact ⟨k + 1, pa, pc, by omega, by go_num, by rw [HE.out], by rw [HE.out]; exact HOX.out, HBX.out⟩
          case measure => simp [intOf]; omega
      · have HE : Hid (prodsTo row ws (k + 1) = prodsTo row ws k) := by
          show _ = _
          rw [HS.out]; unfold pickW; rw [if_neg (by omega)]; simp
        have HOX : Hid (Own prC 63 2 (wr.alloc (.cells #[.int .i64 sg, .int .i64 tm] 60)) (W.heap.size + 1) (.slice pa (prodsTo row ws k).length pc) (prodsTo row ws k)) := HO.out.below ((Below.refl _ _).alloc (Nat.le_refl _) _)
        go_wp2
        go_roundw
        case rel => exact ⟨k + 1, pa, pc, by omega, by go_num, by rw [HE.out], by rw [HE.out]; exact HOX.out, HBX.out⟩
        case measure => simp [intOf]; omega
    · have hkk : k = ws.length := by omega
      subst hkk
      have HE : Hid ((prodsTo row ws ws.length).sum = judgeSum row ws) := by show _ = _; unfold prodsTo judgeSum; rw [List.take_length]
      have HSUM : Hid (Calls Try.prog 21 #[.slice pa (prodsTo row ws ws.length).length pc] wr fun e W' => e = .returned (toV (judgeSum row ws)) ∧ Below wr.heap.size wr W') := by
        obtain ⟨pa', pc', e, hrow⟩ := own_pr HO.out
        cases e
        have hl9 := prodsTo_len row ws ws.length
        have := tsum_any pa pc _ wr hrow (by omega) (prods_fit HBW.out HBR.out ws.length)
        rwa [HE.out] at this
      generalize (prodsTo row ws ws.length).length = pl at *
      generalize hS : judgeSum row ws = S at *
      have HES : Hid (judgeSum row ws = S) := hS
      clear hS
      clear HE HO
      have HMX : Hid (∀ X, Calls Try.prog 22 #[toV S, .int .i64 9223372036854775807] X fun e W' => e = .returned (.int .i64 (cmpT S (9223372036854775807 * 4294967296))) ∧ Below X.heap.size X W') := fun X => tcompare_any S _ X (by unfold B64; omega)
      have HMN : Hid (∀ X, Calls Try.prog 22 #[toV S, .int .i64 (-9223372036854775808)] X fun e W' => e = .returned (.int .i64 (cmpT S (-9223372036854775808 * 4294967296))) ∧ Below X.heap.size X W') := fun X => tcompare_any S _ X (by unfold B64; omega)
      have HNU : Hid (∀ X, Calls Try.prog 22 #[toV S, .int .i64 num] X fun e W' => e = .returned (.int .i64 (cmpT S (num * 4294967296))) ∧ Below X.heap.size X W') := fun X => tcompare_any S _ X hn
      have e1 := cmpT_gt S (9223372036854775807 * 4294967296)
      have e2 := cmpT_lt S (-9223372036854775808 * 4294967296)
      have e3 := cmpT_le S (num * 4294967296)
      have HE1 : Hid (overB S = (decide (0 < cmpT S (9223372036854775807 * 4294967296)) || decide (cmpT S (-9223372036854775808 * 4294967296) < 0))) := by show _ = _; rw [e1, e2]; rfl
      have HE2 : Hid (holdsB S num = (!overB S && decide (cmpT S (num * 4294967296) ≤ 0))) := by show _ = _; rw [e3]; rfl
      clear e1 e2 e3
      generalize cmpT S (9223372036854775807 * 4294967296) = x1 at *
      generalize cmpT S (-9223372036854775808 * 4294967296) = x2 at *
      generalize cmpT S (num * 4294967296) = x3 at *
      unfold toV at *
      generalize S / 340282366920938463463374607431768211456 = s0 at *
      generalize S / 18446744073709551616 % 18446744073709551616 = s1 at *
      generalize S % 18446744073709551616 = s2 at *
      go_wp2_with fail
      refine Calls.mono HSUM.out ?_
      rintro e W3 ⟨rfl, hb3⟩
      have HB3 : Hid (Below (W.heap.size + 1) W1 W3) := HB.out.trans (hb3.mono (by have := HB.out.size; omega))
      clear hb3
      have HBX : Hid (Below (W.heap.size + 1) W1 (W3.alloc (.cells #[.int .i64 s0, .int .u64 s1, .int .u64 s2] 66))) := HB3.out.alloc (by have := HB3.out.size; omega) _
      have hsz3 : W.heap.size + 1 ≤ W3.heap.size := by have := HB3.out.size; omega
      by_cases g1 : 0 < x1
      · have HO0 : Hid (overB S = true) := by show _ = _; rw [HE1.out]; simp [g1]
        have HO1 : Hid (overB (judgeSum row ws) = overB S) := by show _ = _; rw [HES.out]
        have HH1 : Hid (holdsB (judgeSum row ws) num = false) := by show _ = _; rw [HES.out, HE2.out, HO0.out]; rfl
        go_wp2_with fail
        refine Calls.mono (HMX.out _) ?_
        rintro e W4 ⟨rfl, hb4⟩
        have HB4 : Hid (Below (W.heap.size + 1) W1 W4) := HBX.out.trans (hb4.mono (by have := HBX.out.size; omega))
        clear hb4
        go_wp2
        go_ret2
        exact ⟨ret2_bool (HH1.out.trans (by first | rfl | simp [g1, g2] | simp [g1])) (HO1.out.trans (HO0.out.trans (by first | rfl | simp [g1, g2] | simp [g1]))), HB1.out.trans (HB4.out.mono (by omega))⟩
      · by_cases g2 : x2 < 0
        · have HO0 : Hid (overB S = true) := by show _ = _; rw [HE1.out]; simp [g2]
          have HO1 : Hid (overB (judgeSum row ws) = overB S) := by show _ = _; rw [HES.out]
          have HH1 : Hid (holdsB (judgeSum row ws) num = false) := by show _ = _; rw [HES.out, HE2.out, HO0.out]; rfl
          go_wp2_with fail
          refine Calls.mono (HMX.out _) ?_
          rintro e W4 ⟨rfl, hb4⟩
          have HB4 : Hid (Below (W.heap.size + 1) W1 W4) := HBX.out.trans (hb4.mono (by have := HBX.out.size; omega))
          have a4 := cell_up hb4 (show (W3.alloc (.cells #[.int .i64 s0, .int .u64 s1, .int .u64 s2] 66)).cell? ⟨W3.heap.size, 0, none⟩ = some (.int .i64 s0) by simp [go_sem])
          have b4 := cell_up hb4 (show (W3.alloc (.cells #[.int .i64 s0, .int .u64 s1, .int .u64 s2] 66)).cell? ⟨W3.heap.size, 1, none⟩ = some (.int .u64 s1) by simp [go_sem])
          have d4 := cell_up hb4 (show (W3.alloc (.cells #[.int .i64 s0, .int .u64 s1, .int .u64 s2] 66)).cell? ⟨W3.heap.size, 2, none⟩ = some (.int .u64 s2) by simp [go_sem])
          clear hb4
          go_wp2_with fail
          refine Calls.mono (HMN.out _) ?_
          rintro e W5 ⟨rfl, hb5⟩
          have HB5 : Hid (Below (W.heap.size + 1) W1 W5) := HB4.out.trans (hb5.mono (by have := HB4.out.size; omega))
          clear hb5
          go_wp2
          go_ret2
          exact ⟨ret2_bool (HH1.out.trans (by first | rfl | simp [g1, g2] | simp [g1])) (HO1.out.trans (HO0.out.trans (by first | rfl | simp [g1, g2] | simp [g1]))), HB1.out.trans (HB5.out.mono (by omega))⟩
        · have HO0 : Hid (overB S = false) := by show _ = _; rw [HE1.out]; simp [g1, g2]
          go_wp2_with fail
          refine Calls.mono (HMX.out _) ?_
          rintro e W4 ⟨rfl, hb4⟩
          have HB4 : Hid (Below (W.heap.size + 1) W1 W4) := HBX.out.trans (hb4.mono (by have := HBX.out.size; omega))
          have a4 := cell_up hb4 (show (W3.alloc (.cells #[.int .i64 s0, .int .u64 s1, .int .u64 s2] 66)).cell? ⟨W3.heap.size, 0, none⟩ = some (.int .i64 s0) by simp [go_sem])
          have b4 := cell_up hb4 (show (W3.alloc (.cells #[.int .i64 s0, .int .u64 s1, .int .u64 s2] 66)).cell? ⟨W3.heap.size, 1, none⟩ = some (.int .u64 s1) by simp [go_sem])
          have d4 := cell_up hb4 (show (W3.alloc (.cells #[.int .i64 s0, .int .u64 s1, .int .u64 s2] 66)).cell? ⟨W3.heap.size, 2, none⟩ = some (.int .u64 s2) by simp [go_sem])
          clear hb4
          go_wp2_with fail
          refine Calls.mono (HMN.out _) ?_
          rintro e W5 ⟨rfl, hb5⟩
          have HB5 : Hid (Below (W.heap.size + 1) W1 W5) := HB4.out.trans (hb5.mono (by have := HB4.out.size; omega))
          have a5 := cell_up hb5 a4
          have b5 := cell_up hb5 b4
          have d5 := cell_up hb5 d4
          clear hb5 a4 b4 d4
          have q5 := HQ.out _ HB5.out
          go_wp2_with fail
          refine Calls.mono (HNU.out _) ?_
          rintro e W6 ⟨rfl, hb6⟩
          have HB6 : Hid (Below (W.heap.size + 1) W1 W6) := HB5.out.trans (hb6.mono (by have := HB5.out.size; omega))
          clear hb6
          have HO1 : Hid (overB (judgeSum row ws) = overB S) := by show _ = _; rw [HES.out]
          have HH1 : Hid (holdsB (judgeSum row ws) num = decide (x3 ≤ 0)) := by show _ = _; rw [HES.out, HE2.out, HO0.out]; simp
          go_wp2
          go_ret2
          exact ⟨ret2_bool (HH1.out.trans (by first | rfl | simp [g1, g2] | simp [g1])) (HO1.out.trans (HO0.out.trans (by first | rfl | simp [g1, g2] | simp [g1]))), HB1.out.trans (HB6.out.mono (by omega))⟩
end Go.Proofs.Ytipbjoeekbgnbaa
