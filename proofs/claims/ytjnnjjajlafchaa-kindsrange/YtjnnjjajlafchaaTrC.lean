/- The contracts of slices.Grow of nothing and slices.Concat, of nodes. Conditions: at most 2^40 nodes in all. -/
import Derived.Test.YtjnnjjajlafchaaTrA
import Derived.Lib.AppendZerosOnto
namespace Go.Proofs.Ytjnnjjajlafchaa
open Go.RowKit
set_option linter.unusedVariables false
set_option maxRecDepth 100000

theorem grow_run (n : Nat) (W : World) (h0 : 0 < n) (hn : n ≤ 1099511627776) :
    ∃ G Y, (∀ ty, (Builtin.append_ #[53, 3] ty #[.slice none 0 0, .int .i64 n]).run Try.prog W = .ok (.slice (some ⟨W.heap.size, 0, none⟩) n G) Y) ∧ n ≤ G ∧ G ≤ 9223372036854775807 ∧ Own ndC 67 6 Y W.heap.size (.slice (some ⟨W.heap.size, 0, none⟩) 0 G) [] ∧ Below W.heap.size W Y := by
  obtain ⟨i0, hi, hz0, hz1, hz2⟩ := info_parts infoNode
  have hold : (Builtin.firstCells i0.size 0 (.slice none 0 0)).run Try.prog W.drew = .ok (#[] : Array Value) W.drew := run_firstCells_none W.drew i0.size 0 0 0
  have hbig : n * i0.bytes ≤ 140737488355328 := by rw [hz2]; omega
  have hGn := grownCap_ge W n 0 67
  have hG := grownCap_le_maxLen W n 0 67 (by unfold maxLen; omega)
  have hr := fun ty => Lib.run_append_grow_zeros (P := Try.prog) W 53 3 ty 67 i0 _ .i64 .i64 Try.underlying53 Try.underlying3 hi hz0 none 0 0 [] hold n h0 (by rw [hz1]; omega) (by omega) (by omega) (by omega) (growslice_fits (by omega) (by rw [Nat.zero_add]; exact hbig))
  simp only [Nat.zero_add] at hr
  refine ⟨_, _, hr, hGn, by unfold maxLen at hG; omega, ⟨by simp [cellsL], .inr ⟨W.heap.size, _, _, rfl, Nat.le_refl _, heap_alloc_new W.drew _, Nat.zero_le _, hG, ?_, by simp [cellsL]⟩⟩, (Below.refl _ _).drew.alloc (Nat.le_refl _) _⟩
  simp only [Array.size_append, List.size_toArray, size_zeroCells]
  simp [Value.cells]
  omega
set_option maxHeartbeats 1000000 in
theorem grow_any (n : Nat) (W : World) (hn : n ≤ 1099511627776) :
    Calls Try.prog 70 #[.slice none 0 0, .int .i64 n] W fun e W' => ∃ a cap, e = .returned (.slice a 0 cap) ∧ Own ndC 67 6 W' W.heap.size (.slice a 0 cap) [] ∧ Below W.heap.size W W' := by
  have h1 : ¬ ((n : Int) < 0) := by omega
  have h2 : wrap64 ((0 : Int) - 0) = 0 := by unfold wrap64; omega
  have h3 : wrap64 ((n : Int) - 0) = n := by unfold wrap64; omega
  by_cases h0 : n = 0
  · subst h0
    go_enter Try.func70, Try.ntmps70
    go_wp2
    go_ret
    exact ⟨none, 0, rfl, Own.nil _ _ _ _ _, Below.refl _ _⟩
  · obtain ⟨G, Y, hr, hG1, hG2, hO, hB⟩ := grow_run n W (by omega) hn
    have HO : Hid (Own ndC 67 6 Y W.heap.size (.slice (some ⟨W.heap.size, 0, none⟩) 0 G) [] ∧ Below W.heap.size W Y) := ⟨hO, hB⟩
    have h4 : (n : Int) > 0 := by omega
    clear hO hB
    go_enter Try.func70, Try.ntmps70
    go_wp2_with (at_builtin; refine Lib.wpList_append_run _ rfl _ _ _ _ rfl _ _ rfl rfl _ _ (hr _) ?_)
    go_ret
    exact ⟨_, _, rfl, HO.out.1, HO.out.2⟩

/-- How many nodes, and which, lists say together. -/
def tot (L : List LsV) : Nat := (L.map fun y => y.ys.length).sum
def flat (L : List LsV) : List NdV := L.flatMap (·.ys)
theorem tot_append (A B : List LsV) : tot (A ++ B) = tot A + tot B := by unfold tot; simp
theorem flat_len (L : List LsV) : (flat L).length = tot L := by
  induction L with
  | nil => rfl
  | cons y L ih => unfold flat tot at *; simp [ih]
theorem take_getD {X : Type} (d : X) (L : List X) (k : Nat) (hk : k < L.length) : L.take (k + 1) = L.take k ++ [L.getD k d] := by
  rw [List.take_succ_eq_append_getElem hk]; simp [List.getD_eq_getElem?_getD, hk]
theorem tot_take (L : List LsV) (k : Nat) (hk : k < L.length) : tot (L.take (k + 1)) = tot (L.take k) + (L.getD k default).ys.length := by
  rw [take_getD default L k hk]; unfold tot; simp
theorem flat_take (L : List LsV) (k : Nat) (hk : k < L.length) : flat (L.take (k + 1)) = flat (L.take k) ++ (L.getD k default).ys := by
  rw [take_getD default L k hk]; unfold flat; simp
theorem tot_le (L : List LsV) (k : Nat) : tot (L.take k) ≤ tot L := by
  have := tot_append (L.take k) (L.drop k)
  rw [List.take_append_drop] at this; omega
set_option maxHeartbeats 4000000 in
theorem concat_any (a : Option Addr) (cap : Nat) (L : List LsV) (W : World) (h : LssAt W a cap L) (ht : tot L ≤ 1099511627776) :
    Calls Try.prog 51 #[.slice a L.length cap] W fun e W' => ∃ v, e = .returned v ∧ Own ndC 67 6 W' W.heap.size v (flat L) ∧ Below W.heap.size W W' := by
  have HL : Hid (LssAt W a cap L) := h
  have hl := h.few
  clear h
  go_enter Try.func51, Try.ntmps51
  go_wp2
  go_loopw [3, 11] (fun s i wr => ∃ k : Nat, k ≤ L.length ∧ i = .int .i64 k ∧ s = .int .i64 (tot (L.take k)) ∧ wr = W) (fun _ i _ => L.length - (intOf i).toNat)
  case atStart => exact ⟨0, Nat.zero_le _, rfl, rfl, rfl⟩
  case round =>
    obtain ⟨k, hk, rfl, rfl, hw⟩ := hrel
    subst wr
    by_cases hlt : k < L.length
    · obtain ⟨b, off, rfl, hc⟩ := HL.out.cell k hlt
      have e1 := tot_take L k hlt
      have e2 := tot_le L (k + 1)
      have HE : Hid (tot (L.take (k + 1)) = tot (L.take k) + (L.getD k default).ys.length) := e1
      have e3 : tot (L.take k) + (L.getD k default).ys.length ≤ 1099511627776 := by omega
      clear e1 e2
      generalize L.getD k default = y at *
      obtain ⟨ys, ya, yc⟩ := y
      simp only at hc e3 HE
      generalize ys.length = m at *
      generalize tot (L.take k) = q at *
      have hq : wrap64 ((q : Int) + (m : Int)) = ((q + m : Nat) : Int) := by unfold wrap64; omega
      have hnn : ¬ (((q + m : Nat) : Int) < 0) := by omega
      go_wp2
      go_roundw
      case rel => exact ⟨k + 1, by omega, by go_num, by rw [HE.out]; first | rfl | go_num, by first | trivial | rfl⟩
      case measure => simp [intOf]; omega
    · have hkk : k = L.length := by omega
      have hT : tot (L.take k) = tot L := by rw [hkk, List.take_length]
      rw [hT]
      clear hkk hT
      have HG := grow_any (tot L) W ht
      go_wp2_with fail
      refine Calls.mono HG ?_
      rintro e W1 ⟨a1, c1, rfl, ho, hb⟩
      have HB1 : Hid (Below W.heap.size W W1) := hb
      have HO : Hid (Own ndC 67 6 W1 W.heap.size (.slice a1 0 c1) []) := ho
      clear hb ho HG
      go_wp2
      go_loopw [6, 27] (fun v i wr => ∃ (k : Nat) (va : Option Addr) (vn vc : Nat), k ≤ L.length ∧ i = .int .i64 k ∧ v = .slice va vn vc ∧ Own ndC 67 6 wr W.heap.size (.slice va vn vc) (flat (L.take k)) ∧ Below W.heap.size W wr) (fun _ i _ => L.length - (intOf i).toNat)
      case atStart => exact ⟨0, a1, 0, c1, Nat.zero_le _, rfl, rfl, HO.out, HB1.out⟩
      case round =>
        obtain ⟨k, va, vn, vc, hk, rfl, rfl, ho, hb⟩ := hrel
        have HB : Hid (Below W.heap.size W wr) := hb
        have HO2 : Hid (Own ndC 67 6 wr W.heap.size (.slice va vn vc) (flat (L.take k))) := ho
        clear hb ho
        by_cases hlt : k < L.length
        · have HL2 := HL.out.below HB.out
          obtain ⟨b, off, rfl, hc⟩ := HL2.cell k hlt
          have hy := HL2.each _ (getD_mem default hlt)
          have e1 := tot_take L k hlt
          have e2 := tot_le L (k + 1)
          have HE : Hid (flat (L.take (k + 1)) = flat (L.take k) ++ (L.getD k default).ys) := flat_take L k hlt
          have hf : (flat (L.take k)).length = tot (L.take k) := flat_len _
          obtain ⟨v', X, hr, ho, hg, _⟩ := Own.appendRow ndC_len ndC_one Try.underlying53 infoNode rfl (by omega) wr W.heap.size (.slice va vn vc) (flat (L.take k)) HO2.out (L.getD k default).a (L.getD k default).ys (L.getD k default).cap hy.nil hy.row (by unfold maxLen; omega) (by omega) HB.out.size
          obtain ⟨va', vc', rfl, _⟩ := ho.sl ndC_len default
          generalize ((flat (L.take k)) ++ (L.getD k default).ys).length = vn' at *
          have HR : Hid ((Builtin.append_ #[53, 53] 53 #[.slice va vn vc, .slice (L.getD k default).a (L.getD k default).ys.length (L.getD k default).cap]).run Try.prog wr = .ok (.slice va' vn' vc') X) := hr
          have HN : Hid (Own ndC 67 6 X W.heap.size (.slice va' vn' vc') (flat (L.take (k + 1))) ∧ Below W.heap.size W X) := by
            refine ⟨by rw [HE.out]; exact ho, HB.out.trans ((Mod.grown hg).belowOf HB.out.size fun g hh => ?_)⟩
            exact (Own.lt HO2.out g (by simpa using hh)).1
          clear e1 e2 hf hr ho hg hy HL2 HO2
          generalize L.getD k default = y at *
          obtain ⟨ys, ya, yc⟩ := y
          simp only at hc HR
          generalize ys.length = m at *
          go_wp2_with (at_builtin; refine append_runO (by rfl) _ _ (by rfl) (by rfl) _ _ _ _ (by rfl) (by rfl) HR.out ?_)
          go_roundw
          case rel => exact ⟨k + 1, va', vn', vc', by omega, by go_num, rfl, HN.out.1, HN.out.2⟩
          case measure => simp [intOf]; omega
        · have hkk : k = L.length := by omega
          have HZ : Hid (Own ndC 67 6 wr W.heap.size (.slice va vn vc) (flat L)) := by have := HO2.out; rw [hkk, List.take_length] at this; exact this
          clear hkk HO2
          go_wp2
          go_ret
          exact ⟨_, rfl, HZ.out, HB.out⟩
end Go.Proofs.Ytjnnjjajlafchaa
