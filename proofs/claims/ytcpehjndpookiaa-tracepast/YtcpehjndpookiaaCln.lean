/- The contracts of slices.Clone of nodes and of terms: a row of its own. Conditions: what came in, no more than 2^40 of them. -/
import Derived.Test.YtcpehjndpookiaaBz1
import Derived.Test.YtcpehjndpookiaaNdIn
namespace Go.Proofs.Ytcpehjndpookiaa
open Go.RowKit
set_option linter.unusedVariables false
set_option maxRecDepth 100000

theorem tmC_len (x : Tm) : (tmC x).length = 2 := rfl
theorem tmC_one (x : Tm) : ∀ u ∈ tmC x, u.oneCell' = true := by
  intro u hu
  simp only [tmC, List.mem_cons, List.not_mem_nil, or_false] at hu
  rcases hu with rfl | rfl <;> rfl
theorem infoTerm : (Try.prog.info? 49).map (fun i => (i.zero, i.size, i.bytes)) = some (some (.agg #[.string ⟨#[]⟩, .int .i64 0]), 2, 24) := by kernel_rfl
theorem ndC_len (x : NdV) : (ndC x).length = 6 := rfl
theorem ndC_one (x : NdV) : ∀ u ∈ ndC x, u.oneCell' = true := by
  intro u hu
  simp only [ndC, List.mem_cons, List.not_mem_nil, or_false] at hu
  rcases hu with rfl | rfl | rfl | rfl | rfl | rfl <;> rfl
theorem infoNode : (Try.prog.info? 31).map (fun i => (i.zero, i.size, i.bytes)) = some (some (.agg #[.int .i64 0, .int .i64 0, .int .i64 0, .int .i64 0, .slice none 0 0, .int .i64 0]), 6, 64) := by kernel_rfl
theorem nil_Term (W : World) : (binOp .eql 29 (.slice none 0 0) (.slice none 0 0)).run Try.prog W = .ok (.bool true) W := by kernel_rfl
theorem some_Term (ad : Addr) (n c : Nat) (W : World) : (binOp .eql 29 (.slice (some ad) n c) (.slice none 0 0)).run Try.prog W = .ok (.bool false) W := by kernel_rfl
theorem none_Term (g : Nat) (ad : Addr) (c : Nat) (W : World) : (Builtin.append_ #[29, 29] 29 #[.slice (some ⟨g, 0, none⟩) 0 0, .slice (some ad) 0 c]).run Try.prog W = .ok (.slice (some ⟨g, 0, none⟩) 0 0) W := by kernel_rfl
set_option maxHeartbeats 1000000 in
theorem cloneTerm_any (a : Option Addr) (cap : Nat) (xs : List Tm) (W : World) (h : RowOf tmC 2 W a xs) (ha : a = none → cap = 0) (hb : xs.length ≤ 1099511627776) (hc : xs.length ≤ cap) :
    Calls Try.prog 27 #[.slice a xs.length cap] W fun e W' => ∃ v, e = .returned v ∧ Own tmC 49 2 W' W.heap.size v xs ∧ Below W.heap.size W W' := by
  cases a with
  | none =>
    have h0 : xs = [] := by
      cases xs with
      | nil => rfl
      | cons z zs => obtain ⟨b, off, e, _⟩ := h 0 (by simp); cases e
    subst h0
    obtain rfl := ha rfl
    have hnil := nil_Term
    go_enter Try.func27, Try.ntmps27
    go_wp2
    go_ret
    exact ⟨_, rfl, Own.nil _ _ _ _ _, Below.refl _ _⟩
  | some ad =>
    have hnil := some_Term ad
    obtain ⟨v', X, HR, HO⟩ : ∃ v' X, Hid ((Builtin.append_ #[29, 29] 29 #[.slice (some ⟨W.heap.size, 0, none⟩) 0 0, .slice (some ad) xs.length cap]).run Try.prog (W.alloc (.cells #[] 49)) = .ok v' X) ∧ Hid (Own tmC 49 2 X W.heap.size v' xs ∧ Below W.heap.size W X) := by
     rcases Nat.eq_zero_or_pos xs.length with h0 | h0
     · obtain rfl : xs = [] := List.eq_nil_of_length_eq_zero h0
       exact ⟨_, _, none_Term _ ad cap _, Own.lit0 _ _ _ W _ (Nat.le_refl _), (Below.refl _ _).alloc (Nat.le_refl _) _⟩
     obtain ⟨b, o, sp⟩ := ad
     obtain rfl : sp = none := by obtain ⟨b', o', e, _⟩ := h 0 h0; cases e; rfl
     obtain ⟨v', X, hr, ho, hg, _⟩ := Own.appendRow tmC_len tmC_one Try.underlying29 infoTerm rfl (by omega) (W.alloc (.cells #[] 49)) W.heap.size _ [] (Own.lit0 _ _ _ W _ (Nat.le_refl _)) (some ⟨b, o, none⟩) xs cap (fun e => by cases e)
       (fun i hi => by
        obtain ⟨b', o', e, hj⟩ := h i hi
        refine ⟨b', o', e, fun j hjj => ?_⟩
        have h1 := hj j hjj
        rw [List.getElem?_eq_getElem (by rw [tmC_len]; exact hjj)] at h1 ⊢
        rw [cell_alloc_lt _ _ _ _ (World.block_lt_of_cell? W _ h1)]; exact h1) (by unfold maxLen; simp; omega) (by simp; omega) (by simp)
     exact ⟨v', X, hr, by simpa using ho, ((Below.refl _ _).alloc (Nat.le_refl _) _).trans ((Mod.grown hg).belowOf (by simp) fun g hh => by simp [Value.ownBlock] at hh; omega)⟩
    clear h ha
    go_enter Try.func27, Try.ntmps27
    go_wp2_with (at_builtin; refine append_runO (by rfl) _ _ (by rfl) (by rfl) _ _ _ _ (by rfl) (by rfl) HR.out ?_)
    go_ret
    exact ⟨_, rfl, HO.out.1, HO.out.2⟩
theorem nil_Node (W : World) : (binOp .eql 22 (.slice none 0 0) (.slice none 0 0)).run Try.prog W = .ok (.bool true) W := by kernel_rfl
theorem some_Node (ad : Addr) (n c : Nat) (W : World) : (binOp .eql 22 (.slice (some ad) n c) (.slice none 0 0)).run Try.prog W = .ok (.bool false) W := by kernel_rfl
theorem none_Node (g : Nat) (ad : Addr) (c : Nat) (W : World) : (Builtin.append_ #[22, 22] 22 #[.slice (some ⟨g, 0, none⟩) 0 0, .slice (some ad) 0 c]).run Try.prog W = .ok (.slice (some ⟨g, 0, none⟩) 0 0) W := by kernel_rfl
end Go.Proofs.Ytcpehjndpookiaa
