/- KindsRange's walk. Conditions: what came in. -/
import Derived.Test.YtjnnjjajlafchaaKrR
namespace Go.Proofs.Ytjnnjjajlafchaa
open Go.RowKit
set_option linter.unusedVariables false
set_option maxRecDepth 100000

set_option maxHeartbeats 4000000 in
theorem kr_bad (nm : ByteArray) (c s : Int) (a : Option Addr) (ln cap : Nat) (pa : Option Addr) (pn pc : Nat) (na : Option Addr) (nn nc : Nat) (ra : Option Addr) (rn rc : Nat) (er : Int) (who : ByteArray) (W : World)
    (HN : Hid (Calls Try.prog 11 #[.agg #[.string nm, .int .i64 c, .int .i64 s, .slice a ln cap, .slice pa pn pc]] (W.alloc (.cells #[.string nm, .int .i64 c, .int .i64 s, .slice a ln cap, .slice pa pn pc] 42)) fun e W' => e = .returned (.tuple #[.pointer none, .int .i64 er, .string who]) ∧ Below (W.alloc (.cells #[.string nm, .int .i64 c, .int .i64 s, .slice a ln cap, .slice pa pn pc] 42)).heap.size (W.alloc (.cells #[.string nm, .int .i64 c, .int .i64 s, .slice a ln cap, .slice pa pn pc] 42)) W'))
    (k1 : (er == 0) = false) (k2 : (er != 0) = true)
    (HL : Hid (∀ X, Below W.heap.size W X → Calls Try.prog 20 #[.agg #[.string nm, .int .i64 c, .int .i64 s, .slice a ln cap, .slice pa pn pc]] X fun e W' => SomeBool e ∧ Below X.heap.size X W')) :
    Calls Try.prog 5 #[.agg #[.string nm, .int .i64 c, .int .i64 s, .slice a ln cap, .slice pa pn pc], .slice na nn nc, .slice ra rn rc] W fun e W' => e = .returned (.bool true) ∧ Below W.heap.size W W' := by
  have HAL : Hid (∀ X, Calls Try.prog 7 #[] X fun e W' => e = .returned (.bool true) ∧ Below X.heap.size X W') := fun X => alive_any X
  have HB0 : Hid (Below W.heap.size W (W.alloc (.cells #[.string nm, .int .i64 c, .int .i64 s, .slice a ln cap, .slice pa pn pc] 42))) := (Below.refl _ _).alloc (Nat.le_refl _) _
  go_enter Try.func5, Try.ntmps5
  go_wp2_with fail
  refine Calls.mono HN.out ?_
  rintro e W1 ⟨rfl, hb1⟩
  have HB1 : Hid (Below W.heap.size W W1) := HB0.out.trans (hb1.mono HB0.out.size)
  have e0 : W1.cell? ⟨W.heap.size, 0, none⟩ = some (.string nm) := by rw [hb1.cell (p := ⟨W.heap.size, 0, none⟩) (by simp)]; simp [go_sem]
  have e1 : W1.cell? ⟨W.heap.size, 1, none⟩ = some (.int .i64 c) := by rw [hb1.cell (p := ⟨W.heap.size, 1, none⟩) (by simp)]; simp [go_sem]
  have e2 : W1.cell? ⟨W.heap.size, 2, none⟩ = some (.int .i64 s) := by rw [hb1.cell (p := ⟨W.heap.size, 2, none⟩) (by simp)]; simp [go_sem]
  have e3 : W1.cell? ⟨W.heap.size, 3, none⟩ = some (.slice a ln cap) := by rw [hb1.cell (p := ⟨W.heap.size, 3, none⟩) (by simp)]; simp [go_sem]
  have e4 : W1.cell? ⟨W.heap.size, 4, none⟩ = some (.slice pa pn pc) := by rw [hb1.cell (p := ⟨W.heap.size, 4, none⟩) (by simp)]; simp [go_sem]
  clear hb1
  go_wp2_with fail
  refine Calls.mono (HL.out _ HB1.out) ?_
  rintro e W2 ⟨⟨b, rfl⟩, hb2⟩
  have HB2 : Hid (Below W.heap.size W W2) := HB1.out.trans (hb2.mono HB1.out.size)
  clear hb2
  cases b
  all_goals
    go_wp2_with fail
    refine Calls.mono (HAL.out _) ?_
    rintro e W9 ⟨rfl, hb9⟩
    go_wp2
    exact bodyPost_ret (v := .bool true) (by simp [results, Try.results5, go_sem]) rfl ⟨rfl, HB2.out.trans (hb9.mono HB2.out.size)⟩
def valI (l : List Sig) (at' : List Int) (i : Nat) : Int := if i < at'.length then min (max (at'.getD i 0) (l.getD i sig0).lo) (l.getD i sig0).hi else (l.getD i sig0).lo
theorem valI_in (l : List Sig) (at' : List Int) (i : Nat) (h : (l.getD i sig0).lo ≤ (l.getD i sig0).hi) : (l.getD i sig0).lo ≤ valI l at' i ∧ valI l at' i ≤ (l.getD i sig0).hi := by
  unfold valI; split <;> omega
def valsL (l : List Sig) (at' : List Int) : List Int := (List.range l.length).map (valI l at')
theorem valsL_len (l : List Sig) (at' : List Int) : (valsL l at').length = l.length := by simp [valsL]
theorem valsL_at (l : List Sig) (at' : List Int) (i : Nat) (hi : i < l.length) : (valsL l at').getD i 0 = valI l at' i := by
  unfold valsL; simp [List.getD_eq_getElem?_getD, hi]
theorem valsL_take (l : List Sig) (at' : List Int) (k : Nat) (hk : k < l.length) : (valsL l at').take (k + 1) = (valsL l at').take k ++ [valI l at' k] := by
  rw [List.take_succ_eq_append_getElem (by rw [valsL_len]; exact hk)]
  unfold valsL; simp
theorem names_take (l : List Sig) (k : Nat) (hk : k < l.length) : (l.map (·.name)).take (k + 1) = (l.map (·.name)).take k ++ [(l.getD k sig0).name] := by
  rw [List.take_succ_eq_append_getElem (by rw [List.length_map]; exact hk)]
  simp [List.getD_eq_getElem?_getD, hk]
theorem range_ok {l : List Sig} {n : List Nd} (h : (rangeR l n).2.2 = 0) : 0 < n.length ∧ (n.getD 0 nd0).terms.all (fun t => hasB l t.name) = true ∧ (n.getD 0 nd0).terms.length ≤ 16 ∧ (n.getD 0 nd0).terms.any (timesO l) = false ∧
    (rangeR l n).1 = sumLo l (n.getD 0 nd0).terms ∧ (rangeR l n).2.1 = sumHi l (n.getD 0 nd0).terms ∧ B64 (sumLo l (n.getD 0 nd0).terms) ∧ B64 (sumHi l (n.getD 0 nd0).terms) ∧ 0 < (n.getD 0 nd0).terms.length := by
  unfold rangeR at h ⊢
  by_cases h0 : checkE l n = 0
  · rw [if_neg (by simp [h0])] at h ⊢
    by_cases h2 : (n.getD 0 nd0).op = 2
    · rw [if_neg (not_not_intro h2)] at h ⊢
      obtain ⟨hv, hp⟩ := check_ok h0
      have hn := valid_head hv
      have hfa := fits_atom (valid_fits hv 0 hn) h2
      obtain ⟨q1, q2, q3, q4, q5⟩ := sumR_in h
      exact ⟨hn, head_ok h0 h2, hfa.2, q1, q2, q3, q4, q5, hfa.1⟩
    · rw [if_pos h2] at h; simp at h
  · rw [if_pos h0] at h; exact absurd h h0
/-- The sum that an atom's exact answer is of, and where it lies. -/
theorem sum_in {l : List Sig} {n : List Nd} (at' : List Int) (hs : SigsFit l) (h : (rangeR l n).2.2 = 0) :
    (rangeR l n).1 * 4294967296 ≤ sumA (fun s => lookN s (l.map (·.name)) (valsL l at')) (n.getD 0 nd0).terms ∧ sumA (fun s => lookN s (l.map (·.name)) (valsL l at')) (n.getD 0 nd0).terms ≤ (rangeR l n).2.1 * 4294967296 := by
  obtain ⟨q0, q1, q2, q3, q4, q5, q6, q7, q8⟩ := range_ok h
  rw [q4, q5]
  refine sums_within l _ _ (fun t ht => ?_) q3
  have hb : hasB l t.name = true := by simpa using List.all_eq_true.1 q1 t ht
  refine lookN_in t.name l _ (valsL_len l at') (fun i hi => ?_) hb
  rw [valsL_at l at' i hi]
  exact valI_in l at' i (hs _ (by rw [List.getD_eq_getElem?_getD, List.getElem?_eq_getElem hi]; exact List.getElem_mem hi)).1
theorem lookN_b64 (s : ByteArray) : ∀ (ns : List ByteArray) (vs : List Int), (∀ v ∈ vs, B64 v) → B64 (lookN s ns vs)
  | [], _, _ => by simp [lookN, B64]
  | n :: ns, vs, h => by
    unfold lookN
    split
    · cases vs with
      | nil => simp [B64]
      | cons v vs => exact h v (by simp)
    · exact lookN_b64 s ns vs.tail fun v hv => h v (List.mem_of_mem_tail hv)
theorem valsL_b64 {l : List Sig} (at' : List Int) (hs : SigsFit l) : ∀ v ∈ valsL l at', B64 v := by
  intro v hv
  unfold valsL at hv
  simp only [List.mem_map, List.mem_range] at hv
  obtain ⟨i, hi, rfl⟩ := hv
  have q := hs _ (by rw [List.getD_eq_getElem?_getD, List.getElem?_eq_getElem hi]; exact List.getElem_mem hi : l.getD i sig0 ∈ l)
  have := valI_in l at' i q.1
  obtain ⟨_, ⟨a1, a2⟩, ⟨a3, a4⟩⟩ := q
  exact ⟨by omega, by omega⟩
end Go.Proofs.Ytjnnjjajlafchaa
