/- The contracts of slices.IndexFunc and ContainsFunc of nodes, of core's isBeyond, isOther, IsCore and InRange. Conditions: at most 2^40 nodes. -/
import Derived.Test.YtipbjoeekbgnbaaCoA
import Derived.Test.YtipbjoeekbgnbaaBz6
import Derived.Deep.RegionHeld3
namespace Go.Proofs.Ytipbjoeekbgnbaa
open Go.RowKit
set_option linter.unusedVariables false
set_option maxRecDepth 100000

def idxP (P : Nd → Bool) (l : List Nd) : Int := if l.any P then (l.findIdx P : Int) else -1
theorem idxP_at (P : Nd → Bool) (l : List Nd) (k : Nat) (hk : k < l.length) (h : P (l.getD k nd0) = true) : l.any P = true := by
  rw [List.any_eq_true]; exact ⟨_, getD_mem nd0 hk, h⟩
theorem idxP_none (P : Nd → Bool) (l : List Nd) (h : ∀ j, j < l.length → P (l.getD j nd0) = false) : l.any P = false := by
  rw [List.any_eq_false]
  intro x hx
  obtain ⟨i, hi, rfl⟩ := List.getElem_of_mem hx
  have := h i hi
  simpa [List.getD_eq_getElem?_getD, hi] using this
/-- A function of a node that answers P. -/
def AskedBy (W : World) (f : Nat) (P : Nd → Bool) (l : List Nd) : Prop := ∀ x ∈ l, ∀ (ta : Option Addr) (tc : Nat) (X : World), Below W.heap.size W X → TermRow X ta x.terms → Calls Try.prog f #[.agg #[.int .i64 x.op, .int .i64 x.n, .int .i64 x.fr, .int .i64 x.to, .slice ta x.terms.length tc, .int .i64 x.num]] X fun e W' => e = .returned (.bool (P x)) ∧ Below X.heap.size X W'
set_option maxHeartbeats 4000000 in
theorem indexFunc_beyond (P : Nd → Bool) (a : Option Addr) (cap : Nat) (l : List Nd) (W : World) (h : NodeRow W a l) (hl : l.length ≤ 4611686018427387904) (hf : AskedBy W 44 P l) :
    Calls Try.prog 52 #[.slice a l.length cap, .func (.func 44) #[] #[]] W fun e W' => (∃ z : Int, e = .returned (.int .i64 z) ∧ decide (0 ≤ z) = l.any P) ∧ Below W.heap.size W W' := by
  have HR : Hid (NodeRow W a l) := h
  have HF : Hid (AskedBy W 44 P l) := hf
  clear h hf
  go_enter Try.func52, Try.ntmps52
  go_wp2
  go_loopw [8] (fun i wr => ∃ k : Nat, k ≤ l.length ∧ i = .int .i64 k ∧ Below W.heap.size W wr ∧ ∀ j, j < k → P (l.getD j nd0) = false) (fun i _ => l.length - (intOf i).toNat)
  case atStart => exact ⟨0, Nat.zero_le _, rfl, Below.refl _ _, fun j hj => by omega⟩
  case round =>
    obtain ⟨k, hk, rfl, hb, hj⟩ := hrel
    have HB : Hid (Below W.heap.size W wr) := hb
    have HJ : Hid (∀ j, j < k → P (l.getD j nd0) = false) := hj
    clear hb hj
    by_cases hlt : k < l.length
    · obtain ⟨b, off, rfl, n0, n1, n2, n3, ⟨ta, tc, n4, ht⟩, n5⟩ := (HR.out.below HB.out) k hlt
      have hc := HF.out _ (getD_mem nd0 hlt) ta tc wr HB.out ht
      have HT : Hid (P (l.getD k nd0) = true → l.any P = true) := idxP_at P l k hlt
      have HN : Hid (P (l.getD k nd0) = false → ∀ j, j < k + 1 → P (l.getD j nd0) = false) := fun q j hj => by
        rcases Nat.lt_succ_iff_lt_or_eq.1 hj with z | z
        · exact HJ.out j z
        · rw [z]; exact q
      clear ht
      generalize P (l.getD k nd0) = r at *
      generalize l.getD k nd0 = x at *
      obtain ⟨op, xn, fr, to, ts, num⟩ := x
      simp only at n0 n1 n2 n3 n4 n5 hc
      generalize ts.length = tl at *
      cases r with
      | true =>
        have HA : Hid (l.any P = true) := HT.out rfl
        go_wp2_with fail
        refine Calls.mono hc ?_
        rintro e W2 ⟨rfl, hb2⟩
        have HB2 : Hid (Below W.heap.size W W2) := HB.out.trans (hb2.mono HB.out.size)
        clear hb2 hc
        go_wp2
        go_ret
        exact ⟨⟨k, rfl, by rw [HA.out]; simp⟩, HB2.out⟩
      | false =>
        have HA : Hid (∀ j, j < k + 1 → P (l.getD j nd0) = false) := HN.out rfl
        go_wp2_with fail
        refine Calls.mono hc ?_
        rintro e W2 ⟨rfl, hb2⟩
        have HB2 : Hid (Below W.heap.size W W2) := HB.out.trans (hb2.mono HB.out.size)
        clear hb2 hc
        go_wp2
        go_roundw
        case rel => exact ⟨k + 1, by omega, by go_num, HB2.out, HA.out⟩
        case measure => simp [intOf]; omega
    · have hkk : k = l.length := by omega
      have HA : Hid (l.any P = false) := idxP_none P l (by rw [← hkk]; exact HJ.out)
      clear hkk
      go_wp2
      go_ret
      exact ⟨⟨-1, rfl, by rw [HA.out]; rfl⟩, HB.out⟩
set_option maxHeartbeats 1000000 in
theorem containsFunc_beyond (P : Nd → Bool) (a : Option Addr) (cap : Nat) (l : List Nd) (W : World) (h : NodeRow W a l) (hl : l.length ≤ 4611686018427387904) (hf : AskedBy W 44 P l) :
    Calls Try.prog 42 #[.slice a l.length cap, .func (.func 44) #[] #[]] W fun e W' => e = .returned (.bool (l.any P)) ∧ Below W.heap.size W W' := by
  have HC := indexFunc_beyond P a cap l W h hl hf
  clear h hf
  generalize l.any P = r at *
  go_enter Try.func42, Try.ntmps42
  go_wp2_with fail
  refine Calls.mono HC ?_
  rintro e W2 ⟨⟨z, rfl, hz⟩, hb⟩
  have HZ : Hid (decide (0 ≤ z) = r) := hz
  clear hz HC
  go_wp2
  go_ret
  exact ⟨ret_bool HZ.out, hb⟩
set_option maxHeartbeats 4000000 in
theorem indexFunc_other (P : Nd → Bool) (a : Option Addr) (cap : Nat) (l : List Nd) (W : World) (h : NodeRow W a l) (hl : l.length ≤ 4611686018427387904) (hf : AskedBy W 43 P l) :
    Calls Try.prog 52 #[.slice a l.length cap, .func (.func 43) #[] #[]] W fun e W' => (∃ z : Int, e = .returned (.int .i64 z) ∧ decide (0 ≤ z) = l.any P) ∧ Below W.heap.size W W' := by
  have HR : Hid (NodeRow W a l) := h
  have HF : Hid (AskedBy W 43 P l) := hf
  clear h hf
  go_enter Try.func52, Try.ntmps52
  go_wp2
  go_loopw [8] (fun i wr => ∃ k : Nat, k ≤ l.length ∧ i = .int .i64 k ∧ Below W.heap.size W wr ∧ ∀ j, j < k → P (l.getD j nd0) = false) (fun i _ => l.length - (intOf i).toNat)
  case atStart => exact ⟨0, Nat.zero_le _, rfl, Below.refl _ _, fun j hj => by omega⟩
  case round =>
    obtain ⟨k, hk, rfl, hb, hj⟩ := hrel
    have HB : Hid (Below W.heap.size W wr) := hb
    have HJ : Hid (∀ j, j < k → P (l.getD j nd0) = false) := hj
    clear hb hj
    by_cases hlt : k < l.length
    · obtain ⟨b, off, rfl, n0, n1, n2, n3, ⟨ta, tc, n4, ht⟩, n5⟩ := (HR.out.below HB.out) k hlt
      have hc := HF.out _ (getD_mem nd0 hlt) ta tc wr HB.out ht
      have HT : Hid (P (l.getD k nd0) = true → l.any P = true) := idxP_at P l k hlt
      have HN : Hid (P (l.getD k nd0) = false → ∀ j, j < k + 1 → P (l.getD j nd0) = false) := fun q j hj => by
        rcases Nat.lt_succ_iff_lt_or_eq.1 hj with z | z
        · exact HJ.out j z
        · rw [z]; exact q
      clear ht
      generalize P (l.getD k nd0) = r at *
      generalize l.getD k nd0 = x at *
      obtain ⟨op, xn, fr, to, ts, num⟩ := x
      simp only at n0 n1 n2 n3 n4 n5 hc
      generalize ts.length = tl at *
      cases r with
      | true =>
        have HA : Hid (l.any P = true) := HT.out rfl
        go_wp2_with fail
        refine Calls.mono hc ?_
        rintro e W2 ⟨rfl, hb2⟩
        have HB2 : Hid (Below W.heap.size W W2) := HB.out.trans (hb2.mono HB.out.size)
        clear hb2 hc
        go_wp2
        go_ret
        exact ⟨⟨k, rfl, by rw [HA.out]; simp⟩, HB2.out⟩
      | false =>
        have HA : Hid (∀ j, j < k + 1 → P (l.getD j nd0) = false) := HN.out rfl
        go_wp2_with fail
        refine Calls.mono hc ?_
        rintro e W2 ⟨rfl, hb2⟩
        have HB2 : Hid (Below W.heap.size W W2) := HB.out.trans (hb2.mono HB.out.size)
        clear hb2 hc
        go_wp2
        go_roundw
        case rel => exact ⟨k + 1, by omega, by go_num, HB2.out, HA.out⟩
        case measure => simp [intOf]; omega
    · have hkk : k = l.length := by omega
      have HA : Hid (l.any P = false) := idxP_none P l (by rw [← hkk]; exact HJ.out)
      clear hkk
      go_wp2
      go_ret
      exact ⟨⟨-1, rfl, by rw [HA.out]; rfl⟩, HB.out⟩
set_option maxHeartbeats 1000000 in
theorem containsFunc_other (P : Nd → Bool) (a : Option Addr) (cap : Nat) (l : List Nd) (W : World) (h : NodeRow W a l) (hl : l.length ≤ 4611686018427387904) (hf : AskedBy W 43 P l) :
    Calls Try.prog 42 #[.slice a l.length cap, .func (.func 43) #[] #[]] W fun e W' => e = .returned (.bool (l.any P)) ∧ Below W.heap.size W W' := by
  have HC := indexFunc_other P a cap l W h hl hf
  clear h hf
  generalize l.any P = r at *
  go_enter Try.func42, Try.ntmps42
  go_wp2_with fail
  refine Calls.mono HC ?_
  rintro e W2 ⟨⟨z, rfl, hz⟩, hb⟩
  have HZ : Hid (decide (0 ≤ z) = r) := hz
  clear hz HC
  go_wp2
  go_ret
  exact ⟨ret_bool HZ.out, hb⟩
def beyondB (x : Nd) : Bool := neverB x.fr x.to || decide (1000 < x.fr) || decide (1000 < x.to)
set_option maxHeartbeats 2000000 in
theorem beyond_any (x : Nd) (ta : Option Addr) (tl tc : Nat) (W : World) : Calls Try.prog 44 #[.agg #[.int .i64 x.op, .int .i64 x.n, .int .i64 x.fr, .int .i64 x.to, .slice ta tl tc, .int .i64 x.num]] W fun e W' => e = .returned (.bool (beyondB x)) ∧ Below W.heap.size W W' := by
  obtain ⟨op, n, fr, to, ts, num⟩ := x
  have HB : Hid (Below W.heap.size W (W.alloc (.cells #[.int .i64 op, .int .i64 n, .int .i64 fr, .int .i64 to, .slice ta tl tc, .int .i64 num] 24))) := (Below.refl _ _).alloc (Nat.le_refl _) _
  have HE : Hid (beyondB ⟨op, n, fr, to, ts, num⟩ = (neverB fr to || decide (1000 < fr) || decide (1000 < to))) := rfl
  have HN : Hid (∀ X, Calls Try.prog 53 #[.int .i64 fr, .int .i64 to] X fun e W' => e = .returned (.bool (neverB fr to)) ∧ W' = X) := fun X => never_any fr to X
  simp only
  generalize neverB fr to = nb at *
  cases nb with
  | true =>
    go_enter Try.func44, Try.ntmps44
    go_wp2_with fail
    refine Calls.mono (HN.out _) ?_
    rintro e W2 ⟨rfl, hw⟩
    subst W2
    go_wp2
    go_ret
    exact ⟨ret_bool (by rw [HE.out]; simp), HB.out⟩
  | false =>
    by_cases h1 : 1000 < fr
    · go_enter Try.func44, Try.ntmps44
      go_wp2_with fail
      refine Calls.mono (HN.out _) ?_
      rintro e W2 ⟨rfl, hw⟩
      subst W2
      go_wp2
      go_ret
      exact ⟨ret_bool (by rw [HE.out]; simp [h1]), HB.out⟩
    · go_enter Try.func44, Try.ntmps44
      go_wp2_with fail
      refine Calls.mono (HN.out _) ?_
      rintro e W2 ⟨rfl, hw⟩
      subst W2
      go_wp2
      go_ret
      exact ⟨ret_bool (by rw [HE.out]; simp), HB.out⟩
def otherB (x : Nd) : Bool := if x.op = 0 ∨ x.op = 1 ∨ x.op = 2 ∨ x.op = 3 ∨ x.op = 5 ∨ x.op = 7 ∨ x.op = 10 then !fitsB x || neverB x.fr x.to else true
set_option maxHeartbeats 4000000 in
theorem other_any (x : Nd) (ta : Option Addr) (tc : Nat) (W : World) (h : TermRow W ta x.terms) (hf : NamesFit x.terms) (hl : x.terms.length ≤ 9223372036854775807) : Calls Try.prog 43 #[.agg #[.int .i64 x.op, .int .i64 x.n, .int .i64 x.fr, .int .i64 x.to, .slice ta x.terms.length tc, .int .i64 x.num]] W fun e W' => e = .returned (.bool (otherB x)) ∧ Below W.heap.size W W' := by
  have HF : Hid (∀ X, Below W.heap.size W X → Calls Try.prog 50 #[.agg #[.int .i64 x.op, .int .i64 x.n, .int .i64 x.fr, .int .i64 x.to, .slice ta x.terms.length tc, .int .i64 x.num]] X fun e w' => e = .returned (.bool (fitsB x)) ∧ Below X.heap.size X w') := fun X hX => fits_any x ta tc X (h.below hX) hf hl
  have HN : Hid (∀ X, Calls Try.prog 53 #[.int .i64 x.fr, .int .i64 x.to] X fun e W' => e = .returned (.bool (neverB x.fr x.to)) ∧ W' = X) := fun X => never_any x.fr x.to X
  by_cases hop : x.op = 0 ∨ x.op = 1 ∨ x.op = 2 ∨ x.op = 3 ∨ x.op = 5 ∨ x.op = 7 ∨ x.op = 10
  · have HE : Hid (otherB x = (!fitsB x || neverB x.fr x.to)) := by simp only [Hid, otherB]; rw [if_pos hop]
    clear h hf
    obtain ⟨op, n, fr, to, ts, num⟩ := x
    have HB : Hid (Below W.heap.size W (W.alloc (.cells #[.int .i64 op, .int .i64 n, .int .i64 fr, .int .i64 to, .slice ta ts.length tc, .int .i64 num] 24))) := (Below.refl _ _).alloc (Nat.le_refl _) _
    have HCELL : Hid (∀ X, Below (W.alloc (.cells #[.int .i64 op, .int .i64 n, .int .i64 fr, .int .i64 to, .slice ta ts.length tc, .int .i64 num] 24)).heap.size (W.alloc (.cells #[.int .i64 op, .int .i64 n, .int .i64 fr, .int .i64 to, .slice ta ts.length tc, .int .i64 num] 24)) X → X.cell? ⟨W.heap.size, 2, none⟩ = some (.int .i64 fr) ∧ X.cell? ⟨W.heap.size, 3, none⟩ = some (.int .i64 to)) := fun X hX => ⟨cell_up hX (by simp [go_sem]), cell_up hX (by simp [go_sem])⟩
    simp only at hop HF HN
    generalize fitsB ⟨op, n, fr, to, ts, num⟩ = fb at *
    generalize neverB fr to = nb at *
    generalize otherB ⟨op, n, fr, to, ts, num⟩ = ob at *
    generalize ts.length = tl at *
    rcases hop with rfl | rfl | rfl | rfl | rfl | rfl | rfl
    all_goals
      cases fb with
      | false =>
        go_enter Try.func43, Try.ntmps43
        go_wp2_with fail
        refine Calls.mono (HF.out _ HB.out) ?_
        rintro e W2 ⟨rfl, hb⟩
        go_wp2
        go_ret
        exact ⟨ret_bool (by rw [HE.out]; rfl), HB.out.trans (hb.mono HB.out.size)⟩
      | true =>
        go_enter Try.func43, Try.ntmps43
        go_wp2_with fail
        refine Calls.mono (HF.out _ HB.out) ?_
        rintro e W2 ⟨rfl, hb⟩
        obtain ⟨c2, c3⟩ := HCELL.out W2 hb
        have HB2 : Hid (Below W.heap.size W W2) := HB.out.trans (hb.mono HB.out.size)
        clear hb
        go_wp2_with fail
        refine Calls.mono (HN.out _) ?_
        rintro e W3 ⟨rfl, hw⟩
        subst W3
        go_wp2
        go_ret
        exact ⟨ret_bool (by rw [HE.out]; simp), HB2.out⟩
  · have HE : Hid (otherB x = true) := by simp only [Hid, otherB]; rw [if_neg hop]
    clear h hf
    obtain ⟨op, n, fr, to, ts, num⟩ := x
    have HB : Hid (Below W.heap.size W (W.alloc (.cells #[.int .i64 op, .int .i64 n, .int .i64 fr, .int .i64 to, .slice ta ts.length tc, .int .i64 num] 24))) := (Below.refl _ _).alloc (Nat.le_refl _) _
    simp only at hop
    have k0 : (op == 0) = false := by rw [beq_eq_false_iff_ne]; omega
    have k1 : (op == 1) = false := by rw [beq_eq_false_iff_ne]; omega
    have k2 : (op == 2) = false := by rw [beq_eq_false_iff_ne]; omega
    have k3 : (op == 3) = false := by rw [beq_eq_false_iff_ne]; omega
    have k5 : (op == 5) = false := by rw [beq_eq_false_iff_ne]; omega
    have k7 : (op == 7) = false := by rw [beq_eq_false_iff_ne]; omega
    have k10 : (op == 10) = false := by rw [beq_eq_false_iff_ne]; omega
    clear hop HF HN
    go_enter Try.func43, Try.ntmps43
    go_wp2
    go_ret
    exact ⟨ret_bool HE.out.symm, HB.out⟩
def isCoreB (l : List Nd) : Bool := wholeB l && !(l.any otherB)
set_option maxHeartbeats 1000000 in
theorem isCoreS_any (a : Option Addr) (cap : Nat) (l : List Nd) (W : World) (h : NodeRow W a l) (hl : l.length ≤ 1099511627776) (hg : ∀ x ∈ l, NamesFit x.terms ∧ x.terms.length ≤ 9223372036854775807) :
    Calls Try.prog 31 #[.slice a l.length cap] W fun e W' => e = .returned (.bool (isCoreB l)) ∧ Below W.heap.size W W' := by
  have hw := whole_any a cap l W h hl
  have HC : Hid (∀ X, Below W.heap.size W X → Calls Try.prog 42 #[.slice a l.length cap, .func (.func 43) #[] #[]] X fun e W' => e = .returned (.bool (l.any otherB)) ∧ Below X.heap.size X W') := fun X hX => containsFunc_other otherB a cap l X (h.below hX) (by omega) fun x hx ta tc Y hY ht => other_any x ta tc Y ht (hg x hx).1 (hg x hx).2
  have HE : Hid (isCoreB l = (wholeB l && !(l.any otherB))) := rfl
  clear h hg
  generalize wholeB l = wb at *
  generalize l.any otherB = ob at *
  cases wb with
  | false =>
    go_enter Try.func31, Try.ntmps31
    go_wp2_with fail
    refine Calls.mono hw ?_
    rintro e W2 ⟨rfl, hb⟩
    go_wp2
    go_ret
    exact ⟨ret_bool (by rw [HE.out]; rfl), hb⟩
  | true =>
    go_enter Try.func31, Try.ntmps31
    go_wp2_with fail
    refine Calls.mono hw ?_
    rintro e W2 ⟨rfl, hb⟩
    have HB : Hid (Below W.heap.size W W2) := hb
    clear hb hw
    go_wp2_with fail
    refine Calls.mono (HC.out _ HB.out) ?_
    rintro e W3 ⟨rfl, hb⟩
    go_wp2
    go_ret
    exact ⟨ret_bool (by rw [HE.out]; simp), HB.out.trans (hb.mono HB.out.size)⟩
set_option maxHeartbeats 1000000 in
theorem inRange_any (a : Option Addr) (cap : Nat) (l : List Nd) (W : World) (h : NodeRow W a l) (hl : l.length ≤ 4611686018427387904) :
    Calls Try.prog 32 #[.slice a l.length cap] W fun e W' => e = .returned (.bool (!(l.any beyondB))) ∧ Below W.heap.size W W' := by
  have HC := containsFunc_beyond beyondB a cap l W h hl fun x hx ta tc Y hY ht => beyond_any x ta x.terms.length tc Y
  clear h
  generalize l.any beyondB = r at *
  go_enter Try.func32, Try.ntmps32
  go_wp2_with fail
  refine Calls.mono HC ?_
  rintro e W2 ⟨rfl, hb⟩
  cases r with
  | true =>
    go_wp2
    go_ret
    exact ⟨rfl, hb⟩
  | false =>
    go_wp2
    go_ret
    exact ⟨rfl, hb⟩
end Go.Proofs.Ytipbjoeekbgnbaa
