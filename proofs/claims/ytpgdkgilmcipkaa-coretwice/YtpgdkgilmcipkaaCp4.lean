/- The contracts of slices.IndexFunc and ContainsFunc of nodes, of core's isBeyond, isOther, Norm, IsCore. Conditions: names of at most 2^40 bytes. picketlaw8's alive: what it lays. Conditions: none. picketlaw8's alive: its walk. Conditions: none. Nodes that came in, with where their terms lie. Conditions: there. What core's laws have in common: core formulas that are true or false, trees that are light, Same. Conditions: there. -/
import Derived.Test.YtpgdkgilmcipkaaCp3
import Derived.Test.YtpgdkgilmcipkaaTrA
import Derived.Test.YtpgdkgilmcipkaaKqA
namespace Go.Proofs.Ytpgdkgilmcipkaa
open Go.RowKit Go.Maps Go.ChangeShapes
set_option linter.unusedVariables false
set_option maxRecDepth 100000

def idxP (P : Nd → Bool) (l : List Nd) : Int := if l.any P then (l.findIdx P : Int) else -1
theorem idxP_at (P : Nd → Bool) (l : List Nd) (k : Nat) (hk : k < l.length) (h : P (l.getD k nd0) = true) : l.any P = true := by
  rw [List.any_eq_true]; exact ⟨_, getD_mem nd0 hk, h⟩
theorem idxP_none (P : Nd → Bool) (l : List Nd) (h : ∀ j, j < l.length → P (l.getD j nd0) = false) : l.any P = false := by
  rw [List.any_eq_false]
  intro x hx
  obtain ⟨i, hi, rfl⟩ := List.getElem_of_mem hx
  have := h i hi
  simpa [List.getD_eq_getElem?_getD, hi] using this
/-- A function of a node that answers P. -/
def AskedBy (W : World) (f : Nat) (P : Nd → Bool) (l : List Nd) : Prop := ∀ x ∈ l, ∀ (ta : Option Addr) (tc : Nat) (X : World), Below W.heap.size W X → TermRow X ta x.terms → Calls Try.prog f #[.agg #[.int .i64 x.op, .int .i64 x.n, .int .i64 x.fr, .int .i64 x.to, .slice ta x.terms.length tc, .int .i64 x.num]] X fun e W' => e = .returned (.bool (P x)) ∧ Below X.heap.size X W'
set_option maxHeartbeats 4000000 in
theorem indexFunc_beyond (P : Nd → Bool) (a : Option Addr) (cap : Nat) (l : List Nd) (W : World) (h : NodeRow W a l) (hl : l.length ≤ 4611686018427387904) (hf : AskedBy W 45 P l) :
    Calls Try.prog 61 #[.slice a l.length cap, .func (.func 45) #[] #[]] W fun e W' => (∃ z : Int, e = .returned (.int .i64 z) ∧ decide (0 ≤ z) = l.any P) ∧ Below W.heap.size W W' := by
  have HR : Hid (NodeRow W a l) := h
  have HF : Hid (AskedBy W 45 P l) := hf
  clear h hf
  go_enter Try.func61, Try.ntmps61
  go_wp2
  go_loopw [8] (fun i wr => ∃ k : Nat, k ≤ l.length ∧ i = .int .i64 k ∧ Below W.heap.size W wr ∧ ∀ j, j < k → P (l.getD j nd0) = false) (fun i _ => l.length - (intOf i).toNat)
  case atStart => exact ⟨0, Nat.zero_le _, rfl, Below.refl _ _, fun j hj => by omega⟩
  case round =>
    obtain ⟨k, hk, rfl, hb, hj⟩ := hrel
    have HB : Hid (Below W.heap.size W wr) := hb
    have HJ : Hid (∀ j, j < k → P (l.getD j nd0) = false) := hj
    clear hb hj
    by_cases hlt : k < l.length
    · obtain ⟨b, off, rfl, n0, n1, n2, n3, ⟨ta, tc, n4, ht⟩, n5⟩ := (HR.out.below HB.out) k hlt
      have hc := HF.out _ (getD_mem nd0 hlt) ta tc wr HB.out ht
      have HT : Hid (P (l.getD k nd0) = true → l.any P = true) := idxP_at P l k hlt
      have HN : Hid (P (l.getD k nd0) = false → ∀ j, j < k + 1 → P (l.getD j nd0) = false) := fun q j hj => by
        rcases Nat.lt_succ_iff_lt_or_eq.1 hj with z | z
        · exact HJ.out j z
        · rw [z]; exact q
      clear ht
      generalize P (l.getD k nd0) = r at *
      generalize l.getD k nd0 = x at *
      obtain ⟨op, xn, fr, to, ts, num⟩ := x
      simp only at n0 n1 n2 n3 n4 n5 hc
      generalize ts.length = tl at *
      cases r with
      | true =>
        have HA : Hid (l.any P = true) := HT.out rfl
        go_wp2_with fail
        refine Calls.mono hc ?_
        rintro e W2 ⟨rfl, hb2⟩
        have HB2 : Hid (Below W.heap.size W W2) := HB.out.trans (hb2.mono HB.out.size)
        clear hb2 hc
        go_wp2
        go_ret
        exact ⟨⟨k, rfl, by rw [HA.out]; simp⟩, HB2.out⟩
      | false =>
        have HA : Hid (∀ j, j < k + 1 → P (l.getD j nd0) = false) := HN.out rfl
        go_wp2_with fail
        refine Calls.mono hc ?_
        rintro e W2 ⟨rfl, hb2⟩
        have HB2 : Hid (Below W.heap.size W W2) := HB.out.trans (hb2.mono HB.out.size)
        clear hb2 hc
        go_wp2
        go_roundw
        case rel => exact ⟨k + 1, by omega, by go_num, HB2.out, HA.out⟩
        case measure => simp [intOf]; omega
    · have hkk : k = l.length := by omega
      have HA : Hid (l.any P = false) := idxP_none P l (by rw [← hkk]; exact HJ.out)
      clear hkk
      go_wp2
      go_ret
      exact ⟨⟨-1, rfl, by rw [HA.out]; rfl⟩, HB.out⟩
set_option maxHeartbeats 1000000 in
theorem containsFunc_beyond (P : Nd → Bool) (a : Option Addr) (cap : Nat) (l : List Nd) (W : World) (h : NodeRow W a l) (hl : l.length ≤ 4611686018427387904) (hf : AskedBy W 45 P l) :
    Calls Try.prog 33 #[.slice a l.length cap, .func (.func 45) #[] #[]] W fun e W' => e = .returned (.bool (l.any P)) ∧ Below W.heap.size W W' := by
  have HC := indexFunc_beyond P a cap l W h hl hf
  clear h hf
  generalize l.any P = r at *
  go_enter Try.func33, Try.ntmps33
  go_wp2_with fail
  refine Calls.mono HC ?_
  rintro e W2 ⟨⟨z, rfl, hz⟩, hb⟩
  have HZ : Hid (decide (0 ≤ z) = r) := hz
  clear hz HC
  go_wp2
  go_ret
  exact ⟨ret_bool HZ.out, hb⟩
set_option maxHeartbeats 4000000 in
theorem indexFunc_other (P : Nd → Bool) (a : Option Addr) (cap : Nat) (l : List Nd) (W : World) (h : NodeRow W a l) (hl : l.length ≤ 4611686018427387904) (hf : AskedBy W 34 P l) :
    Calls Try.prog 61 #[.slice a l.length cap, .func (.func 34) #[] #[]] W fun e W' => (∃ z : Int, e = .returned (.int .i64 z) ∧ decide (0 ≤ z) = l.any P) ∧ Below W.heap.size W W' := by
  have HR : Hid (NodeRow W a l) := h
  have HF : Hid (AskedBy W 34 P l) := hf
  clear h hf
  go_enter Try.func61, Try.ntmps61
  go_wp2
  go_loopw [8] (fun i wr => ∃ k : Nat, k ≤ l.length ∧ i = .int .i64 k ∧ Below W.heap.size W wr ∧ ∀ j, j < k → P (l.getD j nd0) = false) (fun i _ => l.length - (intOf i).toNat)
  case atStart => exact ⟨0, Nat.zero_le _, rfl, Below.refl _ _, fun j hj => by omega⟩
  case round =>
    obtain ⟨k, hk, rfl, hb, hj⟩ := hrel
    have HB : Hid (Below W.heap.size W wr) := hb
    have HJ : Hid (∀ j, j < k → P (l.getD j nd0) = false) := hj
    clear hb hj
    by_cases hlt : k < l.length
    · obtain ⟨b, off, rfl, n0, n1, n2, n3, ⟨ta, tc, n4, ht⟩, n5⟩ := (HR.out.below HB.out) k hlt
      have hc := HF.out _ (getD_mem nd0 hlt) ta tc wr HB.out ht
      have HT : Hid (P (l.getD k nd0) = true → l.any P = true) := idxP_at P l k hlt
      have HN : Hid (P (l.getD k nd0) = false → ∀ j, j < k + 1 → P (l.getD j nd0) = false) := fun q j hj => by
        rcases Nat.lt_succ_iff_lt_or_eq.1 hj with z | z
        · exact HJ.out j z
        · rw [z]; exact q
      clear ht
      generalize P (l.getD k nd0) = r at *
      generalize l.getD k nd0 = x at *
      obtain ⟨op, xn, fr, to, ts, num⟩ := x
      simp only at n0 n1 n2 n3 n4 n5 hc
      generalize ts.length = tl at *
      cases r with
      | true =>
        have HA : Hid (l.any P = true) := HT.out rfl
        go_wp2_with fail
        refine Calls.mono hc ?_
        rintro e W2 ⟨rfl, hb2⟩
        have HB2 : Hid (Below W.heap.size W W2) := HB.out.trans (hb2.mono HB.out.size)
        clear hb2 hc
        go_wp2
        go_ret
        exact ⟨⟨k, rfl, by rw [HA.out]; simp⟩, HB2.out⟩
      | false =>
        have HA : Hid (∀ j, j < k + 1 → P (l.getD j nd0) = false) := HN.out rfl
        go_wp2_with fail
        refine Calls.mono hc ?_
        rintro e W2 ⟨rfl, hb2⟩
        have HB2 : Hid (Below W.heap.size W W2) := HB.out.trans (hb2.mono HB.out.size)
        clear hb2 hc
        go_wp2
        go_roundw
        case rel => exact ⟨k + 1, by omega, by go_num, HB2.out, HA.out⟩
        case measure => simp [intOf]; omega
    · have hkk : k = l.length := by omega
      have HA : Hid (l.any P = false) := idxP_none P l (by rw [← hkk]; exact HJ.out)
      clear hkk
      go_wp2
      go_ret
      exact ⟨⟨-1, rfl, by rw [HA.out]; rfl⟩, HB.out⟩
set_option maxHeartbeats 1000000 in
theorem containsFunc_other (P : Nd → Bool) (a : Option Addr) (cap : Nat) (l : List Nd) (W : World) (h : NodeRow W a l) (hl : l.length ≤ 4611686018427387904) (hf : AskedBy W 34 P l) :
    Calls Try.prog 33 #[.slice a l.length cap, .func (.func 34) #[] #[]] W fun e W' => e = .returned (.bool (l.any P)) ∧ Below W.heap.size W W' := by
  have HC := indexFunc_other P a cap l W h hl hf
  clear h hf
  generalize l.any P = r at *
  go_enter Try.func33, Try.ntmps33
  go_wp2_with fail
  refine Calls.mono HC ?_
  rintro e W2 ⟨⟨z, rfl, hz⟩, hb⟩
  have HZ : Hid (decide (0 ≤ z) = r) := hz
  clear hz HC
  go_wp2
  go_ret
  exact ⟨ret_bool HZ.out, hb⟩
def beyondB (x : Nd) : Bool := neverB x.fr x.to || decide (1000 < x.fr) || decide (1000 < x.to)
set_option maxHeartbeats 2000000 in
theorem beyond_any (x : Nd) (ta : Option Addr) (tl tc : Nat) (W : World) : Calls Try.prog 45 #[.agg #[.int .i64 x.op, .int .i64 x.n, .int .i64 x.fr, .int .i64 x.to, .slice ta tl tc, .int .i64 x.num]] W fun e W' => e = .returned (.bool (beyondB x)) ∧ Below W.heap.size W W' := by
  obtain ⟨op, n, fr, to, ts, num⟩ := x
  have HB : Hid (Below W.heap.size W (W.alloc (.cells #[.int .i64 op, .int .i64 n, .int .i64 fr, .int .i64 to, .slice ta tl tc, .int .i64 num] 37))) := (Below.refl _ _).alloc (Nat.le_refl _) _
  have HE : Hid (beyondB ⟨op, n, fr, to, ts, num⟩ = (neverB fr to || decide (1000 < fr) || decide (1000 < to))) := rfl
  have HN : Hid (∀ X, Calls Try.prog 44 #[.int .i64 fr, .int .i64 to] X fun e W' => e = .returned (.bool (neverB fr to)) ∧ W' = X) := fun X => never_any fr to X
  simp only
  generalize neverB fr to = nb at *
  cases nb with
  | true =>
    go_enter Try.func45, Try.ntmps45
    go_wp2_with fail
    refine Calls.mono (HN.out _) ?_
    rintro e W2 ⟨rfl, hw⟩
    subst W2
    go_wp2
    go_ret
    exact ⟨ret_bool (by rw [HE.out]; simp), HB.out⟩
  | false =>
    by_cases h1 : 1000 < fr
    · go_enter Try.func45, Try.ntmps45
      go_wp2_with fail
      refine Calls.mono (HN.out _) ?_
      rintro e W2 ⟨rfl, hw⟩
      subst W2
      go_wp2
      go_ret
      exact ⟨ret_bool (by rw [HE.out]; simp [h1]), HB.out⟩
    · go_enter Try.func45, Try.ntmps45
      go_wp2_with fail
      refine Calls.mono (HN.out _) ?_
      rintro e W2 ⟨rfl, hw⟩
      subst W2
      go_wp2
      go_ret
      exact ⟨ret_bool (by rw [HE.out]; simp), HB.out⟩
def otherB (x : Nd) : Bool := if x.op = 0 ∨ x.op = 1 ∨ x.op = 2 ∨ x.op = 3 ∨ x.op = 5 ∨ x.op = 7 ∨ x.op = 10 then !fitsB x || neverB x.fr x.to else true
set_option maxHeartbeats 4000000 in
theorem other_any (x : Nd) (ta : Option Addr) (tc : Nat) (W : World) (h : TermRow W ta x.terms) (hf : NamesFit x.terms) (hl : x.terms.length ≤ 9223372036854775807) : Calls Try.prog 34 #[.agg #[.int .i64 x.op, .int .i64 x.n, .int .i64 x.fr, .int .i64 x.to, .slice ta x.terms.length tc, .int .i64 x.num]] W fun e W' => e = .returned (.bool (otherB x)) ∧ Below W.heap.size W W' := by
  have HF : Hid (∀ X, Below W.heap.size W X → Calls Try.prog 51 #[.agg #[.int .i64 x.op, .int .i64 x.n, .int .i64 x.fr, .int .i64 x.to, .slice ta x.terms.length tc, .int .i64 x.num]] X fun e w' => e = .returned (.bool (fitsB x)) ∧ Below X.heap.size X w') := fun X hX => fits_any x ta tc X (h.below hX) hf hl
  have HN : Hid (∀ X, Calls Try.prog 44 #[.int .i64 x.fr, .int .i64 x.to] X fun e W' => e = .returned (.bool (neverB x.fr x.to)) ∧ W' = X) := fun X => never_any x.fr x.to X
  by_cases hop : x.op = 0 ∨ x.op = 1 ∨ x.op = 2 ∨ x.op = 3 ∨ x.op = 5 ∨ x.op = 7 ∨ x.op = 10
  · have HE : Hid (otherB x = (!fitsB x || neverB x.fr x.to)) := by simp only [Hid, otherB]; rw [if_pos hop]
    clear h hf
    obtain ⟨op, n, fr, to, ts, num⟩ := x
    have HB : Hid (Below W.heap.size W (W.alloc (.cells #[.int .i64 op, .int .i64 n, .int .i64 fr, .int .i64 to, .slice ta ts.length tc, .int .i64 num] 37))) := (Below.refl _ _).alloc (Nat.le_refl _) _
    have HCELL : Hid (∀ X, Below (W.alloc (.cells #[.int .i64 op, .int .i64 n, .int .i64 fr, .int .i64 to, .slice ta ts.length tc, .int .i64 num] 37)).heap.size (W.alloc (.cells #[.int .i64 op, .int .i64 n, .int .i64 fr, .int .i64 to, .slice ta ts.length tc, .int .i64 num] 37)) X → X.cell? ⟨W.heap.size, 2, none⟩ = some (.int .i64 fr) ∧ X.cell? ⟨W.heap.size, 3, none⟩ = some (.int .i64 to)) := fun X hX => ⟨cell_up hX (by simp [go_sem]), cell_up hX (by simp [go_sem])⟩
    simp only at hop HF HN
    generalize fitsB ⟨op, n, fr, to, ts, num⟩ = fb at *
    generalize neverB fr to = nb at *
    generalize otherB ⟨op, n, fr, to, ts, num⟩ = ob at *
    generalize ts.length = tl at *
    rcases hop with rfl | rfl | rfl | rfl | rfl | rfl | rfl
    all_goals
      cases fb with
      | false =>
        go_enter Try.func34, Try.ntmps34
        go_wp2_with fail
        refine Calls.mono (HF.out _ HB.out) ?_
        rintro e W2 ⟨rfl, hb⟩
        go_wp2
        go_ret
        exact ⟨ret_bool (by rw [HE.out]; rfl), HB.out.trans (hb.mono HB.out.size)⟩
      | true =>
        go_enter Try.func34, Try.ntmps34
        go_wp2_with fail
        refine Calls.mono (HF.out _ HB.out) ?_
        rintro e W2 ⟨rfl, hb⟩
        obtain ⟨c2, c3⟩ := HCELL.out W2 hb
        have HB2 : Hid (Below W.heap.size W W2) := HB.out.trans (hb.mono HB.out.size)
        clear hb
        go_wp2_with fail
        refine Calls.mono (HN.out _) ?_
        rintro e W3 ⟨rfl, hw⟩
        subst W3
        go_wp2
        go_ret
        exact ⟨ret_bool (by rw [HE.out]; simp), HB2.out⟩
  · have HE : Hid (otherB x = true) := by simp only [Hid, otherB]; rw [if_neg hop]
    clear h hf
    obtain ⟨op, n, fr, to, ts, num⟩ := x
    have HB : Hid (Below W.heap.size W (W.alloc (.cells #[.int .i64 op, .int .i64 n, .int .i64 fr, .int .i64 to, .slice ta ts.length tc, .int .i64 num] 37))) := (Below.refl _ _).alloc (Nat.le_refl _) _
    simp only at hop
    have k0 : (op == 0) = false := by rw [beq_eq_false_iff_ne]; omega
    have k1 : (op == 1) = false := by rw [beq_eq_false_iff_ne]; omega
    have k2 : (op == 2) = false := by rw [beq_eq_false_iff_ne]; omega
    have k3 : (op == 3) = false := by rw [beq_eq_false_iff_ne]; omega
    have k5 : (op == 5) = false := by rw [beq_eq_false_iff_ne]; omega
    have k7 : (op == 7) = false := by rw [beq_eq_false_iff_ne]; omega
    have k10 : (op == 10) = false := by rw [beq_eq_false_iff_ne]; omega
    clear hop HF HN
    go_enter Try.func34, Try.ntmps34
    go_wp2
    go_ret
    exact ⟨ret_bool HE.out.symm, HB.out⟩
def isCoreB (l : List Nd) : Bool := wholeB l && !(l.any otherB)
theorem fit_good {l : List Nd} (h : GoodN l) : ∀ x ∈ l, NamesFit x.terms ∧ x.terms.length ≤ 9223372036854775807 := fun x hx => ⟨fun t ht => by have := (h x hx).2 t ht; omega, by have := (h x hx).1; omega⟩
set_option maxHeartbeats 1000000 in
theorem isCore_any (a : Option Addr) (cap : Nat) (l : List Nd) (W : World) (h : NodeRow W a l) (hl : l.length ≤ 1099511627776) (hg : GoodN l) :
    Calls Try.prog 15 #[.slice a l.length cap] W fun e W' => e = .returned (.bool (isCoreB l)) ∧ Below W.heap.size W W' := by
  have hw := whole_any a cap l W h hl
  have HC : Hid (∀ X, Below W.heap.size W X → Calls Try.prog 33 #[.slice a l.length cap, .func (.func 34) #[] #[]] X fun e W' => e = .returned (.bool (l.any otherB)) ∧ Below X.heap.size X W') := fun X hX => containsFunc_other otherB a cap l X (h.below hX) (by omega) fun x hx ta tc Y hY ht => other_any x ta tc Y ht (fit_good hg x hx).1 (fit_good hg x hx).2
  have HE : Hid (isCoreB l = (wholeB l && !(l.any otherB))) := rfl
  clear h hg
  generalize wholeB l = wb at *
  generalize l.any otherB = ob at *
  cases wb with
  | false =>
    go_enter Try.func15, Try.ntmps15
    go_wp2_with fail
    refine Calls.mono hw ?_
    rintro e W2 ⟨rfl, hb⟩
    go_wp2
    go_ret
    exact ⟨ret_bool (by rw [HE.out]; rfl), hb⟩
  | true =>
    go_enter Try.func15, Try.ntmps15
    go_wp2_with fail
    refine Calls.mono hw ?_
    rintro e W2 ⟨rfl, hb⟩
    have HB : Hid (Below W.heap.size W W2) := hb
    clear hb hw
    go_wp2_with fail
    refine Calls.mono (HC.out _ HB.out) ?_
    rintro e W3 ⟨rfl, hb⟩
    go_wp2
    go_ret
    exact ⟨ret_bool (by rw [HE.out]; simp), HB.out.trans (hb.mono HB.out.size)⟩
/-- What Norm tells: the core, and the error. -/
def normR (l : List Nd) : List Nd × Int := if validB l = false then ([], 31) else if l.any beyondB then ([], 42) else if 600 < (normD 24 l).length then ([], 2) else (normD 24 l, 0)
def NormTells (W : World) (l : List Nd) (e : Ending) (W' : World) : Prop := ∃ v, e = .returned (.tuple #[v, .int .i64 (normR l).2]) ∧ Below W.heap.size W W' ∧ (((normR l).2 ≠ 0 ∧ v = .slice none 0 0) ∨ ((normR l).2 = 0 ∧ Makes W (normR l).1 (.returned v) W'))
set_option maxHeartbeats 4000000 in
theorem normTop_any (a : Option Addr) (cap : Nat) (ys : List NdV) (W : World) (h : NdsAt W a cap ys) (hg : GoodN (ys.map (·.x))) (hfit : NodesFit (ys.map (·.x))) :
    Calls Try.prog 22 #[.slice a ys.length cap] W (NormTells W (ys.map (·.x))) := by
  have hfew := h.few
  have hv := valid_any a cap (ys.map (·.x)) W h.nodes (by rw [List.length_map]; exact h.le) hfit (by rw [List.length_map]; omega)
  rw [List.length_map] at hv
  have HC : Hid (∀ X, Below W.heap.size W X → Calls Try.prog 33 #[.slice a ys.length cap, .func (.func 45) #[] #[]] X fun e W' => e = .returned (.bool ((ys.map (·.x)).any beyondB)) ∧ Below X.heap.size X W') := fun X hX => by
    have := containsFunc_beyond beyondB a cap (ys.map (·.x)) X (h.below hX).nodes (by rw [List.length_map]; omega) fun x hx ta tc Y hY ht => beyond_any x ta x.terms.length tc Y
    rw [List.length_map] at this; exact this
  have HNO : Hid (validB (ys.map (·.x)) = true → ∀ X, Below W.heap.size W X → Calls Try.prog 46 #[.slice a ys.length cap] X (Makes X (normD 24 (ys.map (·.x))))) := fun hvv X hX => by
    obtain ⟨h3, hr⟩ := valid_rest hvv
    rw [List.length_map] at h3
    obtain ⟨p, e, hp⟩ := rest_part 24 _ _ hr
    rw [List.append_nil] at e
    exact norm_any 24 a cap ys X (h.below hX) (by rw [e]; exact hp) (by omega) hg
  have HOK : Hid (validB (ys.map (·.x)) = true → GoodN (normD 24 (ys.map (·.x))) ∧ (normD 24 (ys.map (·.x))).length ≤ 5000) := fun hvv => by
    obtain ⟨h3, hr⟩ := valid_rest hvv
    obtain ⟨p, e, hp⟩ := rest_part 24 _ _ hr
    rw [List.append_nil] at e
    obtain ⟨q1, q2⟩ := norm_ok 24 _ (by rw [e]; exact hp) (by omega) hg
    exact ⟨q1, by omega⟩
  have HR : Hid (normR (ys.map (·.x)) = if validB (ys.map (·.x)) = false then ([], 31) else if (ys.map (·.x)).any beyondB then ([], 42) else if 600 < (normD 24 (ys.map (·.x))).length then ([], 2) else (normD 24 (ys.map (·.x)), 0)) := rfl
  have HBAD : Hid (∀ (E : Int) W', normR (ys.map (·.x)) = ([], E) → E ≠ 0 → Below W.heap.size W W' → NormTells W (ys.map (·.x)) (.returned (.tuple #[.slice none 0 0, .int .i64 E])) W') := fun E W' h1 h2 h3 => ⟨_, by rw [h1], h3, .inl ⟨by rw [h1]; exact h2, rfl⟩⟩
  have HGOOD : Hid (∀ v W', normR (ys.map (·.x)) = (normD 24 (ys.map (·.x)), 0) → Makes W (normD 24 (ys.map (·.x))) (.returned v) W' → Below W.heap.size W W' → NormTells W (ys.map (·.x)) (.returned (.tuple #[v, .int .i64 0])) W') := fun v W' h1 h2 h3 => ⟨v, by rw [h1], h3, .inr ⟨by rw [h1], by rw [h1]; exact h2⟩⟩
  clear h hg hfit
  generalize normR (ys.map (·.x)) = nr at *
  generalize NormTells W (ys.map (·.x)) = NT at *
  generalize validB (ys.map (·.x)) = vb at *
  generalize (ys.map (·.x)).any beyondB = bb at *
  generalize normD 24 (ys.map (·.x)) = nd at *
  cases vb with
  | false =>
    have HR2 : Hid (nr = ([], 31)) := HR.out
    go_enter Try.func22, Try.ntmps22
    go_wp2_with fail
    refine Calls.mono hv ?_
    rintro e W2 ⟨rfl, hb⟩
    go_wp2
    exact HBAD.out 31 _ HR2.out (by omega) hb
  | true =>
    cases bb with
    | true =>
      have HR2 : Hid (nr = ([], 42)) := HR.out
      go_enter Try.func22, Try.ntmps22
      go_wp2_with fail
      refine Calls.mono hv ?_
      rintro e W2 ⟨rfl, hb⟩
      have HB : Hid (Below W.heap.size W W2) := hb
      clear hb hv
      go_wp2_with fail
      refine Calls.mono (HC.out _ HB.out) ?_
      rintro e W3 ⟨rfl, hb⟩
      have HB3 : Hid (Below W.heap.size W W3) := HB.out.trans (hb.mono HB.out.size)
      clear hb
      go_wp2
      exact HBAD.out 42 _ HR2.out (by omega) HB3.out
    | false =>
      have HR2 : Hid (nr = if 600 < nd.length then ([], 2) else (nd, 0)) := HR.out
      go_enter Try.func22, Try.ntmps22
      go_wp2_with fail
      refine Calls.mono hv ?_
      rintro e W2 ⟨rfl, hb⟩
      have HB : Hid (Below W.heap.size W W2) := hb
      clear hb hv
      go_wp2_with fail
      refine Calls.mono (HC.out _ HB.out) ?_
      rintro e W3 ⟨rfl, hb⟩
      have HB3 : Hid (Below W.heap.size W W3) := HB.out.trans (hb.mono HB.out.size)
      clear hb
      go_wp2_with fail
      refine Calls.mono (HNO.out (by trivial) _ HB3.out) ?_
      intro e W4 hm
      obtain ⟨v, rfl, hm2⟩ := hm.ret
      obtain ⟨q1, q2⟩ := HOK.out (by trivial)
      obtain ⟨xa, xs, xc, rfl, _, _, hxe, hxb⟩ := hm2.at q1 (by omega)
      have HM : Hid (Makes W nd (.returned (.slice xa xs.length xc)) W4) := hm2.up HB3.out
      have HB4 : Hid (Below W.heap.size W W4) := HB3.out.trans (hxb.mono HB3.out.size)
      have HXL : Hid (xs.length = nd.length) := by have := congrArg List.length hxe; rwa [List.length_map] at this
      clear hm hm2 q1 q2 hxe hxb
      by_cases h6 : 600 < xs.length
      · have HR3 : Hid (nr = ([], 2)) := by show _ = _; rw [HR2.out, ← HXL.out, if_pos h6]
        go_wp2
        exact HBAD.out 2 _ HR3.out (by omega) HB4.out
      · have HR3 : Hid (nr = (nd, 0)) := by show _ = _; rw [HR2.out, ← HXL.out, if_neg h6]
        go_wp2
        exact HGOOD.out _ _ HR3.out HM.out HB4.out
end Go.Proofs.Ytpgdkgilmcipkaa
namespace Go.Proofs.Ytpgdkgilmcipkaa
open Go.RowKit Go.Maps Go.ChangeShapes
set_option linter.unusedVariables false
set_option maxRecDepth 100000

def aN : Nd := ⟨2, 0, 0, 0, [⟨⟨#[97]⟩, 1⟩], 0⟩
def alN : List Nd := [⟨4, 2, 0, 0, [], 0⟩, aN, ⟨3, 1, 0, 0, [], 0⟩, aN]
theorem al8a : normR alN = ([ff], 0) := by kernel_rfl
theorem al8b : orL [[aN], [aN], [ff]] = [aN] := by kernel_rfl
theorem al8c : isCoreB [aN] = true := by kernel_rfl
theorem al8d : sinceL 0 0 [aN] [aN] = [aN] := by kernel_rfl
theorem al8e : prevL [aN] = [⟨7, 1, 0, 0, [], 0⟩, aN] := by kernel_rfl
/-- A term's row, as it is laid. -/
def W1w (W : World) : World := W.alloc (.cells #[.string ⟨#[97]⟩, .int .i64 1] 67)
def W2w (W : World) : World := (W1w W).alloc (.cells #[.int .i64 2, .int .i64 0, .int .i64 0, .int .i64 0, .slice (some ⟨W.heap.size, 0, none⟩) 1 1, .int .i64 0] 37)
def aV (W : World) : NdV := ⟨aN, some ⟨W.heap.size, 0, none⟩, 1⟩
theorem w2_below (W : World) : Below W.heap.size W (W2w W) := ((Below.refl _ _).alloc (Nat.le_refl _) _).alloc (by simp) _
theorem a_tms (W : World) : TmsAt (W2w W) (aV W) :=
  ⟨fun i hi => by
    obtain rfl : i = 0 := by simpa [aV, aN] using hi
    exact ⟨W.heap.size, 0, rfl, by simp [W2w, W1w, go_sem, aV, aN], by simp [W2w, W1w, go_sem, aV, aN]⟩, (fun e => by cases e), by simp [aV, aN], by simp [aV, aN]⟩
theorem a_nds (W : World) : NdsAt (W2w W) (some ⟨W.heap.size + 1, 0, none⟩) 1 [aV W] :=
  ⟨fun i hi => by
    obtain rfl : i = 0 := by simpa using hi
    refine ⟨W.heap.size + 1, 0, rfl, fun j hj => ?_⟩
    have : j = 0 ∨ j = 1 ∨ j = 2 ∨ j = 3 ∨ j = 4 ∨ j = 5 := by omega
    rcases this with rfl | rfl | rfl | rfl | rfl | rfl <;> simp [W2w, W1w, go_sem, ndC, aV, aN], (fun e => by cases e), Nat.le_refl _, by simp, fun y hy => by simp only [List.mem_singleton] at hy; subst hy; exact a_tms W⟩
theorem aN_good : GoodN [aN] := by
  intro x hx
  simp only [List.mem_singleton] at hx
  subst hx
  refine ⟨by simp [aN], fun t ht => ?_⟩
  simp only [aN, List.mem_singleton] at ht
  subst ht
  decide
theorem alN_good : GoodN alN := by
  intro x hx
  simp only [alN, List.mem_cons, List.not_mem_nil, or_false] at hx
  rcases hx with rfl | rfl | rfl | rfl
  · exact ⟨by simp, fun t ht => by simp at ht⟩
  · exact aN_good _ (by simp)
  · exact ⟨by simp, fun t ht => by simp at ht⟩
  · exact aN_good _ (by simp)
theorem good_fit {l : List Nd} (h : GoodN l) (hn : ∀ x ∈ l, x.n ≤ 9223372036854775807) : NodesFit l := fun x hx => ⟨(fit_good h x hx).1, (fit_good h x hx).2, hn x hx⟩
/-- 'append([]Node{{Op: op, N: n}}, a...)'. -/
theorem app_one (W X : World) (hX : Below (W2w W).heap.size (W2w W) X) (op n : Int) :
    ∃ va vn vc Y, (Builtin.append_ #[28, 28] 28 #[.slice (some ⟨X.heap.size, 0, none⟩) 1 1, .slice (some ⟨W.heap.size + 1, 0, none⟩) 1 1]).run Try.prog (X.alloc (.cells #[.int .i64 op, .int .i64 n, .int .i64 0, .int .i64 0, .slice none 0 0, .int .i64 0] 37)) = .ok (.slice va vn vc) Y ∧
      Own ndC 37 6 Y X.heap.size (.slice va vn vc) [⟨⟨op, n, 0, 0, [], 0⟩, none, 0⟩, aV W] ∧ Below X.heap.size X Y := by
  have hb : Below X.heap.size X (X.alloc (.cells #[.int .i64 op, .int .i64 n, .int .i64 0, .int .i64 0, .slice none 0 0, .int .i64 0] 37)) := (Below.refl _ _).alloc (Nat.le_refl _) _
  have hl := Own.lit1 ndC 37 6 ndC_len X X.heap.size (Nat.le_refl _) ⟨⟨op, n, 0, 0, [], 0⟩, none, 0⟩ #[.int .i64 op, .int .i64 n, .int .i64 0, .int .i64 0, .slice none 0 0, .int .i64 0] rfl
  have ha := ((a_nds W).below hX).below hb
  obtain ⟨v', Y, hr, ho, hg, _⟩ := Own.appendRow ndC_len ndC_one Try.underlying28 infoNode rfl (by omega) _ X.heap.size _ _ hl (some ⟨W.heap.size + 1, 0, none⟩) [aV W] 1 (fun e => by cases e) ha.row (by unfold maxLen; simp) (by simp) (by simp)
  obtain ⟨va, vc, rfl, _⟩ := ho.sl ndC_len default
  exact ⟨va, _, vc, Y, hr, ho, hb.trans ((Mod.grown hg).belowOf (by simp) fun g hh => by simp [Value.ownBlock] at hh; omega)⟩
/-- What is laid ahead of Norm. -/
theorem app_three (W : World) : ∃ va vn vc Y1 ua un uc Y2 xa xn xc Y3,
    (Builtin.append_ #[28, 28] 28 #[.slice (some ⟨(W2w W).heap.size, 0, none⟩) 1 1, .slice (some ⟨W.heap.size + 1, 0, none⟩) 1 1]).run Try.prog ((W2w W).alloc (.cells #[.int .i64 4, .int .i64 2, .int .i64 0, .int .i64 0, .slice none 0 0, .int .i64 0] 37)) = .ok (.slice va vn vc) Y1 ∧
    (Builtin.append_ #[28, 28] 28 #[.slice (some ⟨Y1.heap.size, 0, none⟩) 1 1, .slice (some ⟨W.heap.size + 1, 0, none⟩) 1 1]).run Try.prog (Y1.alloc (.cells #[.int .i64 3, .int .i64 1, .int .i64 0, .int .i64 0, .slice none 0 0, .int .i64 0] 37)) = .ok (.slice ua un uc) Y2 ∧
    (Builtin.append_ #[28, 28] 28 #[.slice va vn vc, .slice ua un uc]).run Try.prog Y2 = .ok (.slice xa xn xc) Y3 ∧
    Below (W2w W).heap.size (W2w W) Y3 ∧ ∃ ys : List NdV, xn = ys.length ∧ ys.map (·.x) = alN ∧ NdsAt Y3 xa xc ys := by
  obtain ⟨va, vn, vc, Y1, h1, o1, b1⟩ := app_one W (W2w W) (Below.refl _ _) 4 2
  obtain ⟨ua, un, uc, Y2, h2, o2, b2⟩ := app_one W Y1 b1 3 1
  have o12 := o1.below b2
  obtain ⟨rfl, r2, r3, _⟩ := Own.room ndC_len default o2
  obtain ⟨v', Y3, hr, ho, hg, _⟩ := Own.appendRow ndC_len ndC_one Try.underlying28 infoNode rfl (by omega) Y2 (W2w W).heap.size _ _ o12 ua _ uc r2 (Own.rows ndC_len o2) (by unfold maxLen; simp) (by simp) (b1.trans (b2.mono b1.size)).size
  obtain ⟨xa, xc, rfl, _⟩ := ho.sl ndC_len default
  obtain ⟨_, q2, q3, _⟩ := Own.room ndC_len default ho
  have hb2 := b1.trans (b2.mono b1.size)
  have hb3 : Below (W2w W).heap.size (W2w W) Y3 := hb2.trans ((Mod.grown hg).belowOf hb2.size fun g hh => (Own.lt o1 g (by simpa using hh)).1)
  refine ⟨va, vn, vc, Y1, ua, _, uc, Y2, xa, _, xc, Y3, h1, h2, hr, hb3, _, rfl, rfl, Own.rows ndC_len ho, q2, q3, by simp, fun y hy => ?_⟩
  have hA := (a_tms W).below hb3
  have hn : ∀ op n : Int, TmsAt Y3 ⟨⟨op, n, 0, 0, [], 0⟩, none, 0⟩ := fun op n => ⟨fun i hi => by simp at hi, fun _ => rfl, Nat.le_refl _, by simp⟩
  simp only [List.cons_append, List.nil_append, List.mem_cons, List.not_mem_nil, or_false] at hy
  rcases hy with rfl | rfl | rfl | rfl
  · exact hn _ _
  · exact hA
  · exact hn _ _
  · exact hA
theorem map_one {zs : List NdV} {x : Nd} (h : zs.map (·.x) = [x]) : ∃ z, zs = [z] ∧ z.x = x := by
  match zs, h with
  | [z], h => exact ⟨z, rfl, by simpa using h⟩
theorem map_two {zs : List NdV} {x y : Nd} (h : zs.map (·.x) = [x, y]) : ∃ z u, zs = [z, u] := by
  match zs, h with
  | [z, u], h => exact ⟨z, u, rfl⟩
end Go.Proofs.Ytpgdkgilmcipkaa
namespace Go.Proofs.Ytpgdkgilmcipkaa
open Go.RowKit Go.Maps Go.ChangeShapes
set_option linter.unusedVariables false
set_option maxRecDepth 100000

theorem lss_three {X : World} {a b c : Option Addr} {ca cb cc : Nat} {ys zs us : List NdV} (h : NdsAt X a ca ys) (k : NdsAt X b cb zs) (m : NdsAt X c cc us) : LssAt (X.alloc (.cells #[.slice a ys.length ca, .slice b zs.length cb, .slice c us.length cc] 28)) (some ⟨X.heap.size, 0, none⟩) 3 [⟨ys, a, ca⟩, ⟨zs, b, cb⟩, ⟨us, c, cc⟩] :=
  ⟨fun i hi => by
    have hi2 : i = 0 ∨ i = 1 ∨ i = 2 := by simp at hi; omega
    refine ⟨X.heap.size, 0, rfl, fun j hj => ?_⟩
    obtain rfl : j = 0 := by omega
    rcases hi2 with rfl | rfl | rfl <;> simp [go_sem, lsC], (fun e => by cases e), Nat.le_refl _, by simp, fun y hy => by
    have hb : Below X.heap.size X (X.alloc (.cells #[.slice a ys.length ca, .slice b zs.length cb, .slice c us.length cc] 28)) := (Below.refl _ _).alloc (Nat.le_refl _) _
    simp only [List.mem_cons, List.not_mem_nil, or_false] at hy
    rcases hy with rfl | rfl | rfl
    · exact h.below hb
    · exact k.below hb
    · exact m.below hb⟩
theorem op_nds (X : World) (op n fr to : Int) : NdsAt (X.alloc (.cells #[.int .i64 op, .int .i64 n, .int .i64 fr, .int .i64 to, .slice none 0 0, .int .i64 0] 37)) (some ⟨X.heap.size, 0, none⟩) 1 [⟨⟨op, n, fr, to, [], 0⟩, none, 0⟩] :=
  ⟨fun i hi => by
    obtain rfl : i = 0 := by simpa using hi
    refine ⟨X.heap.size, 0, rfl, fun j hj => ?_⟩
    have : j = 0 ∨ j = 1 ∨ j = 2 ∨ j = 3 ∨ j = 4 ∨ j = 5 := by omega
    rcases this with rfl | rfl | rfl | rfl | rfl | rfl <;> simp [go_sem, ndC], (fun e => by cases e), Nat.le_refl _, by simp, fun y hy => by
    simp only [List.mem_singleton] at hy; subst hy
    exact ⟨fun i hi => by simp at hi, fun _ => rfl, Nat.le_refl _, by simp⟩⟩
theorem hid_goal {p : Prop} (h : Hid p) : p := h
theorem hid_to {p : Prop} (h : p) : Hid p := h
theorem alN_fit : NodesFit alN := good_fit alN_good fun x hx => by
  simp only [alN, List.mem_cons, List.not_mem_nil, or_false] at hx
  rcases hx with rfl | rfl | rfl | rfl <;> simp [aN]
theorem prev_good : GoodN [⟨7, 1, 0, 0, [], 0⟩, aN] := fun x hx => by
  simp only [List.mem_cons, List.not_mem_nil, or_false] at hx
  rcases hx with rfl | rfl
  · exact ⟨by simp, fun t ht => by simp at ht⟩
  · exact aN_good _ (by simp)
set_option maxHeartbeats 8000000 in
theorem alive8_any (W : World) : Calls Try.prog 16 #[] W fun e W' => e = .returned (.bool true) ∧ Below W.heap.size W W' := by
  obtain ⟨va, vn, vc, Y1, ua, un, uc, Y2, xa, xn, xc, Y3, h1, h2, h3, hb3, ys, rfl, hys, hnd⟩ := app_three W
  have hs : (W2w W).heap.size = W.heap.size + 1 + 1 := by simp [W2w, W1w]
  rw [hs] at h1
  have HR1 : Hid _ := h1
  have HR2 : Hid _ := h2
  have HR3 : Hid _ := h3
  have HA : Hid (∀ X, Below (W2w W).heap.size (W2w W) X → NdsAt X (some ⟨W.heap.size + 1, 0, none⟩) 1 [aV W]) := fun X hX => (a_nds W).below hX
  have HB3 : Hid (Below (W2w W).heap.size (W2w W) Y3) := hb3
  have HBW : Hid (∀ X, Below (W2w W).heap.size (W2w W) X → Below W.heap.size W X) := fun X hX => (w2_below W).trans (hX.mono (w2_below W).size)
  have hnorm := normTop_any xa xc ys Y3 hnd (by rw [hys]; exact alN_good) (by rw [hys]; exact alN_fit)
  rw [hys] at hnorm
  have HN : Hid _ := hnorm
  clear h1 h2 h3 hb3 hnd hnorm hys hs
  go_enter Try.func16, Try.ntmps16
  go_wp2_with (at_builtin; refine hid_goal ?_)
  refine hid_to ?_
  refine append_runO (by rfl) _ _ (by rfl) (by rfl) _ _ _ _ (by rfl) (by rfl) HR1.out ?_
  go_wp2_with (at_builtin; refine hid_goal ?_)
  refine hid_to ?_
  refine append_runO (by rfl) _ _ (by rfl) (by rfl) _ _ _ _ (by rfl) (by rfl) HR2.out ?_
  go_wp2_with (at_builtin; refine hid_goal ?_)
  refine hid_to ?_
  refine append_runO (by rfl) _ _ (by rfl) (by rfl) _ _ _ _ (by rfl) (by rfl) HR3.out ?_
  go_wp2_with fail
  refine Calls.mono HN.out ?_
  rintro e W4 ⟨v, rfl, hb4, hcase⟩
  rw [al8a] at hcase
  rw [al8a]
  rcases hcase with ⟨h0, _⟩ | ⟨_, hm⟩
  · exact absurd rfl h0
  obtain ⟨na, zs, nc, rfl, hzn, _, hze, _⟩ := hm.at good_one (by simp)
  obtain ⟨z, rfl, hzx⟩ := map_one hze
  obtain ⟨nb, no, rfl, hnc⟩ := hzn.row 0 (by simp)
  have hn0 := hnc 0 (by omega)
  simp [ndC, hzx, ff] at hn0
  have HB4 : Hid (Below (W2w W).heap.size (W2w W) W4) := HB3.out.trans (hb4.mono HB3.out.size)
  have hb5 : Below W4.heap.size W4 (W4.alloc (.cells #[.int .i64 1, .int .i64 0, .int .i64 0, .int .i64 0, .slice none 0 0, .int .i64 0] 37)) := (Below.refl _ _).alloc (Nat.le_refl _) _
  have hb6 := HB4.out.trans (hb5.mono HB4.out.size)
  have hls := lss_three (HA.out _ hb6) (HA.out _ hb6) (op_nds W4 1 0 0 0)
  have hgl : ∀ y ∈ [(⟨[aV W], some ⟨W.heap.size + 1, 0, none⟩, 1⟩ : LsV), ⟨[aV W], some ⟨W.heap.size + 1, 0, none⟩, 1⟩, ⟨[⟨⟨1, 0, 0, 0, [], 0⟩, none, 0⟩], some ⟨W4.heap.size, 0, none⟩, 1⟩], GoodN y.nds := fun y hy => by
    simp only [List.mem_cons, List.not_mem_nil, or_false] at hy
    rcases hy with rfl | rfl | rfl
    · exact aN_good
    · exact aN_good
    · exact good_one
  have hor := or_any _ 3 _ _ hls hgl (by simp [tot])
  have e3 : [(⟨[aV W], some ⟨W.heap.size + 1, 0, none⟩, 1⟩ : LsV), ⟨[aV W], some ⟨W.heap.size + 1, 0, none⟩, 1⟩, ⟨[⟨⟨1, 0, 0, 0, [], 0⟩, none, 0⟩], some ⟨W4.heap.size, 0, none⟩, 1⟩].map LsV.nds = [[aN], [aN], [ff]] := rfl
  rw [e3, al8b] at hor
  have hs5 : (W4.alloc (.cells #[.int .i64 1, .int .i64 0, .int .i64 0, .int .i64 0, .slice none 0 0, .int .i64 0] 37)).heap.size = W4.heap.size + 1 := by simp
  rw [hs5] at hor
  have hb7 : Below (W2w W).heap.size (W2w W) ((W4.alloc (.cells #[.int .i64 1, .int .i64 0, .int .i64 0, .int .i64 0, .slice none 0 0, .int .i64 0] 37)).alloc (.cells #[.slice (some ⟨W.heap.size + 1, 0, none⟩) 1 1, .slice (some ⟨W.heap.size + 1, 0, none⟩) 1 1, .slice (some ⟨W4.heap.size, 0, none⟩) 1 1] 28)) := hb6.alloc hb6.size _
  have HB7 : Hid _ := hb7
  have HOR : Hid (Calls Try.prog 20 #[.slice (some ⟨W4.heap.size + 1, 0, none⟩) 3 3] ((W4.alloc (.cells #[.int .i64 1, .int .i64 0, .int .i64 0, .int .i64 0, .slice none 0 0, .int .i64 0] 37)).alloc (.cells #[.slice (some ⟨W.heap.size + 1, 0, none⟩) 1 1, .slice (some ⟨W.heap.size + 1, 0, none⟩) 1 1, .slice (some ⟨W4.heap.size, 0, none⟩) 1 1] 28)) (Makes ((W4.alloc (.cells #[.int .i64 1, .int .i64 0, .int .i64 0, .int .i64 0, .slice none 0 0, .int .i64 0] 37)).alloc (.cells #[.slice (some ⟨W.heap.size + 1, 0, none⟩) 1 1, .slice (some ⟨W.heap.size + 1, 0, none⟩) 1 1, .slice (some ⟨W4.heap.size, 0, none⟩) 1 1] 28)) [aN])) := hor
  have HUP : Hid (∀ X, Below ((W4.alloc (.cells #[.int .i64 1, .int .i64 0, .int .i64 0, .int .i64 0, .slice none 0 0, .int .i64 0] 37)).alloc (.cells #[.slice (some ⟨W.heap.size + 1, 0, none⟩) 1 1, .slice (some ⟨W.heap.size + 1, 0, none⟩) 1 1, .slice (some ⟨W4.heap.size, 0, none⟩) 1 1] 28)).heap.size ((W4.alloc (.cells #[.int .i64 1, .int .i64 0, .int .i64 0, .int .i64 0, .slice none 0 0, .int .i64 0] 37)).alloc (.cells #[.slice (some ⟨W.heap.size + 1, 0, none⟩) 1 1, .slice (some ⟨W.heap.size + 1, 0, none⟩) 1 1, .slice (some ⟨W4.heap.size, 0, none⟩) 1 1] 28)) X → X.cell? ⟨nb, no, none⟩ = some (.int .i64 1)) := fun X hX => by
    have k5 := cell_up hb5 hn0
    have k6 := cell_up ((Below.refl _ _).alloc (Nat.le_refl _) _) k5 (w' := (W4.alloc (.cells #[.int .i64 1, .int .i64 0, .int .i64 0, .int .i64 0, .slice none 0 0, .int .i64 0] 37)).alloc (.cells #[.slice (some ⟨W.heap.size + 1, 0, none⟩) 1 1, .slice (some ⟨W.heap.size + 1, 0, none⟩) 1 1, .slice (some ⟨W4.heap.size, 0, none⟩) 1 1] 28))
    exact cell_up hX k6
  clear hm hzn hze hzx hnc hn0 hb4 hb5 hb6 hb7 hls hor e3 hs5 hgl
  go_wp2_with fail
  refine Calls.mono HOR.out ?_
  intro e W5 hm
  obtain ⟨v, rfl, hm2⟩ := hm.ret
  obtain ⟨oa, us, oc, rfl, _, _, hue, hub⟩ := hm2.at aN_good (by simp)
  obtain ⟨u, rfl, _⟩ := map_one hue
  have c5 := HUP.out W5 hub
  have HB5 : Hid (Below (W2w W).heap.size (W2w W) W5) := HB7.out.trans (hub.mono HB7.out.size)
  have hsi := since_any 0 0 (some ⟨W.heap.size + 1, 0, none⟩) (some ⟨W.heap.size + 1, 0, none⟩) 1 1 [aV W] [aV W] W5 (HA.out _ HB5.out) (HA.out _ HB5.out) (by simp) (by simp)
  have eA : ([aV W].map (·.x)) = [aN] := rfl
  rw [eA, al8d] at hsi
  have HSI : Hid (Calls Try.prog 21 #[.int .i64 0, .int .i64 0, .slice (some ⟨W.heap.size + 1, 0, none⟩) 1 1, .slice (some ⟨W.heap.size + 1, 0, none⟩) 1 1] W5 (Makes W5 [aN])) := hsi
  have HIC : Hid (∀ X, Below (W2w W).heap.size (W2w W) X → Calls Try.prog 15 #[.slice (some ⟨W.heap.size + 1, 0, none⟩) 1 1] X fun e W' => e = .returned (.bool true) ∧ Below X.heap.size X W') := fun X hX => by
    have := isCore_any (some ⟨W.heap.size + 1, 0, none⟩) 1 [aN] X (HA.out X hX).nodes (by simp) aN_good
    rw [al8c] at this; exact this
  have HPR : Hid (∀ X, Below (W2w W).heap.size (W2w W) X → Calls Try.prog 35 #[.slice (some ⟨W.heap.size + 1, 0, none⟩) 1 1] X (Makes X [⟨7, 1, 0, 0, [], 0⟩, aN])) := fun X hX => by
    have := prev_any (some ⟨W.heap.size + 1, 0, none⟩) 1 [aV W] X (HA.out X hX) (by simp)
    rw [eA, al8e] at this; exact this
  clear hm hm2 hue hub HOR HUP HB7 hsi eA
  go_wp2_with fail
  refine Calls.mono HSI.out ?_
  intro e W6 hm
  obtain ⟨v, rfl, hm2⟩ := hm.ret
  obtain ⟨sa, ss, sc, rfl, _, _, hse, hsb⟩ := hm2.at aN_good (by simp)
  obtain ⟨s, rfl, _⟩ := map_one hse
  have HB6 : Hid (Below (W2w W).heap.size (W2w W) W6) := HB5.out.trans (hsb.mono HB5.out.size)
  clear hm hm2 hse hsb c5
  go_wp2_with fail
  refine Calls.mono (HIC.out _ HB6.out) ?_
  rintro e W7 ⟨rfl, hb7⟩
  have HB7 : Hid (Below (W2w W).heap.size (W2w W) W7) := HB6.out.trans (hb7.mono HB6.out.size)
  clear hb7
  go_wp2_with fail
  refine Calls.mono (HPR.out _ HB7.out) ?_
  intro e W8 hm
  obtain ⟨v, rfl, hm2⟩ := hm.ret
  obtain ⟨pa, ps, pc, rfl, _, _, hpe, hpb⟩ := hm2.at prev_good (by simp)
  obtain ⟨p1, p2, rfl⟩ := map_two hpe
  have HB8 : Hid (Below (W2w W).heap.size (W2w W) W8) := HB7.out.trans (hpb.mono HB7.out.size)
  clear hm hm2 hpe hpb
  go_wp2
  go_ret
  exact ⟨rfl, HBW.out _ HB8.out⟩
end Go.Proofs.Ytpgdkgilmcipkaa
namespace Go.Proofs.Ytpgdkgilmcipkaa
open Go.RowKit Go.Deep Go.ChangeShapes Go.WideShapes Go.ChangeAt
set_option linter.unusedVariables false
set_option maxRecDepth 100000

theorem nodeRow_of {W : World} {a : Option Addr} {ys : List NdV} (h : RowOf ndC 6 W a ys) (hk : ∀ y ∈ ys, NdKnown W y) : NodeRow W a (ys.map (·.x)) := by
  intro i hi
  have hi' : i < ys.length := by simpa using hi
  obtain ⟨b, off, e, hj⟩ := h i hi'
  have hd : (ys.map (·.x)).getD i nd0 = (ys.getD i default).x := by simp [List.getD_eq_getElem?_getD, hi']
  rw [hd]
  have hk := hk (ys.getD i default) (by rw [List.getD_eq_getElem?_getD, List.getElem?_eq_getElem hi']; exact List.getElem_mem hi')
  refine ⟨b, off, e, ?_, ?_, ?_, ?_, ⟨(ys.getD i default).ta, (ys.getD i default).tc, ?_, hk.1⟩, ?_⟩
  · have := hj 0 (by omega); simpa [ndC] using this
  · have := hj 1 (by omega); simpa [ndC] using this
  · have := hj 2 (by omega); simpa [ndC] using this
  · have := hj 3 (by omega); simpa [ndC] using this
  · have := hj 4 (by omega); simpa [ndC] using this
  · have := hj 5 (by omega); simpa [ndC] using this
/-- A slice of nodes that came in, with where their terms lie. -/
theorem open_nodesV {H : Type} {enc : TypeId × Value → H} {W : World} {fuel : Nat} {a : Option Addr} {len cap : Nat} {x : DataW H × List MemPlace} (h : DataW.trod enc Try.prog W 0 (fun _ => true) true fuel 28 [.slice a len cap] = some x) :
    ∃ ys : List NdV, ys.length = len ∧ RowOf ndC 6 W a ys ∧ (∀ y ∈ ys, NdKnown W y) ∧ len ≤ cap ∧ (len ≤ 9223372036854775807 ∧ (a = none → cap = 0)) := by
  obtain ⟨l, h1, h2, h3, h4, h5, h6⟩ := open_rows ndC _ (by omega) Try.underlying28 cells_node node_in h
  unfold maxLen at h5
  exact ⟨l, h1, h2, h3, h4, by omega, h6⟩
theorem known_fit {W : World} {ys : List NdV} (h : ∀ y ∈ ys, NdKnown W y) : NodesFit (ys.map (·.x)) := by
  intro z hz
  simp only [List.mem_map] at hz
  obtain ⟨y, hy, rfl⟩ := hz
  obtain ⟨_, k2, _, ⟨k4, k5, _⟩, _, k6, _⟩ := h y hy
  exact ⟨k2, by omega, k6.2⟩
/-- Nodes that came in, if they are few. -/
theorem known_at {W : World} {a : Option Addr} {cap : Nat} {ys : List NdV} (hr : RowOf ndC 6 W a ys) (h : ∀ y ∈ ys, NdKnown W y) (hc : ys.length ≤ cap) (hn : a = none → cap = 0) (hf : ys.length ≤ 1099511627776) (ht : ∀ y ∈ ys, y.x.terms.length ≤ 1099511627776) : NdsAt W a cap ys :=
  ⟨hr, hn, hc, hf, fun y hy => by
    obtain ⟨t1, _, _, ⟨t4, _, t6⟩, _⟩ := h y hy
    exact ⟨t1, t6, t4, ht y hy⟩⟩
end Go.Proofs.Ytpgdkgilmcipkaa
namespace Go.Proofs.Ytpgdkgilmcipkaa
open Go.RowKit
set_option linter.unusedVariables false
set_option maxRecDepth 100000

theorem same_nds {X : World} {a b : Option Addr} {ca cb : Nat} {ys zs : List NdV} (h : NdsAt X a ca ys) (k : NdsAt X b cb zs) : Calls Try.prog 18 #[.slice a ys.length ca, .slice b zs.length cb] X fun e W' => e = .returned (.bool (sameB (ys.map (·.x)) (zs.map (·.x)))) ∧ Below X.heap.size X W' := by
  have few : ∀ {a : Option Addr} {c : Nat} {ys : List NdV}, NdsAt X a c ys → FewT (ys.map (·.x)) := fun q x hx => by
    obtain ⟨y, hy, rfl⟩ := List.mem_map.1 hx
    have := (q.terms y hy).few; omega
  have := same_any a b ca cb (ys.map (·.x)) (zs.map (·.x)) X h.nodes k.nodes (by rw [List.length_map]; have := h.few; omega) (by rw [List.length_map]; have := k.few; omega) (few h) (few k)
  rw [List.length_map, List.length_map] at this; exact this
theorem same_refl (l : List Nd) : sameB l l = true := (sameB_iff l l).2 rfl
theorem light_good {l : List Nd} (h : lightB l = true) : GoodN l ∧ l.length ≤ 310 := by
  unfold lightB at h
  simp only [Bool.and_eq_true, decide_eq_true_eq, List.all_eq_true] at h
  refine ⟨fun x hx => ?_, h.1⟩
  have := h.2 x hx
  unfold lightN at this
  simp only [Bool.and_eq_true, decide_eq_true_eq, List.all_eq_true] at this
  refine ⟨by omega, fun t ht => ?_⟩
  have := this.2 t ht
  unfold lightT at this
  simp only [decide_eq_true_eq] at this
  omega
theorem core_pos {l : List Nd} (h : isCoreB l = true) : 0 < l.length := by
  cases l with
  | nil => simp [isCoreB, wholeB, scanW] at h
  | cons x l => simp
theorem core_fits {l : List Nd} (h : isCoreB l = true) : ∀ x ∈ l, fitsB x = true ∧ (x.op = 0 ∨ x.op = 1 ∨ x.op = 2 ∨ x.op = 3 ∨ x.op = 5 ∨ x.op = 7 ∨ x.op = 10) ∧ neverB x.fr x.to = false := fun x hx => by
  unfold isCoreB at h
  simp only [Bool.and_eq_true, Bool.not_eq_true', List.any_eq_false] at h
  have := h.2 x hx
  unfold otherB at this
  split at this
  · rename_i ho
    simp only [Bool.or_eq_true, Bool.not_eq_true', not_or] at this
    exact ⟨by simpa using this.1, ho, by simpa using this.2⟩
  · simp at this
theorem core_whole {l : List Nd} (h : isCoreB l = true) : (scanW 1 l).2 = true ∧ (scanW 1 l).1 = l.length := by
  unfold isCoreB wholeB at h
  simp only [Bool.and_eq_true, beq_iff_eq] at h
  exact ⟨h.1.1, h.1.2⟩
/-- A core formula that is headed by a leaf with no terms is that leaf. -/
theorem core_leaf {l : List Nd} (h : isCoreB l = true) (op : Int) (ho : op = 0 ∨ op = 1) (hb : isB l op = true) : l = [⟨op, 0, 0, 0, [], 0⟩] := by
  cases l with
  | nil => simp [isB] at hb
  | cons x t =>
    have hop : x.op = op := by simpa [isB] using hb
    obtain ⟨hf, _, _⟩ := core_fits h x (by simp)
    obtain ⟨h1, h2⟩ := core_whole h
    unfold fitsB at hf
    simp only [Bool.and_eq_true] at hf
    obtain ⟨⟨f1, f2⟩, f3⟩ := hf
    have hn : x.n = 0 := by
      unfold fitsNB at f1
      rw [if_pos (by omega)] at f1
      simpa using f1
    have h8 : ¬ (x.op = 8 ∨ x.op = 9 ∨ x.op = 10) := by omega
    have h22 : ¬ (x.op = 2) := by omega
    unfold fitsIB at f2
    rw [if_neg h8] at f2
    unfold fitsAB at f3
    rw [if_neg h22] at f3
    simp only [Bool.and_eq_true, beq_iff_eq] at f2 f3
    have hs : scanW 1 (x :: t) = (1, true) := by
      unfold scanW
      rw [hn]
      have e : wrap64 (1 + wrap64 (0 - 1)) = 0 := by unfold wrap64; omega
      rw [e]; simp
    rw [hs] at h2
    have ht : t = [] := by
      simp only [List.length_cons] at h2
      exact List.length_eq_zero_iff.1 (by omega)
    subst ht
    obtain ⟨xo, xn, xf, xt, xs, xm⟩ := x
    simp only at hop hn f2 f3
    obtain ⟨e1, e2⟩ := f2
    obtain ⟨e3, e4⟩ := f3
    have e5 : xs = [] := List.length_eq_zero_iff.1 e3
    subst hop hn e1 e2 e4 e5
    rfl
theorem core_ff {l : List Nd} (h : isCoreB l = true) : sameB l [ff] = isB l 1 := by
  cases hb : isB l 1 with
  | true => rw [core_leaf h 1 (.inr rfl) hb]; exact same_refl _
  | false =>
    cases hs : sameB l [ff] with
    | false => rfl
    | true => rw [(sameB_iff _ _).1 hs] at hb; cases hb
theorem never_iff (fr to : Int) : neverB fr to = true ↔ to ≠ -1 ∧ to < fr := by
  unfold neverB; simp
end Go.Proofs.Ytpgdkgilmcipkaa
