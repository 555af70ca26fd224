/- The contracts of tree's fitsAtom, fits. Conditions: names of at most 2^63 - 1 bytes; at most 2^62 terms. -/
import Derived.Test.YtjnnjjajlafchaaKnG
namespace Go.Proofs.Ytjnnjjajlafchaa
open Go.RowKit
set_option linter.unusedVariables false
set_option maxRecDepth 100000

def NamesFit (l : List Tm) : Prop := ∀ t ∈ l, t.name.size ≤ 9223372036854775807
theorem NamesFit.get {l : List Tm} (h : NamesFit l) (k : Nat) (hk : k < l.length) : (l.getD k tm0).name.size ≤ 9223372036854775807 :=
  h _ (by rw [List.getD_eq_getElem?_getD, List.getElem?_eq_getElem hk]; exact List.getElem_mem hk)
def termB (t : Tm) : Bool := isNameT t.name && isNumB t.times
def fitsAB (x : Nd) : Bool := if x.op = 2 then decide (1 ≤ x.terms.length) && decide (x.terms.length ≤ 16) && x.terms.all termB && isNumB x.num else x.terms.length == 0 && x.num == 0
theorem all_take (l : List Tm) (k : Nat) (hk : k < l.length) : (l.take (k + 1)).all termB = ((l.take k).all termB && termB (l.getD k tm0)) := by
  rw [List.take_succ_eq_append_getElem hk, List.all_append]
  simp [List.getD_eq_getElem?_getD, hk]
theorem all_bad (l : List Tm) (k : Nat) (hk : k < l.length) (h : termB (l.getD k tm0) = false) : l.all termB = false := by
  rw [List.all_eq_false]
  refine ⟨l[k], List.getElem_mem hk, ?_⟩
  simpa [List.getD_eq_getElem?_getD, hk] using h
set_option maxHeartbeats 2000000 in
theorem fitsA_any (x : Nd) (ta : Option Addr) (tc : Nat) (w : World) (h : TermRow w ta x.terms) (hf : NamesFit x.terms) (hl : x.terms.length ≤ 9223372036854775807) :
    Calls Try.prog 82 #[.agg #[.int .i64 x.op, .int .i64 x.n, .int .i64 x.fr, .int .i64 x.to, .slice ta x.terms.length tc, .int .i64 x.num]] w fun e w' => e = .returned (.bool (fitsAB x)) ∧ Below w.heap.size w w' := by
  obtain ⟨op, n, fr, to, ts, num⟩ := x
  simp only at h hf hl
  have HB0 : Hid (Below w.heap.size w (w.alloc (.cells #[.int .i64 op, .int .i64 n, .int .i64 fr, .int .i64 to, .slice ta ts.length tc, .int .i64 num] 67))) := (Below.refl _ _).alloc (Nat.le_refl _) _
  by_cases h2 : op = 2
  · subst h2
    have HE : Hid (fitsAB ⟨2, n, fr, to, ts, num⟩ = (decide (1 ≤ ts.length) && decide (ts.length ≤ 16) && ts.all termB && isNumB num)) := by simp [Hid, fitsAB]
    by_cases c1 : 1 ≤ ts.length
    · by_cases c2 : ts.length ≤ 16
      · have HE2 : Hid (fitsAB ⟨2, n, fr, to, ts, num⟩ = (ts.all termB && isNumB num)) := by show _ = _; rw [HE.out]; simp [c1, c2]
        have HR : Hid (TermRow w ta ts) := h
        have HF : Hid (NamesFit ts) := hf
        clear h hf HE
        have c3 : ¬ ((ts.length : Int) < 1) := by omega
        have c4 : ¬ ((16 : Int) < (ts.length : Int)) := by omega
        go_enter Try.func82, Try.ntmps82
        go_wp2
        go_loopw [30] (fun i wr => ∃ k : Nat, k ≤ ts.length ∧ i = .int .i64 k ∧ Below w.heap.size w wr ∧ (∀ j, wr.cell? ⟨w.heap.size, j, none⟩ = (w.alloc (.cells #[.int .i64 2, .int .i64 n, .int .i64 fr, .int .i64 to, .slice ta ts.length tc, .int .i64 num] 67)).cell? ⟨w.heap.size, j, none⟩) ∧ w.heap.size < wr.heap.size ∧ (ts.take k).all termB = true) (fun i _ => ts.length - (intOf i).toNat)
        case atStart => exact ⟨0, Nat.zero_le _, rfl, HB0.out, fun j => rfl, by simp, rfl⟩
        case round =>
          obtain ⟨k, hk, rfl, hb, hc, hlt0, ha⟩ := hrel
          have HB : Hid (Below w.heap.size w wr) := hb
          have HC : Hid (∀ j, wr.cell? ⟨w.heap.size, j, none⟩ = (w.alloc (.cells #[.int .i64 2, .int .i64 n, .int .i64 fr, .int .i64 to, .slice ta ts.length tc, .int .i64 num] 67)).cell? ⟨w.heap.size, j, none⟩) := hc
          have HA : Hid ((ts.take k).all termB = true) := ha
          clear hb hc ha
          by_cases hlt : k < ts.length
          · obtain ⟨b, off, rfl, h0, h1⟩ := HR.out.below HB.out k hlt
            have hsz := HF.out.get k hlt
            have HT : Hid ((ts.take (k + 1)).all termB = ((ts.take k).all termB && termB (ts.getD k tm0))) := all_take ts k hlt
            have HTB : Hid (termB (ts.getD k tm0) = false → ts.all termB = false) := all_bad ts k hlt
            generalize ts.getD k tm0 = t at *
            obtain ⟨tn, tt⟩ := t
            simp only at h0 h1 hsz
            have HN : Hid (∀ X, Calls Try.prog 89 #[.string tn] X fun e w' => e = .returned (.bool (isNameT tn)) ∧ w' = X) := fun X => isNameT_any tn X hsz
            have HM : Hid (∀ X, Calls Try.prog 90 #[.int .i64 tt] X fun e w' => e = .returned (.bool (isNumB tt)) ∧ w' = X) := fun X => isNum_any tt X
            have HX : Hid (termB ⟨tn, tt⟩ = (isNameT tn && isNumB tt)) := rfl
            have HB2 : Hid (Below w.heap.size w (wr.alloc (.cells #[.string tn, .int .i64 tt] 74))) := HB.out.alloc HB.out.size _
            clear hsz
            cases b1 : isNameT tn with
            | false =>
              rw [b1] at HN HX
              clear b1
              go_wp2_with (go_at_call 89; refine (HN.out _).mono ?_; rintro e w' ⟨rfl, hw9⟩; subst w')
              go_ret
              exact ⟨ret_bool (by rw [HE2.out, HTB.out (by rw [HX.out]; rfl)]; rfl), HB2.out⟩
            | true =>
              rw [b1] at HN HX
              clear b1
              cases b2 : isNumB tt with
              | false =>
                rw [b2] at HM HX
                clear b2
                go_wp2_with (first | (go_at_call 89; refine (HN.out _).mono ?_; rintro e w' ⟨rfl, hw9⟩; subst w') | (go_at_call 90; refine (HM.out _).mono ?_; rintro e w' ⟨rfl, hw9⟩; subst w'))
                go_ret
                exact ⟨ret_bool (by rw [HE2.out, HTB.out (by rw [HX.out]; rfl)]; rfl), HB2.out⟩
              | true =>
                rw [b2] at HM HX
                clear b2
                go_wp2_with (first | (go_at_call 89; refine (HN.out _).mono ?_; rintro e w' ⟨rfl, hw9⟩; subst w') | (go_at_call 90; refine (HM.out _).mono ?_; rintro e w' ⟨rfl, hw9⟩; subst w'))
                go_roundw
                case rel => exact ⟨k + 1, by omega, by go_num, HB2.out, fun j => by rw [cell_alloc_lt _ _ _ _ hlt0]; exact HC.out j, by simp; omega, by rw [HT.out, HA.out, HX.out]; rfl⟩
                case measure => simp [intOf]; omega
          · have hkk : k = ts.length := by omega
            have HZ : Hid (ts.all termB = true) := by have := HA.out; rw [hkk, List.take_length] at this; exact this
            have e5 : wr.cell? ⟨w.heap.size, 5, none⟩ = some (.int .i64 num) := by rw [HC.out 5]; simp [go_sem]
            have HM : Hid (∀ X, Calls Try.prog 90 #[.int .i64 num] X fun e w' => e = .returned (.bool (isNumB num)) ∧ w' = X) := fun X => isNum_any num X
            clear hkk
            go_wp2_with (go_at_call 90; refine (HM.out _).mono ?_; rintro e w' ⟨rfl, hw9⟩; subst w')
            go_ret
            exact ⟨ret_bool (by rw [HE2.out, HZ.out]; rfl), HB.out⟩
      · have HE2 : Hid (fitsAB ⟨2, n, fr, to, ts, num⟩ = false) := by show _ = _; rw [HE.out]; simp [c2]
        have c3 : ¬ ((ts.length : Int) < 1) := by omega
        have c4 : (16 : Int) < (ts.length : Int) := by omega
        clear HE h hf
        go_enter Try.func82, Try.ntmps82
        go_wp2
        go_ret
        exact ⟨ret_bool HE2.out.symm, HB0.out⟩
    · have HE2 : Hid (fitsAB ⟨2, n, fr, to, ts, num⟩ = false) := by show _ = _; rw [HE.out]; simp [c1]
      have c3 : ((ts.length : Int) < 1) := by omega
      clear HE h hf
      go_enter Try.func82, Try.ntmps82
      go_wp2
      go_ret
      exact ⟨ret_bool HE2.out.symm, HB0.out⟩
  · have HE : Hid (fitsAB ⟨op, n, fr, to, ts, num⟩ = (ts.length == 0 && num == 0)) := by simp only [Hid, fitsAB]; rw [if_neg h2]
    have k1 : (op == 2) = false := by simpa using h2
    have k2 : (op != 2) = true := by simpa using h2
    clear h hf h2
    by_cases c1 : ts.length = 0
    · have c2 : ((ts.length : Int) == 0) = true := by rw [c1]; rfl
      have HE2 : Hid (fitsAB ⟨op, n, fr, to, ts, num⟩ = (num == 0)) := by show _ = _; rw [HE.out]; simp [c1]
      clear c1 HE
      go_enter Try.func82, Try.ntmps82
      go_wp2
      go_ret
      exact ⟨ret_bool HE2.out.symm, HB0.out⟩
    · have c2 : ((ts.length : Int) == 0) = false := by rw [beq_eq_false_iff_ne]; omega
      have HE2 : Hid (fitsAB ⟨op, n, fr, to, ts, num⟩ = false) := by show _ = _; rw [HE.out]; simp [c1]
      clear c1 HE
      go_enter Try.func82, Try.ntmps82
      go_wp2
      go_ret
      exact ⟨ret_bool HE2.out.symm, HB0.out⟩
def fitsB (x : Nd) : Bool := fitsNB x.op x.n && fitsIB x.op x.fr x.to && fitsAB x
set_option maxHeartbeats 2000000 in
theorem fits_any (x : Nd) (ta : Option Addr) (tc : Nat) (w : World) (h : TermRow w ta x.terms) (hf : NamesFit x.terms) (hl : x.terms.length ≤ 9223372036854775807) :
    Calls Try.prog 69 #[.agg #[.int .i64 x.op, .int .i64 x.n, .int .i64 x.fr, .int .i64 x.to, .slice ta x.terms.length tc, .int .i64 x.num]] w fun e w' => e = .returned (.bool (fitsB x)) ∧ Below w.heap.size w w' := by
  have HA : Hid (∀ X, Below w.heap.size w X → Calls Try.prog 82 #[.agg #[.int .i64 x.op, .int .i64 x.n, .int .i64 x.fr, .int .i64 x.to, .slice ta x.terms.length tc, .int .i64 x.num]] X fun e w' => e = .returned (.bool (fitsAB x)) ∧ Below X.heap.size X w') := fun X hX => fitsA_any x ta tc X (h.below hX) hf hl
  have HE : Hid (fitsB x = (fitsNB x.op x.n && fitsIB x.op x.fr x.to && fitsAB x)) := rfl
  obtain ⟨op, n, fr, to, ts, num⟩ := x
  simp only at HA HE
  have HN : Hid (∀ X, Calls Try.prog 80 #[.agg #[.int .i64 op, .int .i64 n, .int .i64 fr, .int .i64 to, .slice ta ts.length tc, .int .i64 num]] X fun e w' => e = .returned (.bool (fitsNB op n)) ∧ Below X.heap.size X w') := fun X => fitsN_any op n fr to num _ _ _ X
  have HI : Hid (∀ X, Calls Try.prog 81 #[.agg #[.int .i64 op, .int .i64 n, .int .i64 fr, .int .i64 to, .slice ta ts.length tc, .int .i64 num]] X fun e w' => e = .returned (.bool (fitsIB op fr to)) ∧ Below X.heap.size X w') := fun X => fitsI_any op n fr to num _ _ _ X
  generalize fitsB ⟨op, n, fr, to, ts, num⟩ = r at *
  generalize fitsAB ⟨op, n, fr, to, ts, num⟩ = ra at *
  generalize fitsNB op n = rn at *
  generalize fitsIB op fr to = ri at *
  have HB0 : Hid (Below w.heap.size w (w.alloc (.cells #[.int .i64 op, .int .i64 n, .int .i64 fr, .int .i64 to, .slice ta ts.length tc, .int .i64 num] 67))) := (Below.refl _ _).alloc (Nat.le_refl _) _
  have HU : Hid (∀ X, Below (w.alloc (.cells #[.int .i64 op, .int .i64 n, .int .i64 fr, .int .i64 to, .slice ta ts.length tc, .int .i64 num] 67)).heap.size (w.alloc (.cells #[.int .i64 op, .int .i64 n, .int .i64 fr, .int .i64 to, .slice ta ts.length tc, .int .i64 num] 67)) X → ∀ j, X.cell? ⟨w.heap.size, j, none⟩ = (w.alloc (.cells #[.int .i64 op, .int .i64 n, .int .i64 fr, .int .i64 to, .slice ta ts.length tc, .int .i64 num] 67)).cell? ⟨w.heap.size, j, none⟩) := fun X hX j => hX.cell (p := ⟨w.heap.size, j, none⟩) (by simp)
  clear h
  go_enter Try.func69, Try.ntmps69
  go_wp2_with fail
  refine Calls.mono (HN.out _) ?_
  rintro e W1 ⟨rfl, hb1⟩
  have HB1 : Hid (Below w.heap.size w W1) := HB0.out.trans (hb1.mono HB0.out.size)
  have e0 : W1.cell? ⟨w.heap.size, 0, none⟩ = some (.int .i64 op) := by rw [HU.out _ hb1]; simp [go_sem]
  have e1 : W1.cell? ⟨w.heap.size, 1, none⟩ = some (.int .i64 n) := by rw [HU.out _ hb1]; simp [go_sem]
  have e2 : W1.cell? ⟨w.heap.size, 2, none⟩ = some (.int .i64 fr) := by rw [HU.out _ hb1]; simp [go_sem]
  have e3 : W1.cell? ⟨w.heap.size, 3, none⟩ = some (.int .i64 to) := by rw [HU.out _ hb1]; simp [go_sem]
  have e4 : W1.cell? ⟨w.heap.size, 4, none⟩ = some (.slice ta ts.length tc) := by rw [HU.out _ hb1]; simp [go_sem]
  have e5 : W1.cell? ⟨w.heap.size, 5, none⟩ = some (.int .i64 num) := by rw [HU.out _ hb1]; simp [go_sem]
  cases rn with
  | false =>
    go_wp2
    go_ret
    exact ⟨ret_bool (by rw [HE.out]; rfl), HB1.out⟩
  | true =>
    go_wp2_with fail
    refine Calls.mono (HI.out _) ?_
    rintro e W2 ⟨rfl, hb2⟩
    have HB2 : Hid (Below w.heap.size w W2) := HB1.out.trans (hb2.mono HB1.out.size)
    have k0 := cell_up hb2 e0
    have k1 := cell_up hb2 e1
    have k2 := cell_up hb2 e2
    have k3 := cell_up hb2 e3
    have k4 := cell_up hb2 e4
    have k5 := cell_up hb2 e5
    clear hb2 hb1 e0 e1 e2 e3 e4 e5
    cases ri with
    | false =>
      go_wp2
      go_ret
      exact ⟨ret_bool (by rw [HE.out]; rfl), HB2.out⟩
    | true =>
      go_wp2_with fail
      refine Calls.mono (HA.out _ HB2.out) ?_
      rintro e W3 ⟨rfl, hb3⟩
      have HB3 : Hid (Below w.heap.size w W3) := HB2.out.trans (hb3.mono HB2.out.size)
      clear hb3
      go_wp2
      go_ret
      exact ⟨ret_bool (by rw [HE.out]; rfl), HB3.out⟩
end Go.Proofs.Ytjnnjjajlafchaa
