/- The contracts of kinds' all, Len, Find, has, Signal, named. Conditions: at most 1000000 signals. -/
import Derived.Test.YtipbjoeekbgnbaaKnB
import Derived.Test.YtipbjoeekbgnbaaBz3
import Derived.Deep.RegionHeld3
import Derived.Test.YtipbjoeekbgnbaaKnA
namespace Go.Proofs.Ytipbjoeekbgnbaa
open Go.RowKit
set_option linter.unusedVariables false
set_option maxRecDepth 100000

/-- Names at p that have these signals. -/
def NmAt (W : World) (p : Nat) (l : List Sig) : Prop := ∃ a cap, W.cell? ⟨p, 0, none⟩ = some (.slice a l.length cap) ∧ SigRow W a l
theorem NmAt.below {W W' : World} {p : Nat} {l : List Sig} (h : NmAt W p l) (k : Below W.heap.size W W') : NmAt W' p l := by
  obtain ⟨a, cap, hc, hr⟩ := h
  refine ⟨a, cap, ?_, hr.below k⟩
  rw [k.cell (p := ⟨p, 0, none⟩) (World.block_lt_of_cell? W _ hc)]; exact hc
/-- What Find tells. -/
def FindSays (l : List Sig) (s : ByteArray) (e : Ending) : Prop := e = .returned (.tuple #[.int .i64 (if idxN l s < l.length then (idxN l s : Int) else 0), .int .i64 (if idxN l s < l.length then 0 else 40)])
def hasB (l : List Sig) (s : ByteArray) : Bool := decide (idxN l s < l.length)
def sigV (x : Sig) : Value := .agg #[.string x.name, .string x.unit, .int .i64 x.lo, .int .i64 x.hi]
end Go.Proofs.Ytipbjoeekbgnbaa

namespace Go.Proofs.Ytipbjoeekbgnbaa
open Go.RowKit
set_option linter.unusedVariables false
set_option maxRecDepth 100000

def sigC (x : Sig) : List Value := [.string x.name, .string x.unit, .int .i64 x.lo, .int .i64 x.hi]
theorem sigC_len (x : Sig) : (sigC x).length = 4 := rfl
theorem sigC_one (x : Sig) : ∀ u ∈ sigC x, u.oneCell' = true := by
  intro u hu
  simp only [sigC, List.mem_cons, List.not_mem_nil, or_false] at hu
  rcases hu with rfl | rfl | rfl | rfl <;> rfl
def isNameB (s : ByteArray) : Bool := isNameL s.data.toList
theorem isNameB_any (s : ByteArray) (w : World) (hs : s.size ≤ 9223372036854775807) :
    Calls Try.prog 66 #[.string s] w fun e w' => e = .returned (.bool (isNameB s)) ∧ w' = w := by
  have := isName_any s.data.toList w (by simpa using hs)
  rw [strL_of] at this; exact this
/-- What add tells of a signal. -/
def addE (l : List Sig) (x : Sig) : Int := if isNameB x.name = false ∨ hasB l x.name = true then 40 else if x.hi < x.lo then 42 else 0
end Go.Proofs.Ytipbjoeekbgnbaa

namespace Go.Proofs.Ytipbjoeekbgnbaa
open Go.RowKit
set_option linter.unusedVariables false
set_option maxRecDepth 100000

/-- A term. -/
structure Tm where
  name : ByteArray
  times : Int
def tm0 : Tm := ⟨⟨#[]⟩, 0⟩
/-- A part of a formula. -/
structure Nd where
  op : Int
  n : Int
  fr : Int
  to : Int
  terms : List Tm
  num : Int
def nd0 : Nd := ⟨0, 0, 0, 0, [], 0⟩
def TermRow (w : World) (a : Option Addr) (l : List Tm) : Prop := ∀ i, i < l.length → ∃ b off, a = some ⟨b, off, none⟩ ∧ w.cell? ⟨b, off + i * 2, none⟩ = some (.string (l.getD i tm0).name) ∧ w.cell? ⟨b, off + i * 2 + 1, none⟩ = some (.int .i64 (l.getD i tm0).times)
theorem cell_up {w w' : World} (k : Below w.heap.size w w') {b o : Nat} {v : Value} (hv : w.cell? ⟨b, o, none⟩ = some v) : w'.cell? ⟨b, o, none⟩ = some v := by
  rw [k.cell (p := ⟨b, o, none⟩) (World.block_lt_of_cell? w ⟨b, o, none⟩ hv)]; exact hv
theorem TermRow.below {w w' : World} {a : Option Addr} {l : List Tm} (h : TermRow w a l) (k : Below w.heap.size w w') : TermRow w' a l := by
  intro i hi
  obtain ⟨b, off, e, h0, h1⟩ := h i hi
  exact ⟨b, off, e, cell_up k h0, cell_up k h1⟩
def NodeAt (w : World) (b off : Nat) (x : Nd) : Prop := w.cell? ⟨b, off, none⟩ = some (.int .i64 x.op) ∧ w.cell? ⟨b, off + 1, none⟩ = some (.int .i64 x.n) ∧ w.cell? ⟨b, off + 2, none⟩ = some (.int .i64 x.fr) ∧ w.cell? ⟨b, off + 3, none⟩ = some (.int .i64 x.to) ∧
  (∃ ta tc, w.cell? ⟨b, off + 4, none⟩ = some (.slice ta x.terms.length tc) ∧ TermRow w ta x.terms) ∧ w.cell? ⟨b, off + 5, none⟩ = some (.int .i64 x.num)
theorem NodeAt.below {w w' : World} {b off : Nat} {x : Nd} (h : NodeAt w b off x) (k : Below w.heap.size w w') : NodeAt w' b off x := by
  obtain ⟨h0, h1, h2, h3, ⟨ta, tc, h4, ht⟩, h5⟩ := h
  exact ⟨cell_up k h0, cell_up k h1, cell_up k h2, cell_up k h3, ⟨ta, tc, cell_up k h4, ht.below k⟩, cell_up k h5⟩
def NodeRow (w : World) (a : Option Addr) (l : List Nd) : Prop := ∀ i, i < l.length → ∃ b off, a = some ⟨b, off, none⟩ ∧ NodeAt w b (off + i * 6) (l.getD i nd0)
theorem NodeRow.below {w w' : World} {a : Option Addr} {l : List Nd} (h : NodeRow w a l) (k : Below w.heap.size w w') : NodeRow w' a l := by
  intro i hi
  obtain ⟨b, off, e, h0⟩ := h i hi
  exact ⟨b, off, e, h0.below k⟩
theorem NodeRow.drop {w : World} {b off : Nat} {l : List Nd} (h : NodeRow w (some ⟨b, off, none⟩) l) (k : Nat) : NodeRow w (some ⟨b, off + k * 6, none⟩) (l.drop k) := by
  intro i hi
  rw [List.length_drop] at hi
  obtain ⟨b', off', e, hc⟩ := h (k + i) (by omega)
  cases e
  refine ⟨b, off + k * 6, rfl, ?_⟩
  have e1 : off + k * 6 + i * 6 = off + (k + i) * 6 := by omega
  have e2 : (l.drop k).getD i nd0 = l.getD (k + i) nd0 := by rw [List.getD_eq_getElem?_getD, List.getD_eq_getElem?_getD, List.getElem?_drop]
  rw [e1, e2]; exact hc

def reservedL : List ByteArray := [⟨#[115, 112, 101, 99]⟩, ⟨#[99, 101, 108, 108, 115]⟩, ⟨#[115, 116, 101, 112, 115]⟩, ⟨#[115, 105, 103, 110, 97, 108]⟩, ⟨#[112, 114, 111, 112]⟩, ⟨#[116, 114, 117, 101]⟩, ⟨#[102, 97, 108, 115, 101]⟩, ⟨#[97, 110, 100]⟩, ⟨#[111, 114]⟩, ⟨#[110, 111, 116]⟩, ⟨#[112, 114, 101, 118]⟩, ⟨#[111, 110, 99, 101]⟩, ⟨#[104, 105, 115, 116]⟩, ⟨#[115, 105, 110, 99, 101]⟩, ⟨#[105, 110, 102]⟩]
def isResB (s : ByteArray) : Bool := reservedL.any fun r => eqS s r
theorem isResB_mem {s : ByteArray} (h : isResB s = true) : s ∈ reservedL := by
  unfold isResB at h
  rw [List.any_eq_true] at h
  obtain ⟨r, hr, he⟩ := h
  rw [(eqS_iff s r).1 he]; exact hr
theorem isResB_not {s r : ByteArray} (h : isResB s = false) (hr : r ∈ reservedL) : eqS s r = false := by
  unfold isResB at h
  rw [List.any_eq_false] at h
  cases q : eqS s r with
  | false => rfl
  | true => exact absurd q (h r hr)
set_option maxHeartbeats 2000000 in
theorem isReserved_yes (s : ByteArray) (w : World) (h : isResB s = true) :
    Calls Try.prog 67 #[.string s] w fun e w' => e = .returned (.bool true) ∧ w' = w := by
  have hm := isResB_mem h
  clear h
  simp only [reservedL, List.mem_cons, List.not_mem_nil, or_false] at hm
  rcases hm with rfl | rfl | rfl | rfl | rfl | rfl | rfl | rfl | rfl | rfl | rfl | rfl | rfl | rfl | rfl
  all_goals
    go_enter Try.func67, Try.ntmps67
    go_wp2
    go_ret
    exact ⟨rfl, rfl⟩
theorem eqS_lit {s : ByteArray} {l : List UInt8} (h : eqS s ⟨l.toArray⟩ = false) : (s.toList == l) = false := by
  unfold eqS at h
  rw [bytes_toList ⟨l.toArray⟩] at h
  exact h
set_option maxHeartbeats 2000000 in
theorem isReserved_no (s : ByteArray) (w : World) (h : isResB s = false) :
    Calls Try.prog 67 #[.string s] w fun e w' => e = .returned (.bool false) ∧ w' = w := by
  have h0 : (s.toList == [115, 112, 101, 99]) = false := eqS_lit (isResB_not h (r := ⟨#[115, 112, 101, 99]⟩) (by simp [reservedL]))
  have h1 : (s.toList == [99, 101, 108, 108, 115]) = false := eqS_lit (isResB_not h (r := ⟨#[99, 101, 108, 108, 115]⟩) (by simp [reservedL]))
  have h2 : (s.toList == [115, 116, 101, 112, 115]) = false := eqS_lit (isResB_not h (r := ⟨#[115, 116, 101, 112, 115]⟩) (by simp [reservedL]))
  have h3 : (s.toList == [115, 105, 103, 110, 97, 108]) = false := eqS_lit (isResB_not h (r := ⟨#[115, 105, 103, 110, 97, 108]⟩) (by simp [reservedL]))
  have h4 : (s.toList == [112, 114, 111, 112]) = false := eqS_lit (isResB_not h (r := ⟨#[112, 114, 111, 112]⟩) (by simp [reservedL]))
  have h5 : (s.toList == [116, 114, 117, 101]) = false := eqS_lit (isResB_not h (r := ⟨#[116, 114, 117, 101]⟩) (by simp [reservedL]))
  have h6 : (s.toList == [102, 97, 108, 115, 101]) = false := eqS_lit (isResB_not h (r := ⟨#[102, 97, 108, 115, 101]⟩) (by simp [reservedL]))
  have h7 : (s.toList == [97, 110, 100]) = false := eqS_lit (isResB_not h (r := ⟨#[97, 110, 100]⟩) (by simp [reservedL]))
  have h8 : (s.toList == [111, 114]) = false := eqS_lit (isResB_not h (r := ⟨#[111, 114]⟩) (by simp [reservedL]))
  have h9 : (s.toList == [110, 111, 116]) = false := eqS_lit (isResB_not h (r := ⟨#[110, 111, 116]⟩) (by simp [reservedL]))
  have h10 : (s.toList == [112, 114, 101, 118]) = false := eqS_lit (isResB_not h (r := ⟨#[112, 114, 101, 118]⟩) (by simp [reservedL]))
  have h11 : (s.toList == [111, 110, 99, 101]) = false := eqS_lit (isResB_not h (r := ⟨#[111, 110, 99, 101]⟩) (by simp [reservedL]))
  have h12 : (s.toList == [104, 105, 115, 116]) = false := eqS_lit (isResB_not h (r := ⟨#[104, 105, 115, 116]⟩) (by simp [reservedL]))
  have h13 : (s.toList == [115, 105, 110, 99, 101]) = false := eqS_lit (isResB_not h (r := ⟨#[115, 105, 110, 99, 101]⟩) (by simp [reservedL]))
  have h14 : (s.toList == [105, 110, 102]) = false := eqS_lit (isResB_not h (r := ⟨#[105, 110, 102]⟩) (by simp [reservedL]))
  clear h
  go_enter Try.func67, Try.ntmps67
  go_wp2
  go_ret
  exact ⟨rfl, rfl⟩
def isNameT (s : ByteArray) : Bool := isNameB s && !isResB s
set_option maxHeartbeats 400000 in
theorem isNameT_any (s : ByteArray) (w : World) (hs : s.size ≤ 9223372036854775807) :
    Calls Try.prog 64 #[.string s] w fun e w' => e = .returned (.bool (isNameT s)) ∧ w' = w := by
  have HN := isNameB_any s w hs
  unfold isNameT
  cases h1 : isNameB s with
  | false =>
    rw [h1] at HN
    clear h1
    go_enter Try.func64, Try.ntmps64
    go_wp2_with (go_at_call 66; refine HN.mono ?_; rintro e w' ⟨rfl, rfl⟩)
    go_ret
    exact ⟨rfl, rfl⟩
  | true =>
    rw [h1] at HN
    clear h1
    cases h2 : isResB s with
    | true =>
      have HM := isReserved_yes s w h2
      clear h2
      go_enter Try.func64, Try.ntmps64
      go_wp2_with (first | (go_at_call 66; refine HN.mono ?_; rintro e w' ⟨rfl, hw9⟩; subst w') | (go_at_call 67; refine HM.mono ?_; rintro e w' ⟨rfl, hw9⟩; subst w'))
      go_ret
      exact ⟨rfl, rfl⟩
    | false =>
      have HM := isReserved_no s w h2
      clear h2
      go_enter Try.func64, Try.ntmps64
      go_wp2_with (first | (go_at_call 66; refine HN.mono ?_; rintro e w' ⟨rfl, hw9⟩; subst w') | (go_at_call 67; refine HM.mono ?_; rintro e w' ⟨rfl, hw9⟩; subst w'))
      go_ret
      exact ⟨rfl, rfl⟩
def isNumB (x : Int) : Bool := x != -9223372036854775808
theorem isNum_any (x : Int) (w : World) : Calls Try.prog 65 #[.int .i64 x] w fun e w' => e = .returned (.bool (isNumB x)) ∧ w' = w := by
  have HE : Hid (isNumB x = (x != -9223372036854775808)) := rfl
  go_enter Try.func65, Try.ntmps65
  go_wp2
  go_ret
  exact ⟨ret_bool HE.out.symm, rfl⟩
def isIntB (x : Int) : Bool := decide (0 ≤ x) && decide (x ≤ 2147483647)
theorem isInt_any (x : Int) (w : World) : Calls Try.prog 63 #[.int .i64 x] w fun e w' => e = .returned (.bool (isIntB x)) ∧ w' = w := by
  by_cases h1 : 0 ≤ x <;> by_cases h2 : x ≤ 2147483647
  all_goals
    have HE : Hid (isIntB x = (decide (0 ≤ x) && decide (x ≤ 2147483647))) := rfl
    go_enter Try.func63, Try.ntmps63
    go_wp2
    go_ret
    exact ⟨ret_bool (by rw [HE.out]; simp [h1, h2]), rfl⟩
end Go.Proofs.Ytipbjoeekbgnbaa

namespace Go.Proofs.Ytipbjoeekbgnbaa
open Go.RowKit
set_option linter.unusedVariables false
set_option maxRecDepth 100000

def fitsNB (op n : Int) : Bool :=
  if op = 0 ∨ op = 1 ∨ op = 2 then n == 0 else if op = 3 ∨ op = 7 ∨ op = 8 ∨ op = 9 then n == 1 else if op = 6 ∨ op = 10 then n == 2 else if op = 4 ∨ op = 5 then decide (2 ≤ n) else false
set_option maxHeartbeats 2000000 in
theorem fitsN_any (op n fr to num : Int) (tl tc : Nat) (ta : Option Addr) (w : World) :
    Calls Try.prog 60 #[.agg #[.int .i64 op, .int .i64 n, .int .i64 fr, .int .i64 to, .slice ta tl tc, .int .i64 num]] w fun e w' => e = .returned (.bool (fitsNB op n)) ∧ Below w.heap.size w w' := by
  by_cases h : op = 0 ∨ op = 1 ∨ op = 2 ∨ op = 3 ∨ op = 7 ∨ op = 8 ∨ op = 9 ∨ op = 6 ∨ op = 10 ∨ op = 4 ∨ op = 5
  · rcases h with rfl | rfl | rfl | rfl | rfl | rfl | rfl | rfl | rfl | rfl | rfl
    all_goals
      go_enter Try.func60, Try.ntmps60
      go_wp2
      go_ret
      exact ⟨ret_bool (by simp [fitsNB]), (Below.refl _ _).alloc (Nat.le_refl _) _⟩
  · have HE : Hid (fitsNB op n = false) := by
      show _ = _
      unfold fitsNB
      rw [if_neg (by omega), if_neg (by omega), if_neg (by omega), if_neg (by omega)]
    have k0 : (op == 0) = false := by simp; omega
    have k1 : (op == 1) = false := by simp; omega
    have k2 : (op == 2) = false := by simp; omega
    have k3 : (op == 3) = false := by simp; omega
    have k4 : (op == 4) = false := by simp; omega
    have k5 : (op == 5) = false := by simp; omega
    have k6 : (op == 6) = false := by simp; omega
    have k7 : (op == 7) = false := by simp; omega
    have k8 : (op == 8) = false := by simp; omega
    have k9 : (op == 9) = false := by simp; omega
    have k10 : (op == 10) = false := by simp; omega
    clear h
    go_enter Try.func60, Try.ntmps60
    go_wp2
    go_ret
    exact ⟨ret_bool HE.out.symm, (Below.refl _ _).alloc (Nat.le_refl _) _⟩
def fitsIB (op fr to : Int) : Bool := if op = 8 ∨ op = 9 ∨ op = 10 then isIntB fr && (isIntB to || to == -1) else fr == 0 && to == 0
set_option maxHeartbeats 2000000 in
theorem fitsI_any (op n fr to num : Int) (tl tc : Nat) (ta : Option Addr) (w : World) :
    Calls Try.prog 61 #[.agg #[.int .i64 op, .int .i64 n, .int .i64 fr, .int .i64 to, .slice ta tl tc, .int .i64 num]] w fun e w' => e = .returned (.bool (fitsIB op fr to)) ∧ Below w.heap.size w w' := by
  have HI : Hid (∀ x X, Calls Try.prog 63 #[.int .i64 x] X fun e w' => e = .returned (.bool (isIntB x)) ∧ w' = X) := isInt_any
  by_cases h : op = 8 ∨ op = 9 ∨ op = 10
  · have HE : Hid (fitsIB op fr to = (isIntB fr && (isIntB to || to == -1))) := by simp only [Hid, fitsIB]; rw [if_pos h]
    cases b1 : isIntB fr <;> cases b2 : isIntB to
    all_goals
      rw [b1, b2] at HE
      rcases h with rfl | rfl | rfl
      all_goals
        go_enter Try.func61, Try.ntmps61
        go_wp2_with (go_at_call 63; refine (HI.out _ _).mono ?_; rintro e w' ⟨rfl, hw9⟩; subst w')
        go_ret
        exact ⟨ret_bool (by rw [HE.out]; simp), (Below.refl _ _).alloc (Nat.le_refl _) _⟩
  · have HE : Hid (fitsIB op fr to = (fr == 0 && to == 0)) := by simp only [Hid, fitsIB]; rw [if_neg h]
    have k8 : (op == 8) = false := by simp; omega
    have k9 : (op == 9) = false := by simp; omega
    have k10 : (op == 10) = false := by simp; omega
    clear h
    cases b1 : (fr == 0)
    all_goals
      go_enter Try.func61, Try.ntmps61
      go_wp2
      go_ret
      exact ⟨ret_bool (by rw [HE.out]; simp [b1]), (Below.refl _ _).alloc (Nat.le_refl _) _⟩
end Go.Proofs.Ytipbjoeekbgnbaa

namespace Go.Proofs.Ytipbjoeekbgnbaa
open Go.RowKit
set_option linter.unusedVariables false
set_option maxRecDepth 100000

def NamesFit (l : List Tm) : Prop := ∀ t ∈ l, t.name.size ≤ 9223372036854775807
theorem NamesFit.get {l : List Tm} (h : NamesFit l) (k : Nat) (hk : k < l.length) : (l.getD k tm0).name.size ≤ 9223372036854775807 :=
  h _ (by rw [List.getD_eq_getElem?_getD, List.getElem?_eq_getElem hk]; exact List.getElem_mem hk)
def termB (t : Tm) : Bool := isNameT t.name && isNumB t.times
def fitsAB (x : Nd) : Bool := if x.op = 2 then decide (1 ≤ x.terms.length) && decide (x.terms.length ≤ 16) && x.terms.all termB && isNumB x.num else x.terms.length == 0 && x.num == 0
theorem all_take (l : List Tm) (k : Nat) (hk : k < l.length) : (l.take (k + 1)).all termB = ((l.take k).all termB && termB (l.getD k tm0)) := by
  rw [List.take_succ_eq_append_getElem hk, List.all_append]
  simp [List.getD_eq_getElem?_getD, hk]
theorem all_bad (l : List Tm) (k : Nat) (hk : k < l.length) (h : termB (l.getD k tm0) = false) : l.all termB = false := by
  rw [List.all_eq_false]
  refine ⟨l[k], List.getElem_mem hk, ?_⟩
  simpa [List.getD_eq_getElem?_getD, hk] using h
set_option maxHeartbeats 2000000 in
theorem fitsA_any (x : Nd) (ta : Option Addr) (tc : Nat) (w : World) (h : TermRow w ta x.terms) (hf : NamesFit x.terms) (hl : x.terms.length ≤ 9223372036854775807) :
    Calls Try.prog 62 #[.agg #[.int .i64 x.op, .int .i64 x.n, .int .i64 x.fr, .int .i64 x.to, .slice ta x.terms.length tc, .int .i64 x.num]] w fun e w' => e = .returned (.bool (fitsAB x)) ∧ Below w.heap.size w w' := by
  obtain ⟨op, n, fr, to, ts, num⟩ := x
  simp only at h hf hl
  have HB0 : Hid (Below w.heap.size w (w.alloc (.cells #[.int .i64 op, .int .i64 n, .int .i64 fr, .int .i64 to, .slice ta ts.length tc, .int .i64 num] 24))) := (Below.refl _ _).alloc (Nat.le_refl _) _
  by_cases h2 : op = 2
  · subst h2
    have HE : Hid (fitsAB ⟨2, n, fr, to, ts, num⟩ = (decide (1 ≤ ts.length) && decide (ts.length ≤ 16) && ts.all termB && isNumB num)) := by simp [Hid, fitsAB]
    by_cases c1 : 1 ≤ ts.length
    · by_cases c2 : ts.length ≤ 16
      · have HE2 : Hid (fitsAB ⟨2, n, fr, to, ts, num⟩ = (ts.all termB && isNumB num)) := by show _ = _; rw [HE.out]; simp [c1, c2]
        have HR : Hid (TermRow w ta ts) := h
        have HF : Hid (NamesFit ts) := hf
        clear h hf HE
        have c3 : ¬ ((ts.length : Int) < 1) := by omega
        have c4 : ¬ ((16 : Int) < (ts.length : Int)) := by omega
        go_enter Try.func62, Try.ntmps62
        go_wp2
        go_loopw [30] (fun i wr => ∃ k : Nat, k ≤ ts.length ∧ i = .int .i64 k ∧ Below w.heap.size w wr ∧ (∀ j, wr.cell? ⟨w.heap.size, j, none⟩ = (w.alloc (.cells #[.int .i64 2, .int .i64 n, .int .i64 fr, .int .i64 to, .slice ta ts.length tc, .int .i64 num] 24)).cell? ⟨w.heap.size, j, none⟩) ∧ w.heap.size < wr.heap.size ∧ (ts.take k).all termB = true) (fun i _ => ts.length - (intOf i).toNat)
        case atStart => exact ⟨0, Nat.zero_le _, rfl, HB0.out, fun j => rfl, by simp, rfl⟩
        case round =>
          obtain ⟨k, hk, rfl, hb, hc, hlt0, ha⟩ := hrel
          have HB : Hid (Below w.heap.size w wr) := hb
          have HC : Hid (∀ j, wr.cell? ⟨w.heap.size, j, none⟩ = (w.alloc (.cells #[.int .i64 2, .int .i64 n, .int .i64 fr, .int .i64 to, .slice ta ts.length tc, .int .i64 num] 24)).cell? ⟨w.heap.size, j, none⟩) := hc
          have HA : Hid ((ts.take k).all termB = true) := ha
          clear hb hc ha
          by_cases hlt : k < ts.length
          · obtain ⟨b, off, rfl, h0, h1⟩ := HR.out.below HB.out k hlt
            have hsz := HF.out.get k hlt
            have HT : Hid ((ts.take (k + 1)).all termB = ((ts.take k).all termB && termB (ts.getD k tm0))) := all_take ts k hlt
            have HTB : Hid (termB (ts.getD k tm0) = false → ts.all termB = false) := all_bad ts k hlt
            generalize ts.getD k tm0 = t at *
            obtain ⟨tn, tt⟩ := t
            simp only at h0 h1 hsz
            have HN : Hid (∀ X, Calls Try.prog 64 #[.string tn] X fun e w' => e = .returned (.bool (isNameT tn)) ∧ w' = X) := fun X => isNameT_any tn X hsz
            have HM : Hid (∀ X, Calls Try.prog 65 #[.int .i64 tt] X fun e w' => e = .returned (.bool (isNumB tt)) ∧ w' = X) := fun X => isNum_any tt X
            have HX : Hid (termB ⟨tn, tt⟩ = (isNameT tn && isNumB tt)) := rfl
            have HB2 : Hid (Below w.heap.size w (wr.alloc (.cells #[.string tn, .int .i64 tt] 36))) := HB.out.alloc HB.out.size _
            clear hsz
            cases b1 : isNameT tn with
            | false =>
              rw [b1] at HN HX
              clear b1
              go_wp2_with (go_at_call 64; refine (HN.out _).mono ?_; rintro e w' ⟨rfl, hw9⟩; subst w')
              go_ret
              exact ⟨ret_bool (by rw [HE2.out, HTB.out (by rw [HX.out]; rfl)]; rfl), HB2.out⟩
            | true =>
              rw [b1] at HN HX
              clear b1
              cases b2 : isNumB tt with
              | false =>
                rw [b2] at HM HX
                clear b2
                go_wp2_with (first | (go_at_call 64; refine (HN.out _).mono ?_; rintro e w' ⟨rfl, hw9⟩; subst w') | (go_at_call 65; refine (HM.out _).mono ?_; rintro e w' ⟨rfl, hw9⟩; subst w'))
                go_ret
                exact ⟨ret_bool (by rw [HE2.out, HTB.out (by rw [HX.out]; rfl)]; rfl), HB2.out⟩
              | true =>
                rw [b2] at HM HX
                clear b2
                go_wp2_with (first | (go_at_call 64; refine (HN.out _).mono ?_; rintro e w' ⟨rfl, hw9⟩; subst w') | (go_at_call 65; refine (HM.out _).mono ?_; rintro e w' ⟨rfl, hw9⟩; subst w'))
                go_roundw
                case rel => exact ⟨k + 1, by omega, by go_num, HB2.out, fun j => by rw [cell_alloc_lt _ _ _ _ hlt0]; exact HC.out j, by simp; omega, by rw [HT.out, HA.out, HX.out]; rfl⟩
                case measure => simp [intOf]; omega
          · have hkk : k = ts.length := by omega
            have HZ : Hid (ts.all termB = true) := by have := HA.out; rw [hkk, List.take_length] at this; exact this
            have e5 : wr.cell? ⟨w.heap.size, 5, none⟩ = some (.int .i64 num) := by rw [HC.out 5]; simp [go_sem]
            have HM : Hid (∀ X, Calls Try.prog 65 #[.int .i64 num] X fun e w' => e = .returned (.bool (isNumB num)) ∧ w' = X) := fun X => isNum_any num X
            clear hkk
            go_wp2_with (go_at_call 65; refine (HM.out _).mono ?_; rintro e w' ⟨rfl, hw9⟩; subst w')
            go_ret
            exact ⟨ret_bool (by rw [HE2.out, HZ.out]; rfl), HB.out⟩
      · have HE2 : Hid (fitsAB ⟨2, n, fr, to, ts, num⟩ = false) := by show _ = _; rw [HE.out]; simp [c2]
        have c3 : ¬ ((ts.length : Int) < 1) := by omega
        have c4 : (16 : Int) < (ts.length : Int) := by omega
        clear HE h hf
        go_enter Try.func62, Try.ntmps62
        go_wp2
        go_ret
        exact ⟨ret_bool HE2.out.symm, HB0.out⟩
    · have HE2 : Hid (fitsAB ⟨2, n, fr, to, ts, num⟩ = false) := by show _ = _; rw [HE.out]; simp [c1]
      have c3 : ((ts.length : Int) < 1) := by omega
      clear HE h hf
      go_enter Try.func62, Try.ntmps62
      go_wp2
      go_ret
      exact ⟨ret_bool HE2.out.symm, HB0.out⟩
  · have HE : Hid (fitsAB ⟨op, n, fr, to, ts, num⟩ = (ts.length == 0 && num == 0)) := by simp only [Hid, fitsAB]; rw [if_neg h2]
    have k1 : (op == 2) = false := by simpa using h2
    have k2 : (op != 2) = true := by simpa using h2
    clear h hf h2
    by_cases c1 : ts.length = 0
    · have c2 : ((ts.length : Int) == 0) = true := by rw [c1]; rfl
      have HE2 : Hid (fitsAB ⟨op, n, fr, to, ts, num⟩ = (num == 0)) := by show _ = _; rw [HE.out]; simp [c1]
      clear c1 HE
      go_enter Try.func62, Try.ntmps62
      go_wp2
      go_ret
      exact ⟨ret_bool HE2.out.symm, HB0.out⟩
    · have c2 : ((ts.length : Int) == 0) = false := by rw [beq_eq_false_iff_ne]; omega
      have HE2 : Hid (fitsAB ⟨op, n, fr, to, ts, num⟩ = false) := by show _ = _; rw [HE.out]; simp [c1]
      clear c1 HE
      go_enter Try.func62, Try.ntmps62
      go_wp2
      go_ret
      exact ⟨ret_bool HE2.out.symm, HB0.out⟩
def fitsB (x : Nd) : Bool := fitsNB x.op x.n && fitsIB x.op x.fr x.to && fitsAB x
set_option maxHeartbeats 2000000 in
theorem fits_any (x : Nd) (ta : Option Addr) (tc : Nat) (w : World) (h : TermRow w ta x.terms) (hf : NamesFit x.terms) (hl : x.terms.length ≤ 9223372036854775807) :
    Calls Try.prog 50 #[.agg #[.int .i64 x.op, .int .i64 x.n, .int .i64 x.fr, .int .i64 x.to, .slice ta x.terms.length tc, .int .i64 x.num]] w fun e w' => e = .returned (.bool (fitsB x)) ∧ Below w.heap.size w w' := by
  have HA : Hid (∀ X, Below w.heap.size w X → Calls Try.prog 62 #[.agg #[.int .i64 x.op, .int .i64 x.n, .int .i64 x.fr, .int .i64 x.to, .slice ta x.terms.length tc, .int .i64 x.num]] X fun e w' => e = .returned (.bool (fitsAB x)) ∧ Below X.heap.size X w') := fun X hX => fitsA_any x ta tc X (h.below hX) hf hl
  have HE : Hid (fitsB x = (fitsNB x.op x.n && fitsIB x.op x.fr x.to && fitsAB x)) := rfl
  obtain ⟨op, n, fr, to, ts, num⟩ := x
  simp only at HA HE
  have HN : Hid (∀ X, Calls Try.prog 60 #[.agg #[.int .i64 op, .int .i64 n, .int .i64 fr, .int .i64 to, .slice ta ts.length tc, .int .i64 num]] X fun e w' => e = .returned (.bool (fitsNB op n)) ∧ Below X.heap.size X w') := fun X => fitsN_any op n fr to num _ _ _ X
  have HI : Hid (∀ X, Calls Try.prog 61 #[.agg #[.int .i64 op, .int .i64 n, .int .i64 fr, .int .i64 to, .slice ta ts.length tc, .int .i64 num]] X fun e w' => e = .returned (.bool (fitsIB op fr to)) ∧ Below X.heap.size X w') := fun X => fitsI_any op n fr to num _ _ _ X
  generalize fitsB ⟨op, n, fr, to, ts, num⟩ = r at *
  generalize fitsAB ⟨op, n, fr, to, ts, num⟩ = ra at *
  generalize fitsNB op n = rn at *
  generalize fitsIB op fr to = ri at *
  have HB0 : Hid (Below w.heap.size w (w.alloc (.cells #[.int .i64 op, .int .i64 n, .int .i64 fr, .int .i64 to, .slice ta ts.length tc, .int .i64 num] 24))) := (Below.refl _ _).alloc (Nat.le_refl _) _
  have HU : Hid (∀ X, Below (w.alloc (.cells #[.int .i64 op, .int .i64 n, .int .i64 fr, .int .i64 to, .slice ta ts.length tc, .int .i64 num] 24)).heap.size (w.alloc (.cells #[.int .i64 op, .int .i64 n, .int .i64 fr, .int .i64 to, .slice ta ts.length tc, .int .i64 num] 24)) X → ∀ j, X.cell? ⟨w.heap.size, j, none⟩ = (w.alloc (.cells #[.int .i64 op, .int .i64 n, .int .i64 fr, .int .i64 to, .slice ta ts.length tc, .int .i64 num] 24)).cell? ⟨w.heap.size, j, none⟩) := fun X hX j => hX.cell (p := ⟨w.heap.size, j, none⟩) (by simp)
  clear h
  go_enter Try.func50, Try.ntmps50
  go_wp2_with fail
  refine Calls.mono (HN.out _) ?_
  rintro e W1 ⟨rfl, hb1⟩
  have HB1 : Hid (Below w.heap.size w W1) := HB0.out.trans (hb1.mono HB0.out.size)
  have e0 : W1.cell? ⟨w.heap.size, 0, none⟩ = some (.int .i64 op) := by rw [HU.out _ hb1]; simp [go_sem]
  have e1 : W1.cell? ⟨w.heap.size, 1, none⟩ = some (.int .i64 n) := by rw [HU.out _ hb1]; simp [go_sem]
  have e2 : W1.cell? ⟨w.heap.size, 2, none⟩ = some (.int .i64 fr) := by rw [HU.out _ hb1]; simp [go_sem]
  have e3 : W1.cell? ⟨w.heap.size, 3, none⟩ = some (.int .i64 to) := by rw [HU.out _ hb1]; simp [go_sem]
  have e4 : W1.cell? ⟨w.heap.size, 4, none⟩ = some (.slice ta ts.length tc) := by rw [HU.out _ hb1]; simp [go_sem]
  have e5 : W1.cell? ⟨w.heap.size, 5, none⟩ = some (.int .i64 num) := by rw [HU.out _ hb1]; simp [go_sem]
  cases rn with
  | false =>
    go_wp2
    go_ret
    exact ⟨ret_bool (by rw [HE.out]; rfl), HB1.out⟩
  | true =>
    go_wp2_with fail
    refine Calls.mono (HI.out _) ?_
    rintro e W2 ⟨rfl, hb2⟩
    have HB2 : Hid (Below w.heap.size w W2) := HB1.out.trans (hb2.mono HB1.out.size)
    have k0 := cell_up hb2 e0
    have k1 := cell_up hb2 e1
    have k2 := cell_up hb2 e2
    have k3 := cell_up hb2 e3
    have k4 := cell_up hb2 e4
    have k5 := cell_up hb2 e5
    clear hb2 hb1 e0 e1 e2 e3 e4 e5
    cases ri with
    | false =>
      go_wp2
      go_ret
      exact ⟨ret_bool (by rw [HE.out]; rfl), HB2.out⟩
    | true =>
      go_wp2_with fail
      refine Calls.mono (HA.out _ HB2.out) ?_
      rintro e W3 ⟨rfl, hb3⟩
      have HB3 : Hid (Below w.heap.size w W3) := HB2.out.trans (hb3.mono HB2.out.size)
      clear hb3
      go_wp2
      go_ret
      exact ⟨ret_bool (by rw [HE.out]; rfl), HB3.out⟩
end Go.Proofs.Ytipbjoeekbgnbaa

namespace Go.Proofs.Ytipbjoeekbgnbaa
open Go.RowKit
set_option linter.unusedVariables false
set_option maxRecDepth 100000

/-- f, so many times. -/
def iterO (f : List Nd → Option (List Nd)) : Nat → List Nd → Option (List Nd)
  | 0, r => some r
  | k + 1, r => (f r).bind (iterO f k)
theorem iterO_succ (f : List Nd → Option (List Nd)) (k : Nat) (r : List Nd) : iterO f (k + 1) r = (iterO f k r).bind f := by
  induction k generalizing r with
  | zero => simp only [iterO, Option.bind_some]; cases f r <;> rfl
  | succ k ih =>
    rw [iterO]
    cases h : f r with
    | none => simp [iterO, h]
    | some s => simp only [Option.bind_some]; rw [ih]; simp [iterO, h]
theorem iterO_none (f : List Nd → Option (List Nd)) (k m : Nat) (r : List Nd) (h : iterO f k r = none) : iterO f (k + m) r = none := by
  induction m with
  | zero => exact h
  | succ m ih => rw [← Nat.add_assoc, iterO_succ, ih]; rfl
/-- What stands behind the first part, where d more may stand within one another. -/
def restD : Nat → List Nd → Option (List Nd)
  | 0, _ => none
  | _ + 1, [] => none
  | d + 1, x :: r => if fitsB x then iterO (restD d) x.n.toNat r else none
/-- Every list that is asked is some list less its beginning. -/
def Dropped (l r : List Nd) : Prop := ∃ k, r = l.drop k
theorem Dropped.refl (l : List Nd) : Dropped l l := ⟨0, rfl⟩
theorem Dropped.trans {l r s : List Nd} (h : Dropped l r) (k : Dropped r s) : Dropped l s := by
  obtain ⟨i, rfl⟩ := h; obtain ⟨j, rfl⟩ := k; exact ⟨i + j, by rw [List.drop_drop]⟩
theorem fitsB_n {x : Nd} (h : fitsB x = true) : 0 ≤ x.n := by
  unfold fitsB at h
  simp only [Bool.and_eq_true] at h
  have h1 := h.1.1
  unfold fitsNB at h1
  split at h1
  · simp at h1; omega
  · split at h1
    · simp at h1; omega
    · split at h1
      · simp at h1; omega
      · split at h1
        · simp at h1; omega
        · cases h1
/-- Lists whose names and terms can be looked at. -/
def NodesFit (l : List Nd) : Prop := ∀ x ∈ l, NamesFit x.terms ∧ x.terms.length ≤ 9223372036854775807 ∧ x.n ≤ 9223372036854775807
theorem NodesFit.drop {l : List Nd} (h : NodesFit l) (k : Nat) : NodesFit (l.drop k) := fun x hx => h x (List.mem_of_mem_drop hx)
theorem size_node (w : World) : (sizeOf (Try.prog.elem 28)).run Try.prog w = .ok 6 w := by kernel_rfl
/-- 'n[1:]'. -/
theorem nodes_tail (b off cap : Nat) (x : Nd) (l : List Nd) (w : World) (hr : NodeRow w (some ⟨b, off, none⟩) (x :: l)) (hcap : l.length + 1 ≤ cap) :
    ∃ a2, (∀ W, (Instr.slice 28 (.slice (some ⟨b, off, none⟩) (l.length + 1) cap) (some (.int .i64 1)) none none).run Try.prog W = .ok (.slice a2 l.length (cap - 1)) W) ∧ NodeRow w a2 l := by
  refine ⟨if cap = 1 then some ⟨b, off, none⟩ else (some (⟨b, off, none⟩ : Addr)).map (·.add (1 * 6)), fun W => ?_, ?_⟩
  · rw [run_slice_l W 28 _ (l.length + 1) cap (by kernel_rfl) .i64 1 (by omega) (by omega), size_node]
    rfl
  · by_cases e : cap = 1
    · obtain rfl : l = [] := List.length_eq_zero_iff.1 (by omega)
      exact fun i hi => by simp at hi
    · rw [if_neg e]
      have := hr.drop 1
      simpa [addr_add] using this
/-- What behind tells. -/
def BehindTells (W : World) (d : Nat) (l : List Nd) (e : Ending) (W' : World) : Prop := Below W.heap.size W W' ∧
  ((restD d l = none ∧ e = .returned (.tuple #[.slice none 0 0, .bool false])) ∨ (∃ r a cap, restD d l = some r ∧ Dropped l r ∧ r.length < l.length ∧ e = .returned (.tuple #[.slice a r.length cap, .bool true]) ∧ NodeRow W' a r ∧ r.length ≤ cap))
set_option maxHeartbeats 4000000 in
theorem behind_any (d : Nat) : ∀ (v : Int) (hv : v + d = 24) (h0 : 0 ≤ v) (a : Option Addr) (cap : Nat) (l : List Nd) (W : World) (h : NodeRow W a l) (hcap : l.length ≤ cap) (hf : NodesFit l) (hl : l.length ≤ 9223372036854775807),
    Calls Try.prog 40 #[.slice a l.length cap, .int .i64 v] W (BehindTells W d l) := by
  induction d with
  | zero =>
    intro v hv h0 a cap l W h hcap hf hl
    obtain rfl : v = 24 := by omega
    cases l with
    | nil =>
      have HE : Hid (BehindTells W 0 [] (.returned (.tuple #[.slice none 0 0, .bool false])) W) := ⟨Below.refl _ _, .inl ⟨rfl, rfl⟩⟩
      go_enter Try.func40, Try.ntmps40
      go_wp2
      go_ret2
      exact HE.out
    | cons x l =>
      have HE : Hid (BehindTells W 0 (x :: l) (.returned (.tuple #[.slice none 0 0, .bool false])) W) := ⟨Below.refl _ _, .inl ⟨rfl, rfl⟩⟩
      have e : (x :: l).length = l.length + 1 := rfl
      rw [e] at hl ⊢
      have hne : (((l.length + 1 : Nat) : Int) == 0) = false := by rw [beq_eq_false_iff_ne]; omega
      clear h hf hcap e
      generalize l.length + 1 = n at *
      go_enter Try.func40, Try.ntmps40
      go_wp2
      go_ret2
      exact HE.out
  | succ d ih =>
    intro v hv h0 a cap l W h hcap hf hl
    have hv24 : v < 24 := by omega
    cases l with
    | nil =>
      have HE : Hid (BehindTells W (d + 1) [] (.returned (.tuple #[.slice none 0 0, .bool false])) W) := ⟨Below.refl _ _, .inl ⟨rfl, rfl⟩⟩
      go_enter Try.func40, Try.ntmps40
      go_wp2
      go_ret2
      exact HE.out
    | cons x l =>
      have HIH : Hid (∀ (v : Int) (hv : v + d = 24) (h0 : 0 ≤ v) (a : Option Addr) (cap : Nat) (l : List Nd) (W : World) (h : NodeRow W a l) (hcap : l.length ≤ cap) (hf : NodesFit l) (hl : l.length ≤ 9223372036854775807), Calls Try.prog 40 #[.slice a l.length cap, .int .i64 v] W (BehindTells W d l)) := ih
      clear ih
      have e : (x :: l).length = l.length + 1 := rfl
      rw [e] at hcap hl ⊢
      obtain ⟨b, off, rfl, n0, n1, n2, n3, ⟨ta, tc, n4, ht⟩, n5⟩ := h 0 (by simp)
      simp only [Nat.zero_mul, Nat.add_zero, List.getD_cons_zero] at n0 n1 n2 n3 n4 n5 ht
      obtain ⟨a2, hsl, hr2⟩ := nodes_tail b off cap x l W h hcap
      obtain ⟨hfx, hfl, hxm⟩ := hf x (by simp)
      have HFI := fits_any x ta tc W ht hfx hfl
      have hne : ((l.length : Int) + 1 == 0) = false := by rw [beq_eq_false_iff_ne]; omega
      have HF : Hid (NodesFit l) := fun y hy => hf y (by simp [hy])
      have HR2 : Hid (NodeRow W a2 l) := hr2
      have HD : Hid (restD (d + 1) (x :: l) = if fitsB x then iterO (restD d) x.n.toNat l else none) := rfl
      have HXN : Hid (fitsB x = true → 0 ≤ x.n) := fitsB_n
      have hp0 : ((0 : Nat) : Int) = 0 := rfl
      clear h hf hfx hfl ht hr2 e
      generalize fitsB x = fx at *
      obtain ⟨op, xn, fr, to, ts, num⟩ := x
      simp only at n0 n1 n2 n3 n4 n5 HFI HD HXN hxm
      have HW : Hid (∀ e W', Below W.heap.size W W' → restD (d + 1) (⟨op, xn, fr, to, ts, num⟩ :: l) = none → e = .returned (.tuple #[.slice none 0 0, .bool false]) → BehindTells W (d + 1) (⟨op, xn, fr, to, ts, num⟩ :: l) e W') := fun e W' h1 h2 h3 => ⟨h1, .inl ⟨h2, h3⟩⟩
      have HWY : Hid (∀ W' r ar cr, Below W.heap.size W W' → restD (d + 1) (⟨op, xn, fr, to, ts, num⟩ :: l) = some r → Dropped l r → NodeRow W' ar r → r.length ≤ cr → BehindTells W (d + 1) (⟨op, xn, fr, to, ts, num⟩ :: l) (.returned (.tuple #[.slice ar r.length cr, .bool true])) W') := fun W' r ar cr h1 h2 h3 h4 h5 => ⟨h1, .inr ⟨r, ar, cr, h2, (Dropped.trans ⟨1, rfl⟩ h3), by
        obtain ⟨k, rfl⟩ := h3; rw [List.length_drop, List.length_cons]; omega, rfl, h4, h5⟩⟩
      cases fx with
      | false =>
        go_enter Try.func40, Try.ntmps40
        go_wp2_with (go_at_call 50; refine HFI.mono ?_; rintro e W1 ⟨rfl, hb1⟩)
        go_ret2
        exact HW.out _ _ hb1 (by rw [HD.out]; rfl) rfl
      | true =>
        have hx0 : 0 ≤ xn := HXN.out rfl
        have HD2 : Hid (restD (d + 1) (⟨op, xn, fr, to, ts, num⟩ :: l) = iterO (restD d) xn.toNat l) := HD.out
        clear HXN HD
        go_enter Try.func40, Try.ntmps40
        go_wp2_with fail
        refine HFI.mono ?_
        rintro e W1 ⟨rfl, hb1⟩
        have HB1 : Hid (Below W.heap.size W W1) := hb1
        have m1 := cell_up hb1 n1
        clear n0 n1 n2 n3 n4 n5 hb1
        go_wp2
        go_loopw [6, 29] (fun s i wr => ∃ k : Nat, k ≤ xn.toNat ∧ i = .int .i64 k ∧ Below W.heap.size W wr ∧ ∃ r ar cr, s = .slice ar r.length cr ∧ iterO (restD d) k l = some r ∧ NodeRow wr ar r ∧ r.length ≤ cr ∧ Dropped l r) (fun s i wr => xn.toNat - (intOf i).toNat)
        case atStart => exact ⟨0, Nat.zero_le _, rfl, HB1.out, l, a2, cap - 1, rfl, rfl, HR2.out.below HB1.out, by omega, Dropped.refl l⟩
        case round =>
          obtain ⟨k, hk, rfl, hb, r, ar, cr, rfl, hi, hr, hrc, hd⟩ := hrel
          have HB : Hid (Below W.heap.size W wr) := hb
          have HI : Hid (iterO (restD d) k l = some r) := hi
          have HD : Hid (Dropped l r) := hd
          have HRR : Hid (NodeRow wr ar r) := hr
          have hlen : r.length ≤ l.length := by obtain ⟨q, rfl⟩ := hd; rw [List.length_drop]; omega
          have hrl : r.length ≤ 9223372036854775807 := by omega
          have HFR : Hid (NodesFit r) := by obtain ⟨q, rfl⟩ := hd; exact HF.out.drop q
          clear hb hi hd hr
          by_cases hlt : (k : Int) < xn
          · have HC := HIH.out (v + 1) (by omega) (by omega) ar cr r wr HRR.out hrc HFR.out hrl
            have HS : Hid (iterO (restD d) (k + 1) l = restD d r) := by show _ = _; rw [iterO_succ, HI.out]; rfl
            have HZ : Hid (restD d r = none → iterO (restD d) xn.toNat l = none) := fun q => by
              have e1 : iterO (restD d) (k + 1) l = none := by rw [HS.out]; exact q
              have e2 : xn.toNat = (k + 1) + (xn.toNat - (k + 1)) := by omega
              rw [e2]; exact iterO_none _ _ _ _ e1
            have hv25 : v + 1 ≤ 24 := by omega
            go_wp2_with fail
            refine Calls.mono HC ?_
            rintro e W3 ⟨hb3, h3⟩
            have HB3 : Hid (Below W.heap.size W W3) := HB.out.trans (hb3.mono HB.out.size)
            clear hb3
            rcases h3 with ⟨hn, rfl⟩ | ⟨r3, a3, c3, hs3, hd3, hl3, rfl, hr3, hc3⟩
            · have HN : Hid (iterO (restD d) xn.toNat l = none) := HZ.out hn
              clear hn HC
              go_wp2
              go_ret2
              exact HW.out _ _ HB3.out (by rw [HD2.out]; exact HN.out) rfl
            · have HN : Hid (iterO (restD d) (k + 1) l = some r3) := by show _ = _; rw [HS.out]; exact hs3
              have HD3 : Hid (Dropped l r3) := HD.out.trans hd3
              have HR3 : Hid (NodeRow W3 a3 r3) := hr3
              clear hs3 hd3 hr3 HC
              go_wp2
              go_roundw
              case rel => exact ⟨k + 1, by omega, by go_num, HB3.out, r3, a3, c3, rfl, HN.out, HR3.out, hc3, HD3.out⟩
              case measure => simp [intOf]; omega
          · have hkk : k = xn.toNat := by omega
            have HZ : Hid (iterO (restD d) xn.toNat l = some r) := by have := HI.out; rw [hkk] at this; exact this
            clear hkk
            go_wp2
            go_ret2
            exact HWY.out _ _ _ _ HB.out (by rw [HD2.out]; exact HZ.out) HD.out HRR.out hrc
end Go.Proofs.Ytipbjoeekbgnbaa

namespace Go.Proofs.Ytipbjoeekbgnbaa
open Go.RowKit
set_option linter.unusedVariables false
set_option maxRecDepth 100000

/-- The first error, and whose, of signals that are added behind others. -/
def newE (acc : List Sig) : List Sig → Int × ByteArray
  | [] => (0, ⟨#[]⟩)
  | x :: r => if addE acc x = 0 then newE (acc ++ [x]) r else (addE acc x, x.name)
theorem newE_take (l : List Sig) (k : Nat) (hk : k < l.length) (h : addE (l.take k) (l.getD k sig0) = 0) (he : newE [] l = newE (l.take k) (l.drop k)) : newE [] l = newE (l.take (k + 1)) (l.drop (k + 1)) := by
  rw [he, List.drop_eq_getElem_cons hk, List.take_succ_eq_append_getElem hk]
  have e : l.getD k sig0 = l[k] := by simp [List.getD_eq_getElem?_getD, hk]
  rw [e] at h
  simp only [newE]
  rw [if_pos h]
theorem newE_bad (l : List Sig) (k : Nat) (hk : k < l.length) (h : addE (l.take k) (l.getD k sig0) ≠ 0) (he : newE [] l = newE (l.take k) (l.drop k)) : newE [] l = (addE (l.take k) (l.getD k sig0), (l.getD k sig0).name) := by
  rw [he, List.drop_eq_getElem_cons hk]
  have e : l.getD k sig0 = l[k] := by simp [List.getD_eq_getElem?_getD, hk]
  rw [e] at h ⊢
  simp only [newE]
  rw [if_neg h]
theorem newE_all (l : List Sig) (k : Nat) (hk : l.length ≤ k) (he : newE [] l = newE (l.take k) (l.drop k)) : newE [] l = (0, ⟨#[]⟩) := by
  rw [he, List.drop_of_length_le hk]; rfl
/-- What NewNames tells besides the names. -/
def namesE (l : List Sig) : Int × ByteArray := if 16 < l.length then (2, ⟨#[]⟩) else newE [] l
end Go.Proofs.Ytipbjoeekbgnbaa

namespace Go.Proofs.Ytipbjoeekbgnbaa
open Go.RowKit
set_option linter.unusedVariables false
set_option maxRecDepth 100000

def validB (l : List Nd) : Bool := decide (l.length ≤ 300) && (match restD 24 l with | some r => r.length == 0 | none => false)
set_option maxHeartbeats 1000000 in
theorem valid_any (a : Option Addr) (cap : Nat) (l : List Nd) (W : World) (h : NodeRow W a l) (hcap : l.length ≤ cap) (hf : NodesFit l) (hl : l.length ≤ 9223372036854775807) :
    Calls Try.prog 30 #[.slice a l.length cap] W fun e W' => e = .returned (.bool (validB l)) ∧ Below W.heap.size W W' := by
  by_cases hb : l.length ≤ 300
  · have HE : Hid (validB l = (match restD 24 l with | some r => r.length == 0 | none => false)) := by simp [Hid, validB, hb]
    have HC := behind_any 24 0 (by omega) (by omega) a cap l W h hcap hf hl
    clear h hf
    go_enter Try.func30, Try.ntmps30
    go_wp2_with fail
    refine Calls.mono HC ?_
    rintro e W1 ⟨hb1, h1⟩
    have HB1 : Hid (Below W.heap.size W W1) := hb1
    clear hb1 HC
    rcases h1 with ⟨hn, rfl⟩ | ⟨r, a3, c3, hs3, _, hl3, rfl, hr3, hc3⟩
    · rw [hn] at HE
      clear hn
      go_wp2
      go_ret
      exact ⟨ret_bool HE.out.symm, HB1.out⟩
    · rw [hs3] at HE
      clear hs3 hr3
      by_cases h0 : r.length = 0
      · have HZ : Hid ((r.length == 0) = true) := by simp only [Hid]; rw [h0]; rfl
        have k0 : ((r.length : Int) == 0) = true := by rw [h0]; rfl
        clear h0
        go_wp2
        go_ret
        exact ⟨ret_bool (by rw [HE.out]; exact HZ.out.symm), HB1.out⟩
      · have HZ : Hid ((r.length == 0) = false) := by simp only [Hid]; rw [beq_eq_false_iff_ne]; exact h0
        have k0 : ((r.length : Int) == 0) = false := by rw [beq_eq_false_iff_ne]; omega
        clear h0
        go_wp2
        go_ret
        exact ⟨ret_bool (by rw [HE.out]; exact HZ.out.symm), HB1.out⟩
  · have HE : Hid (validB l = false) := by simp [Hid, validB, hb]
    clear h hf
    go_enter Try.func30, Try.ntmps30
    go_wp2
    go_ret
    exact ⟨ret_bool HE.out.symm, Below.refl _ _⟩

def intervalE (fr to : Int) : Int := if (to ≠ -1 ∧ to < fr) ∨ 1000 < fr ∨ 1000 < to then 42 else 0
def unitOf (l : List Sig) (s : ByteArray) : ByteArray := (l.getD (idxN l s) sig0).unit
def atomE (l : List Sig) (ts : List Tm) : Int := if ts.all (fun t => hasB l t.name) = false then 40 else if ts.all (fun t => eqS (unitOf l t.name) (unitOf l (ts.getD 0 tm0).name)) = false then 41 else 0
theorem allP_take (p : Tm → Bool) (l : List Tm) (k : Nat) (hk : k < l.length) : (l.take (k + 1)).all p = ((l.take k).all p && p (l.getD k tm0)) := by
  rw [List.take_succ_eq_append_getElem hk, List.all_append]
  simp [List.getD_eq_getElem?_getD, hk]
theorem allP_bad (p : Tm → Bool) (l : List Tm) (k : Nat) (hk : k < l.length) (h : p (l.getD k tm0) = false) : l.all p = false := by
  rw [List.all_eq_false]
  refine ⟨l[k], List.getElem_mem hk, ?_⟩
  simpa [List.getD_eq_getElem?_getD, hk] using h
theorem allP_at (p : Tm → Bool) (l : List Tm) (k : Nat) (hk : k < l.length) (h : l.all p = true) : p (l.getD k tm0) = true := by
  rw [List.all_eq_true] at h
  have := h l[k] (List.getElem_mem hk)
  simpa [List.getD_eq_getElem?_getD, hk] using this
theorem hasB_lt {l : List Sig} {s : ByteArray} (h : hasB l s = true) : idxN l s < l.length := by simpa [hasB] using h
def partE (l : List Sig) (x : Nd) : Int := if x.op = 2 then atomE l x.terms else if x.op = 8 ∨ x.op = 9 ∨ x.op = 10 then intervalE x.fr x.to else 0
end Go.Proofs.Ytipbjoeekbgnbaa

namespace Go.Proofs.Ytipbjoeekbgnbaa
open Go.RowKit
set_option linter.unusedVariables false
set_option maxRecDepth 100000

theorem Kept.mod {b : Nat} {x y : World} (h : Kept b x y) : Mod [b] x y := ⟨h.os, h.tape, h.output, h.size, fun k hk hs => h.block k hk (by simpa using hs)⟩
def sigOf (l : List Sig) (s : ByteArray) : Sig := l.getD (idxN l s) sig0
def timesS (l : List Sig) (t : Tm) : Int × Int := (crossLo (sigOf l t.name).lo (sigOf l t.name).hi t.times t.times, crossHi (sigOf l t.name).lo (sigOf l t.name).hi t.times t.times)
def timesO (l : List Sig) (t : Tm) : Bool := crossOv (sigOf l t.name).lo (sigOf l t.name).hi t.times t.times false || crossOv (sigOf l t.name).lo (sigOf l t.name).hi t.times t.times true
def sumLo (l : List Sig) (ts : List Tm) : Int := sumL ((ts.map (timesS l)).map Prod.fst)
def sumHi (l : List Sig) (ts : List Tm) : Int := sumL ((ts.map (timesS l)).map Prod.snd)
def sumO (l : List Sig) (ts : List Tm) : Bool := ts.any (timesO l) || (overF (sumLo l ts) || overF (sumHi l ts))
/-- What a sum tells. -/
def sumR (l : List Sig) (ts : List Tm) : Int × Int × Int := if sumO l ts then (0, 0, 10) else (clampF (sumLo l ts), clampF (sumHi l ts), 0)
def SigsFit (l : List Sig) : Prop := ∀ x ∈ l, x.lo ≤ x.hi ∧ B64 x.lo ∧ B64 x.hi
def TimesFit (ts : List Tm) : Prop := ∀ t ∈ ts, B64 t.times
def spanC (x : Int × Int) : List Value := [.int .i64 x.1, .int .i64 x.2]
theorem spanC_len (x : Int × Int) : (spanC x).length = 2 := rfl
theorem spanC_one (x : Int × Int) : ∀ u ∈ spanC x, u.oneCell' = true := by
  intro u hu
  simp only [spanC, List.mem_cons, List.not_mem_nil, or_false] at hu
  rcases hu with rfl | rfl <;> rfl
theorem any_take {X : Type} (q : X → Bool) (z : X) (l : List X) (k : Nat) (hk : k < l.length) : (l.take (k + 1)).any q = ((l.take k).any q || q (l.getD k z)) := by
  rw [List.take_succ_eq_append_getElem hk, List.any_append]
  simp [List.getD_eq_getElem?_getD, hk]
theorem map_takeS (l : List Sig) (ts : List Tm) (k : Nat) (hk : k < ts.length) : (ts.map (timesS l)).take (k + 1) = (ts.map (timesS l)).take k ++ [timesS l (ts.getD k tm0)] := by
  rw [List.take_succ_eq_append_getElem (by simpa using hk)]
  simp [List.getD_eq_getElem?_getD, hk]
theorem sigOf_fit {l : List Sig} (h : SigsFit l) {s : ByteArray} (hi : idxN l s < l.length) : (sigOf l s).lo ≤ (sigOf l s).hi ∧ B64 (sigOf l s).lo ∧ B64 (sigOf l s).hi := by
  refine h _ ?_
  unfold sigOf
  rw [List.getD_eq_getElem?_getD, List.getElem?_eq_getElem hi]; exact List.getElem_mem hi
theorem cross_b64 {a b c : Int} : B64 (crossLo a b c c) ∧ B64 (crossHi a b c c) := by
  have k := fun x => clampF_bd x
  unfold crossLo crossHi min4 max4 B64
  have k1 := k (mulF a c false); have k2 := k (mulF b c false); have k3 := k (mulF a c true); have k4 := k (mulF b c true)
  omega
theorem sums_fit {l : List Sig} {ts : List Tm} : FitsS (ts.map (timesS l)) := by
  constructor
  · intro x hx
    simp only [List.map_map, List.mem_map, Function.comp] at hx
    obtain ⟨t, _, rfl⟩ := hx
    exact cross_b64.1
  · intro x hx
    simp only [List.map_map, List.mem_map, Function.comp] at hx
    obtain ⟨t, _, rfl⟩ := hx
    exact cross_b64.2
theorem sums_some {l : List Sig} {ts : List Tm} (h : SigsFit l) (hi : ts.all (fun t => hasB l t.name) = true) : anyE (ts.map (timesS l)) = false := by
  unfold anyE
  rw [List.any_eq_false]
  intro x hx
  simp only [List.mem_map] at hx
  obtain ⟨t, ht, rfl⟩ := hx
  rw [List.all_eq_true] at hi
  have := cross_some (sigOf_fit h (hasB_lt (hi t ht))).1 (Int.le_refl t.times)
  have e : ¬ (timesS l t).2 < (timesS l t).1 := by show ¬ (crossHi _ _ _ _ < crossLo _ _ _ _); omega
  simpa using e
end Go.Proofs.Ytipbjoeekbgnbaa
