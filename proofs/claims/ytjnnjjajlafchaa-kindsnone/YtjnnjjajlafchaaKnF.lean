/- Nodes in memory; the contracts of tree's fits and what it calls. Conditions: names of at most 2^63 - 1 bytes. -/
import Derived.Test.YtjnnjjajlafchaaKnA
import Derived.Test.YtjnnjjajlafchaaKnB
import Derived.Test.YtjnnjjajlafchaaKnD
import Derived.Test.YtjnnjjajlafchaaOwn
namespace Go.Proofs.Ytjnnjjajlafchaa
open Go.RowKit
set_option linter.unusedVariables false
set_option maxRecDepth 100000

/-- A term. -/
structure Tm where
  name : ByteArray
  times : Int
def tm0 : Tm := ⟨⟨#[]⟩, 0⟩
/-- A part of a formula. -/
structure Nd where
  op : Int
  n : Int
  fr : Int
  to : Int
  terms : List Tm
  num : Int
def nd0 : Nd := ⟨0, 0, 0, 0, [], 0⟩
def TermRow (w : World) (a : Option Addr) (l : List Tm) : Prop := ∀ i, i < l.length → ∃ b off, a = some ⟨b, off, none⟩ ∧ w.cell? ⟨b, off + i * 2, none⟩ = some (.string (l.getD i tm0).name) ∧ w.cell? ⟨b, off + i * 2 + 1, none⟩ = some (.int .i64 (l.getD i tm0).times)
theorem cell_up {w w' : World} (k : Below w.heap.size w w') {b o : Nat} {v : Value} (hv : w.cell? ⟨b, o, none⟩ = some v) : w'.cell? ⟨b, o, none⟩ = some v := by
  rw [k.cell (p := ⟨b, o, none⟩) (World.block_lt_of_cell? w ⟨b, o, none⟩ hv)]; exact hv
theorem TermRow.below {w w' : World} {a : Option Addr} {l : List Tm} (h : TermRow w a l) (k : Below w.heap.size w w') : TermRow w' a l := by
  intro i hi
  obtain ⟨b, off, e, h0, h1⟩ := h i hi
  exact ⟨b, off, e, cell_up k h0, cell_up k h1⟩
def NodeAt (w : World) (b off : Nat) (x : Nd) : Prop := w.cell? ⟨b, off, none⟩ = some (.int .i64 x.op) ∧ w.cell? ⟨b, off + 1, none⟩ = some (.int .i64 x.n) ∧ w.cell? ⟨b, off + 2, none⟩ = some (.int .i64 x.fr) ∧ w.cell? ⟨b, off + 3, none⟩ = some (.int .i64 x.to) ∧
  (∃ ta tc, w.cell? ⟨b, off + 4, none⟩ = some (.slice ta x.terms.length tc) ∧ TermRow w ta x.terms) ∧ w.cell? ⟨b, off + 5, none⟩ = some (.int .i64 x.num)
theorem NodeAt.below {w w' : World} {b off : Nat} {x : Nd} (h : NodeAt w b off x) (k : Below w.heap.size w w') : NodeAt w' b off x := by
  obtain ⟨h0, h1, h2, h3, ⟨ta, tc, h4, ht⟩, h5⟩ := h
  exact ⟨cell_up k h0, cell_up k h1, cell_up k h2, cell_up k h3, ⟨ta, tc, cell_up k h4, ht.below k⟩, cell_up k h5⟩
def NodeRow (w : World) (a : Option Addr) (l : List Nd) : Prop := ∀ i, i < l.length → ∃ b off, a = some ⟨b, off, none⟩ ∧ NodeAt w b (off + i * 6) (l.getD i nd0)
theorem NodeRow.below {w w' : World} {a : Option Addr} {l : List Nd} (h : NodeRow w a l) (k : Below w.heap.size w w') : NodeRow w' a l := by
  intro i hi
  obtain ⟨b, off, e, h0⟩ := h i hi
  exact ⟨b, off, e, h0.below k⟩
theorem NodeRow.drop {w : World} {b off : Nat} {l : List Nd} (h : NodeRow w (some ⟨b, off, none⟩) l) (k : Nat) : NodeRow w (some ⟨b, off + k * 6, none⟩) (l.drop k) := by
  intro i hi
  rw [List.length_drop] at hi
  obtain ⟨b', off', e, hc⟩ := h (k + i) (by omega)
  cases e
  refine ⟨b, off + k * 6, rfl, ?_⟩
  have e1 : off + k * 6 + i * 6 = off + (k + i) * 6 := by omega
  have e2 : (l.drop k).getD i nd0 = l.getD (k + i) nd0 := by rw [List.getD_eq_getElem?_getD, List.getD_eq_getElem?_getD, List.getElem?_drop]
  rw [e1, e2]; exact hc

def reservedL : List ByteArray := [⟨#[115, 112, 101, 99]⟩, ⟨#[99, 101, 108, 108, 115]⟩, ⟨#[115, 116, 101, 112, 115]⟩, ⟨#[115, 105, 103, 110, 97, 108]⟩, ⟨#[112, 114, 111, 112]⟩, ⟨#[116, 114, 117, 101]⟩, ⟨#[102, 97, 108, 115, 101]⟩, ⟨#[97, 110, 100]⟩, ⟨#[111, 114]⟩, ⟨#[110, 111, 116]⟩, ⟨#[112, 114, 101, 118]⟩, ⟨#[111, 110, 99, 101]⟩, ⟨#[104, 105, 115, 116]⟩, ⟨#[115, 105, 110, 99, 101]⟩, ⟨#[105, 110, 102]⟩]
def isResB (s : ByteArray) : Bool := reservedL.any fun r => eqS s r
theorem isResB_mem {s : ByteArray} (h : isResB s = true) : s ∈ reservedL := by
  unfold isResB at h
  rw [List.any_eq_true] at h
  obtain ⟨r, hr, he⟩ := h
  rw [(eqS_iff s r).1 he]; exact hr
theorem isResB_not {s r : ByteArray} (h : isResB s = false) (hr : r ∈ reservedL) : eqS s r = false := by
  unfold isResB at h
  rw [List.any_eq_false] at h
  cases q : eqS s r with
  | false => rfl
  | true => exact absurd q (h r hr)
set_option maxHeartbeats 2000000 in
theorem isReserved_yes (s : ByteArray) (w : World) (h : isResB s = true) :
    Calls Try.prog 94 #[.string s] w fun e w' => e = .returned (.bool true) ∧ w' = w := by
  have hm := isResB_mem h
  clear h
  simp only [reservedL, List.mem_cons, List.not_mem_nil, or_false] at hm
  rcases hm with rfl | rfl | rfl | rfl | rfl | rfl | rfl | rfl | rfl | rfl | rfl | rfl | rfl | rfl | rfl
  all_goals
    go_enter Try.func94, Try.ntmps94
    go_wp2
    go_ret
    exact ⟨rfl, rfl⟩
theorem eqS_lit {s : ByteArray} {l : List UInt8} (h : eqS s ⟨l.toArray⟩ = false) : (s.toList == l) = false := by
  unfold eqS at h
  rw [bytes_toList ⟨l.toArray⟩] at h
  exact h
set_option maxHeartbeats 2000000 in
theorem isReserved_no (s : ByteArray) (w : World) (h : isResB s = false) :
    Calls Try.prog 94 #[.string s] w fun e w' => e = .returned (.bool false) ∧ w' = w := by
  have h0 : (s.toList == [115, 112, 101, 99]) = false := eqS_lit (isResB_not h (r := ⟨#[115, 112, 101, 99]⟩) (by simp [reservedL]))
  have h1 : (s.toList == [99, 101, 108, 108, 115]) = false := eqS_lit (isResB_not h (r := ⟨#[99, 101, 108, 108, 115]⟩) (by simp [reservedL]))
  have h2 : (s.toList == [115, 116, 101, 112, 115]) = false := eqS_lit (isResB_not h (r := ⟨#[115, 116, 101, 112, 115]⟩) (by simp [reservedL]))
  have h3 : (s.toList == [115, 105, 103, 110, 97, 108]) = false := eqS_lit (isResB_not h (r := ⟨#[115, 105, 103, 110, 97, 108]⟩) (by simp [reservedL]))
  have h4 : (s.toList == [112, 114, 111, 112]) = false := eqS_lit (isResB_not h (r := ⟨#[112, 114, 111, 112]⟩) (by simp [reservedL]))
  have h5 : (s.toList == [116, 114, 117, 101]) = false := eqS_lit (isResB_not h (r := ⟨#[116, 114, 117, 101]⟩) (by simp [reservedL]))
  have h6 : (s.toList == [102, 97, 108, 115, 101]) = false := eqS_lit (isResB_not h (r := ⟨#[102, 97, 108, 115, 101]⟩) (by simp [reservedL]))
  have h7 : (s.toList == [97, 110, 100]) = false := eqS_lit (isResB_not h (r := ⟨#[97, 110, 100]⟩) (by simp [reservedL]))
  have h8 : (s.toList == [111, 114]) = false := eqS_lit (isResB_not h (r := ⟨#[111, 114]⟩) (by simp [reservedL]))
  have h9 : (s.toList == [110, 111, 116]) = false := eqS_lit (isResB_not h (r := ⟨#[110, 111, 116]⟩) (by simp [reservedL]))
  have h10 : (s.toList == [112, 114, 101, 118]) = false := eqS_lit (isResB_not h (r := ⟨#[112, 114, 101, 118]⟩) (by simp [reservedL]))
  have h11 : (s.toList == [111, 110, 99, 101]) = false := eqS_lit (isResB_not h (r := ⟨#[111, 110, 99, 101]⟩) (by simp [reservedL]))
  have h12 : (s.toList == [104, 105, 115, 116]) = false := eqS_lit (isResB_not h (r := ⟨#[104, 105, 115, 116]⟩) (by simp [reservedL]))
  have h13 : (s.toList == [115, 105, 110, 99, 101]) = false := eqS_lit (isResB_not h (r := ⟨#[115, 105, 110, 99, 101]⟩) (by simp [reservedL]))
  have h14 : (s.toList == [105, 110, 102]) = false := eqS_lit (isResB_not h (r := ⟨#[105, 110, 102]⟩) (by simp [reservedL]))
  clear h
  go_enter Try.func94, Try.ntmps94
  go_wp2
  go_ret
  exact ⟨rfl, rfl⟩
def isNameT (s : ByteArray) : Bool := isNameB s && !isResB s
set_option maxHeartbeats 400000 in
theorem isNameT_any (s : ByteArray) (w : World) (hs : s.size ≤ 9223372036854775807) :
    Calls Try.prog 89 #[.string s] w fun e w' => e = .returned (.bool (isNameT s)) ∧ w' = w := by
  have HN := isNameB_any s w hs
  unfold isNameT
  cases h1 : isNameB s with
  | false =>
    rw [h1] at HN
    clear h1
    go_enter Try.func89, Try.ntmps89
    go_wp2_with (go_at_call 39; refine HN.mono ?_; rintro e w' ⟨rfl, rfl⟩)
    go_ret
    exact ⟨rfl, rfl⟩
  | true =>
    rw [h1] at HN
    clear h1
    cases h2 : isResB s with
    | true =>
      have HM := isReserved_yes s w h2
      clear h2
      go_enter Try.func89, Try.ntmps89
      go_wp2_with (first | (go_at_call 39; refine HN.mono ?_; rintro e w' ⟨rfl, hw9⟩; subst w') | (go_at_call 94; refine HM.mono ?_; rintro e w' ⟨rfl, hw9⟩; subst w'))
      go_ret
      exact ⟨rfl, rfl⟩
    | false =>
      have HM := isReserved_no s w h2
      clear h2
      go_enter Try.func89, Try.ntmps89
      go_wp2_with (first | (go_at_call 39; refine HN.mono ?_; rintro e w' ⟨rfl, hw9⟩; subst w') | (go_at_call 94; refine HM.mono ?_; rintro e w' ⟨rfl, hw9⟩; subst w'))
      go_ret
      exact ⟨rfl, rfl⟩
def isNumB (x : Int) : Bool := x != -9223372036854775808
theorem isNum_any (x : Int) (w : World) : Calls Try.prog 90 #[.int .i64 x] w fun e w' => e = .returned (.bool (isNumB x)) ∧ w' = w := by
  have HE : Hid (isNumB x = (x != -9223372036854775808)) := rfl
  go_enter Try.func90, Try.ntmps90
  go_wp2
  go_ret
  exact ⟨ret_bool HE.out.symm, rfl⟩
def isIntB (x : Int) : Bool := decide (0 ≤ x) && decide (x ≤ 2147483647)
theorem isInt_any (x : Int) (w : World) : Calls Try.prog 88 #[.int .i64 x] w fun e w' => e = .returned (.bool (isIntB x)) ∧ w' = w := by
  by_cases h1 : 0 ≤ x <;> by_cases h2 : x ≤ 2147483647
  all_goals
    have HE : Hid (isIntB x = (decide (0 ≤ x) && decide (x ≤ 2147483647))) := rfl
    go_enter Try.func88, Try.ntmps88
    go_wp2
    go_ret
    exact ⟨ret_bool (by rw [HE.out]; simp [h1, h2]), rfl⟩
end Go.Proofs.Ytjnnjjajlafchaa
