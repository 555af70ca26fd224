/- The contract of fix's Parse: what a text says, or the error. Conditions: the text has at most 1000000 bytes; the library's own variable MaxLen holds some int. -/
import Derived.Test.YtkkgfbhngoijaaaDoorBin
import Derived.Test.YtkkgfbhngoijaaaDoorShelf
namespace Go.Proofs.YtkkgfbhngoijaaaDoor
open Go.RowKit
set_option linter.unusedVariables false
set_option maxRecDepth 100000

theorem number_no (s : ByteArray) (w : World) (hs : s.size ≤ maxLen) (h : numOk s.data.toList = false) :
    Calls Tryd.prog 32 #[.string s] w fun e w' => e = .returned (.tuple #[.int .i64 0, .int .i64 11]) ∧ Below w.heap.size w w' := by
  cases hd : isDig s.data.toList 10 with
  | false => exact number_no_digits s w hs hd
  | true =>
    simp only [numOk, hd, Bool.true_and, Bool.not_eq_false', Bool.and_eq_true, decide_eq_true_eq] at h
    exact number_nought s w hs hd h.1 (by have h2 := h.2; simpa using h2)

/-- What Parse tells of the parts: the sign, what stands ahead of the point, whether there is one, what stands behind it. -/
def parseOf (neg : Bool) (f b : List UInt8) (pt : Bool) : Int × Int :=
  if numOk f = false then (0, 11)
  else if pt = true ∧ isDig b 32 = false then (0, 11)
  else if allZero (dig32 (digVals b)) = false ∨ 2147483648 < numL f then (0, 10)
  else if neg = true then (if numL f * 4294967296 + part32 (digVals b) ≤ 9223372036854775808 then (-((numL f * 4294967296 + part32 (digVals b) : Nat) : Int), 0) else (0, 10))
  else (if numL f * 4294967296 + part32 (digVals b) < 9223372036854775808 then (((numL f * 4294967296 + part32 (digVals b) : Nat) : Int), 0) else (0, 10))
/-- A pair of numbers as Parse hands it back. -/
def pairV (r : Int × Int) : Value := .tuple #[.int .i64 r.1, .int .i64 r.2]

theorem part32_lt (l : List UInt8) (h : l.all digB = true) : part32 (digVals l) < 4294967296 := partN_32 32 (by omega) _ (digVals_small l h)
theorem parse_join (n p : Nat) (hn : n ≤ 2147483648) (hp : p < 4294967296) : bits .or .u64 (((n : Int)) * 4294967296) (p : Int) = ((n * 4294967296 + p : Nat) : Int) := by
  rw [or_join _ _ (by omega) (by omega) (by omega) (by omega) (by omega)]; omega

/-- What the two library calls give. -/
def CutsAs (s d f b : ByteArray) (neg pt : Bool) (w : World) : Prop :=
  (∀ w', Calls Tryd.prog 30 #[.string s, .string ⟨#[45]⟩] w' fun e w'' => e = .returned (.tuple #[.string d, .bool neg]) ∧ w'' = w') ∧
  (Calls Tryd.prog 31 #[.string d, .string ⟨#[46]⟩] w fun e w'' => e = .returned (.tuple #[.string f, .string b, .bool pt]) ∧ ∃ n, w'' = w.drewN n)

theorem below_drewN (w : World) (n : Nat) : Below w.heap.size w (w.drewN n) := by
  induction n with
  | zero => exact Below.refl _ _
  | succ n ih => exact ih.drew

set_option maxHeartbeats 600000 in
theorem parse_no (s d f b : ByteArray) (neg pt : Bool) (w : World) (hc : CutsAs s d f b neg pt w) (hf : f.size ≤ maxLen) (hn : numOk f.data.toList = false) :
    Calls Tryd.prog 26 #[.string s] w fun e w' => e = .returned (.tuple #[.int .i64 0, .int .i64 11]) ∧ Below w.heap.size w w' := by
  go_enter Tryd.func26, Tryd.ntmps26
  go_wp2_with fail
  refine Calls.mono (hc.1 _) ?_
  rintro e w' ⟨rfl, rfl⟩
  go_wp2_with fail
  refine Calls.mono hc.2 ?_
  rintro e w1 ⟨rfl, n, rfl⟩
  go_wp2_with fail
  refine Calls.mono (number_no f _ hf hn) ?_
  rintro e w2 ⟨rfl, hb⟩
  have HB : Hid (Below w'.heap.size w' w2) := (below_drewN w' n).trans (hb.mono (below_drewN w' n).size)
  clear hb
  go_wp2
  go_ret2
  exact ⟨rfl, HB.out⟩

set_option maxHeartbeats 600000 in
theorem parse_behind (s d f b : ByteArray) (neg : Bool) (w : World) (hc : CutsAs s d f b neg true w) (hf : f.size ≤ maxLen) (hb1 : b.size ≤ maxLen) (hn : numOk f.data.toList = true) (hd : isDig b.data.toList 32 = false) :
    Calls Tryd.prog 26 #[.string s] w fun e w' => e = .returned (.tuple #[.int .i64 0, .int .i64 11]) ∧ Below w.heap.size w w' := by
  go_enter Tryd.func26, Tryd.ntmps26
  go_wp2_with fail
  refine Calls.mono (hc.1 _) ?_
  rintro e w' ⟨rfl, rfl⟩
  go_wp2_with fail
  refine Calls.mono hc.2 ?_
  rintro e w1 ⟨rfl, n, rfl⟩
  go_wp2_with fail
  refine Calls.mono (number_yes f _ hf hn) ?_
  rintro e w2 ⟨rfl, hb⟩
  have HB : Hid (Below w'.heap.size w' w2) := (below_drewN w' n).trans (hb.mono (below_drewN w' n).size)
  clear hb
  go_wp2_with fail
  refine Calls.mono (isDigits_any b 32 _ hb1 (by omega)) ?_
  rintro e w3 ⟨he, hb⟩
  rw [hd] at he
  subst he
  have HB3 : Hid (Below w'.heap.size w' w3) := HB.out.trans (hb.mono HB.out.size)
  clear hb HB
  go_wp2
  go_ret2
  exact ⟨rfl, HB3.out⟩

set_option maxHeartbeats 600000 in
theorem parse_cut_pt (s d f b : ByteArray) (neg : Bool) (w : World) (hc : CutsAs s d f b neg true w) (hf : f.size ≤ maxLen) (hb1 : b.size ≤ maxLen) (hn : numOk f.data.toList = true) (hd : isDig b.data.toList 32 = true) (hbin : ∀ w, Calls Tryd.prog 34 #[.string b] w fun e w' => e = .returned (.tuple #[.int .u64 0, .bool false]) ∧ Below w.heap.size w w') :
    Calls Tryd.prog 26 #[.string s] w fun e w' => e = .returned (.tuple #[.int .i64 0, .int .i64 10]) ∧ Below w.heap.size w w' := by
  go_enter Tryd.func26, Tryd.ntmps26
  go_wp2_with fail
  refine Calls.mono (hc.1 _) ?_
  rintro e w' ⟨rfl, rfl⟩
  go_wp2_with fail
  refine Calls.mono hc.2 ?_
  rintro e w1 ⟨rfl, n, rfl⟩
  go_wp2_with fail
  refine Calls.mono (number_yes f _ hf hn) ?_
  rintro e w2 ⟨rfl, hb⟩
  have HB : Hid (Below w'.heap.size w' w2) := (below_drewN w' n).trans (hb.mono (below_drewN w' n).size)
  clear hb
  go_wp2_with fail
  refine Calls.mono (isDigits_any b 32 _ hb1 (by omega)) ?_
  rintro e w3 ⟨he, hb⟩
  rw [hd] at he
  subst he
  have HB3 : Hid (Below w'.heap.size w' w3) := HB.out.trans (hb.mono HB.out.size)
  clear hb HB
  go_wp2_with fail
  refine Calls.mono (hbin _) ?_
  rintro e w4 ⟨rfl, hb⟩
  have HB4 : Hid (Below w'.heap.size w' w4) := HB3.out.trans (hb.mono HB3.out.size)
  clear hb HB3
  go_wp2
  go_ret2
  exact ⟨rfl, HB4.out⟩
set_option maxHeartbeats 600000 in
theorem parse_far_pt (s d f b : ByteArray) (neg : Bool) (w : World) (hc : CutsAs s d f b neg true w) (hf : f.size ≤ maxLen) (hb1 : b.size ≤ maxLen) (hn : numOk f.data.toList = true) (hd : isDig b.data.toList 32 = true) (q : Nat) (hbin : ∀ w, Calls Tryd.prog 34 #[.string b] w fun e w' => e = .returned (.tuple #[.int .u64 (q : Int), .bool true]) ∧ Below w.heap.size w w') (hw : 2147483648 < numL f.data.toList) :
    Calls Tryd.prog 26 #[.string s] w fun e w' => e = .returned (.tuple #[.int .i64 0, .int .i64 10]) ∧ Below w.heap.size w w' := by
  go_enter Tryd.func26, Tryd.ntmps26
  go_wp2_with fail
  refine Calls.mono (hc.1 _) ?_
  rintro e w' ⟨rfl, rfl⟩
  go_wp2_with fail
  refine Calls.mono hc.2 ?_
  rintro e w1 ⟨rfl, n, rfl⟩
  go_wp2_with fail
  refine Calls.mono (number_yes f _ hf hn) ?_
  rintro e w2 ⟨rfl, hb⟩
  have HB : Hid (Below w'.heap.size w' w2) := (below_drewN w' n).trans (hb.mono (below_drewN w' n).size)
  clear hb
  go_wp2_with fail
  refine Calls.mono (isDigits_any b 32 _ hb1 (by omega)) ?_
  rintro e w3 ⟨he, hb⟩
  rw [hd] at he
  subst he
  have HB3 : Hid (Below w'.heap.size w' w3) := HB.out.trans (hb.mono HB.out.size)
  clear hb HB
  go_wp2_with fail
  refine Calls.mono (hbin _) ?_
  rintro e w4 ⟨rfl, hb⟩
  have HB4 : Hid (Below w'.heap.size w' w4) := HB3.out.trans (hb.mono HB3.out.size)
  clear hb HB3
  go_wp2
  go_ret2
  exact ⟨rfl, HB4.out⟩
set_option maxHeartbeats 600000 in
theorem parse_fit_pt (s d f b : ByteArray) (neg : Bool) (w : World) (hc : CutsAs s d f b neg true w) (hf : f.size ≤ maxLen) (hb1 : b.size ≤ maxLen) (hn : numOk f.data.toList = true) (hd : isDig b.data.toList 32 = true) (q : Nat) (hq : q < 4294967296) (hbin : ∀ w, Calls Tryd.prog 34 #[.string b] w fun e w' => e = .returned (.tuple #[.int .u64 (q : Int), .bool true]) ∧ Below w.heap.size w w') (hw : numL f.data.toList ≤ 2147483648)
    (r : Int) (ok : Bool) (hs : ∀ w, Calls Tryd.prog 35 #[.int .u64 ((numL f.data.toList * 4294967296 + q : Nat) : Int), .bool neg] w fun e w' => e = .returned (.tuple #[.int .i64 r, .bool ok]) ∧ w' = w) :
    Calls Tryd.prog 26 #[.string s] w fun e w' => e = .returned (.tuple #[.int .i64 (if ok then r else 0), .int .i64 (if ok then 0 else 10)]) ∧ Below w.heap.size w w' := by
  have hj := parse_join _ _ hw hq
  have HS : Hid (∀ w, Calls Tryd.prog 35 #[.int .u64 (bits .or .u64 ((numL f.data.toList : Int) * 4294967296) (q : Int)), .bool neg] w fun e w' => e = .returned (.tuple #[.int .i64 r, .bool ok]) ∧ w' = w) := by rw [hj]; exact hs
  clear hs hj
  go_enter Tryd.func26, Tryd.ntmps26
  go_wp2_with fail
  refine Calls.mono (hc.1 _) ?_
  rintro e w' ⟨rfl, rfl⟩
  go_wp2_with fail
  refine Calls.mono hc.2 ?_
  rintro e w1 ⟨rfl, n, rfl⟩
  go_wp2_with fail
  refine Calls.mono (number_yes f _ hf hn) ?_
  rintro e w2 ⟨rfl, hb⟩
  have HB : Hid (Below w'.heap.size w' w2) := (below_drewN w' n).trans (hb.mono (below_drewN w' n).size)
  clear hb
  go_wp2_with fail
  refine Calls.mono (isDigits_any b 32 _ hb1 (by omega)) ?_
  rintro e w3 ⟨he, hb⟩
  rw [hd] at he
  subst he
  have HB3 : Hid (Below w'.heap.size w' w3) := HB.out.trans (hb.mono HB.out.size)
  clear hb HB
  go_wp2_with fail
  refine Calls.mono (hbin _) ?_
  rintro e w4 ⟨rfl, hb⟩
  have HB4 : Hid (Below w'.heap.size w' w4) := HB3.out.trans (hb.mono HB3.out.size)
  clear hb HB3
  cases ok
  all_goals
    go_wp2_with fail
    refine Calls.mono (HS.out _) ?_
    rintro e w5 ⟨rfl, rfl⟩
    go_wp2
    go_ret2
    exact ⟨rfl, HB4.out⟩

set_option maxHeartbeats 600000 in
theorem parse_cut_np (s d f b : ByteArray) (neg : Bool) (w : World) (hc : CutsAs s d f b neg false w) (hf : f.size ≤ maxLen) (hb1 : b.size ≤ maxLen) (hn : numOk f.data.toList = true) (hbin : ∀ w, Calls Tryd.prog 34 #[.string b] w fun e w' => e = .returned (.tuple #[.int .u64 0, .bool false]) ∧ Below w.heap.size w w') :
    Calls Tryd.prog 26 #[.string s] w fun e w' => e = .returned (.tuple #[.int .i64 0, .int .i64 10]) ∧ Below w.heap.size w w' := by
  go_enter Tryd.func26, Tryd.ntmps26
  go_wp2_with fail
  refine Calls.mono (hc.1 _) ?_
  rintro e w' ⟨rfl, rfl⟩
  go_wp2_with fail
  refine Calls.mono hc.2 ?_
  rintro e w1 ⟨rfl, n, rfl⟩
  go_wp2_with fail
  refine Calls.mono (number_yes f _ hf hn) ?_
  rintro e w2 ⟨rfl, hb⟩
  have HB : Hid (Below w'.heap.size w' w2) := (below_drewN w' n).trans (hb.mono (below_drewN w' n).size)
  clear hb
  go_wp2_with fail
  refine Calls.mono (hbin _) ?_
  rintro e w4 ⟨rfl, hb⟩
  have HB4 : Hid (Below w'.heap.size w' w4) := HB.out.trans (hb.mono HB.out.size)
  clear hb HB
  go_wp2
  go_ret2
  exact ⟨rfl, HB4.out⟩
set_option maxHeartbeats 600000 in
theorem parse_far_np (s d f b : ByteArray) (neg : Bool) (w : World) (hc : CutsAs s d f b neg false w) (hf : f.size ≤ maxLen) (hb1 : b.size ≤ maxLen) (hn : numOk f.data.toList = true) (q : Nat) (hbin : ∀ w, Calls Tryd.prog 34 #[.string b] w fun e w' => e = .returned (.tuple #[.int .u64 (q : Int), .bool true]) ∧ Below w.heap.size w w') (hw : 2147483648 < numL f.data.toList) :
    Calls Tryd.prog 26 #[.string s] w fun e w' => e = .returned (.tuple #[.int .i64 0, .int .i64 10]) ∧ Below w.heap.size w w' := by
  go_enter Tryd.func26, Tryd.ntmps26
  go_wp2_with fail
  refine Calls.mono (hc.1 _) ?_
  rintro e w' ⟨rfl, rfl⟩
  go_wp2_with fail
  refine Calls.mono hc.2 ?_
  rintro e w1 ⟨rfl, n, rfl⟩
  go_wp2_with fail
  refine Calls.mono (number_yes f _ hf hn) ?_
  rintro e w2 ⟨rfl, hb⟩
  have HB : Hid (Below w'.heap.size w' w2) := (below_drewN w' n).trans (hb.mono (below_drewN w' n).size)
  clear hb
  go_wp2_with fail
  refine Calls.mono (hbin _) ?_
  rintro e w4 ⟨rfl, hb⟩
  have HB4 : Hid (Below w'.heap.size w' w4) := HB.out.trans (hb.mono HB.out.size)
  clear hb HB
  go_wp2
  go_ret2
  exact ⟨rfl, HB4.out⟩
set_option maxHeartbeats 600000 in
theorem parse_fit_np (s d f b : ByteArray) (neg : Bool) (w : World) (hc : CutsAs s d f b neg false w) (hf : f.size ≤ maxLen) (hb1 : b.size ≤ maxLen) (hn : numOk f.data.toList = true) (q : Nat) (hq : q < 4294967296) (hbin : ∀ w, Calls Tryd.prog 34 #[.string b] w fun e w' => e = .returned (.tuple #[.int .u64 (q : Int), .bool true]) ∧ Below w.heap.size w w') (hw : numL f.data.toList ≤ 2147483648)
    (r : Int) (ok : Bool) (hs : ∀ w, Calls Tryd.prog 35 #[.int .u64 ((numL f.data.toList * 4294967296 + q : Nat) : Int), .bool neg] w fun e w' => e = .returned (.tuple #[.int .i64 r, .bool ok]) ∧ w' = w) :
    Calls Tryd.prog 26 #[.string s] w fun e w' => e = .returned (.tuple #[.int .i64 (if ok then r else 0), .int .i64 (if ok then 0 else 10)]) ∧ Below w.heap.size w w' := by
  have hj := parse_join _ _ hw hq
  have HS : Hid (∀ w, Calls Tryd.prog 35 #[.int .u64 (bits .or .u64 ((numL f.data.toList : Int) * 4294967296) (q : Int)), .bool neg] w fun e w' => e = .returned (.tuple #[.int .i64 r, .bool ok]) ∧ w' = w) := by rw [hj]; exact hs
  clear hs hj
  go_enter Tryd.func26, Tryd.ntmps26
  go_wp2_with fail
  refine Calls.mono (hc.1 _) ?_
  rintro e w' ⟨rfl, rfl⟩
  go_wp2_with fail
  refine Calls.mono hc.2 ?_
  rintro e w1 ⟨rfl, n, rfl⟩
  go_wp2_with fail
  refine Calls.mono (number_yes f _ hf hn) ?_
  rintro e w2 ⟨rfl, hb⟩
  have HB : Hid (Below w'.heap.size w' w2) := (below_drewN w' n).trans (hb.mono (below_drewN w' n).size)
  clear hb
  go_wp2_with fail
  refine Calls.mono (hbin _) ?_
  rintro e w4 ⟨rfl, hb⟩
  have HB4 : Hid (Below w'.heap.size w' w4) := HB.out.trans (hb.mono HB.out.size)
  clear hb HB
  cases ok
  all_goals
    go_wp2_with fail
    refine Calls.mono (HS.out _) ?_
    rintro e w5 ⟨rfl, rfl⟩
    go_wp2
    go_ret2
    exact ⟨rfl, HB4.out⟩

/-- What Parse tells of a text. -/
def parseL (l : List UInt8) : Int × Int :=
  parseOf (Lib.hasPrefix l [45]) (Lib.cut (Lib.trimPrefix l [45]) [46]).1 (Lib.cut (Lib.trimPrefix l [45]) [46]).2.1 (Lib.cut (Lib.trimPrefix l [45]) [46]).2.2
/-- The library's variable MaxLen holds some int. -/
def MaxLenIs (w : World) : Prop := ∃ m, w.cell? ⟨1, 0, none⟩ = some (.int .i64 m)

theorem pairV_mk (a b : Int) : pairV (a, b) = .tuple #[.int .i64 a, .int .i64 b] := rfl
theorem binOut_no (q : Nat) : binOut false q = .tuple #[.int .u64 0, .bool false] := rfl
theorem binOut_yes (q : Nat) : binOut true q = .tuple #[.int .u64 (q : Int), .bool true] := rfl
theorem parse_parts (s d f b : ByteArray) (neg pt : Bool) (w : World) (hc : CutsAs s d f b neg pt w) (hf : f.size ≤ 1000000) (hb : b.size ≤ 1000000) (hpt : pt = false → b.data.toList = []) :
    Calls Tryd.prog 26 #[.string s] w fun e w' => e = .returned (pairV (parseOf neg f.data.toList b.data.toList pt)) ∧ Below w.heap.size w w' := by
  have hf' : f.size ≤ maxLen := by unfold maxLen; omega
  have hb' : b.size ≤ maxLen := by unfold maxLen; omega
  cases hn : numOk f.data.toList with
  | false =>
    have : parseOf neg f.data.toList b.data.toList pt = (0, 11) := by unfold parseOf; rw [if_pos hn]
    rw [this, pairV_mk]; exact parse_no s d f b neg pt w hc hf' hn
  | true =>
    by_cases hd : pt = true ∧ isDig b.data.toList 32 = false
    · obtain ⟨rfl, hd⟩ := hd
      have : parseOf neg f.data.toList b.data.toList true = (0, 11) := by unfold parseOf; rw [if_neg (by simp [hn]), if_pos ⟨rfl, hd⟩]
      rw [this, pairV_mk]; exact parse_behind s d f b neg w hc hf' hb' hn hd
    · have ha : b.data.toList.all digB = true := by
        cases pt with
        | false => rw [hpt rfl]; rfl
        | true => exact isDig_all (by simpa using hd)
      have hbs : b.size ≤ 1000 := by
        cases pt with
        | false =>
          have h1 : b.data.toList.length = 0 := by rw [hpt rfl]; rfl
          have h2 : b.data.toList.length = b.size := by simp
          omega
        | true =>
          have h1 := (isDig_len (show isDig b.data.toList 32 = true by simpa using hd)).2
          have h2 : b.data.toList.length = b.size := by simp
          omega
      have hbin := fun w => binary_any b w hbs ha
      have hq := part32_lt _ ha
      have e0 : parseOf neg f.data.toList b.data.toList pt = if allZero (dig32 (digVals b.data.toList)) = false ∨ 2147483648 < numL f.data.toList then (0, 10)
          else if neg = true then (if numL f.data.toList * 4294967296 + part32 (digVals b.data.toList) ≤ 9223372036854775808 then (-((numL f.data.toList * 4294967296 + part32 (digVals b.data.toList) : Nat) : Int), 0) else (0, 10))
          else (if numL f.data.toList * 4294967296 + part32 (digVals b.data.toList) < 9223372036854775808 then (((numL f.data.toList * 4294967296 + part32 (digVals b.data.toList) : Nat) : Int), 0) else (0, 10)) := by
        unfold parseOf; rw [if_neg (by simp [hn]), if_neg hd]
      rw [e0]
      clear e0
      generalize part32 (digVals b.data.toList) = q at *
      generalize allZero (dig32 (digVals b.data.toList)) = z at *
      cases z with
      | false =>
        simp only [binOut_no] at hbin
        rw [if_pos (.inl rfl), pairV_mk]
        cases pt with
        | false => exact parse_cut_np s d f b neg w hc hf' hb' hn hbin
        | true => exact parse_cut_pt s d f b neg w hc hf' hb' hn (by simpa using hd) hbin
      | true =>
        simp only [binOut_yes] at hbin
        by_cases hw : 2147483648 < numL f.data.toList
        · rw [if_pos (.inr hw), pairV_mk]
          cases pt with
          | false => exact parse_far_np s d f b neg w hc hf' hb' hn q hbin hw
          | true => exact parse_far_pt s d f b neg w hc hf' hb' hn (by simpa using hd) q hbin hw
        · rw [if_neg (by simp; omega)]
          have fit : ∀ (r : Int) (ok : Bool), (∀ w, Calls Tryd.prog 35 #[.int .u64 ((numL f.data.toList * 4294967296 + q : Nat) : Int), .bool neg] w fun e w' => e = .returned (.tuple #[.int .i64 r, .bool ok]) ∧ w' = w) →
              Calls Tryd.prog 26 #[.string s] w fun e w' => e = .returned (pairV (if ok then r else 0, if ok then 0 else 10)) ∧ Below w.heap.size w w' := by
            intro r ok hs
            rw [pairV_mk]
            cases pt with
            | false => exact parse_fit_np s d f b neg w hc hf' hb' hn q hq hbin (by omega) r ok hs
            | true => exact parse_fit_pt s d f b neg w hc hf' hb' hn (by simpa using hd) q hq hbin (by omega) r ok hs
          cases neg with
          | true =>
            rw [if_pos rfl]
            by_cases h : numL f.data.toList * 4294967296 + q ≤ 9223372036854775808
            · rw [if_pos h]; have := fit _ true (fun w => signed_below _ w (by omega) (by omega)); simpa only [if_true, Bool.false_eq_true, if_false] using this
            · rw [if_neg h]; have := fit 0 false (fun w => signed_below_no _ w (by omega) (by omega)); simpa only [if_true, Bool.false_eq_true, if_false] using this
          | false =>
            rw [if_neg (by simp)]
            by_cases h : numL f.data.toList * 4294967296 + q < 9223372036854775808
            · rw [if_pos h]; have := fit _ true (fun w => signed_above _ w (by omega) (by omega)); simpa only [if_true, Bool.false_eq_true, if_false] using this
            · rw [if_neg h]; have := fit 0 false (fun w => signed_above_no _ w (by omega) (by omega)); simpa only [if_true, Bool.false_eq_true, if_false] using this

theorem trimPrefix_len (l p : List UInt8) : (Lib.trimPrefix l p).length ≤ l.length := by
  unfold Lib.trimPrefix; split
  · simp
  · exact Nat.le_refl _
theorem cut_len (l p : List UInt8) : (Lib.cut l p).1.length ≤ l.length ∧ (Lib.cut l p).2.1.length ≤ l.length ∧ ((Lib.cut l p).2.2 = false → (Lib.cut l p).2.1 = []) := by
  unfold Lib.cut; split <;> simp <;> omega
theorem parse_any (s : ByteArray) (w : World) (hs : s.size ≤ 1000000) (hm : MaxLenIs w) :
    Calls Tryd.prog 26 #[.string s] w fun e w' => e = .returned (pairV (parseL s.data.toList)) ∧ Below w.heap.size w w' := by
  obtain ⟨m, hm⟩ := hm
  have h1 := trimPrefix_len s.data.toList [45]
  have h2 := cut_len (Lib.trimPrefix s.data.toList [45]) [46]
  have h3 : s.data.toList.length = s.size := by simp
  have hc : CutsAs s ⟨(Lib.trimPrefix s.data.toList [45]).toArray⟩ ⟨(Lib.cut (Lib.trimPrefix s.data.toList [45]) [46]).1.toArray⟩ ⟨(Lib.cut (Lib.trimPrefix s.data.toList [45]) [46]).2.1.toArray⟩ (Lib.hasPrefix s.data.toList [45]) (Lib.cut (Lib.trimPrefix s.data.toList [45]) [46]).2.2 w := by
    refine ⟨fun w' => Tryd.strings_CutPrefix s ⟨#[45]⟩ w', ?_⟩
    exact Tryd.strings_Cut ⟨(Lib.trimPrefix s.data.toList [45]).toArray⟩ ⟨#[46]⟩ m w (by simp [ByteArray.size]; omega) hm
  have := parse_parts s _ _ _ _ _ w hc (by simp [ByteArray.size]; omega) (by simp [ByteArray.size]; omega) (by simpa using h2.2.2)
  simpa [parseL] using this
end Go.Proofs.YtkkgfbhngoijaaaDoor
