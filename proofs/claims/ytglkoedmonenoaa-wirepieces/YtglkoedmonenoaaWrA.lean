/- Wire's small inner functions: within, above, number, lay; rows of bytes in memory. Conditions: a list's own length. -/
import Derived.Test.YtglkoedmonenoaaWrM
namespace Go.Proofs.Ytglkoedmonenoaa
open Go.RowKit
set_option linter.unusedVariables false
set_option maxRecDepth 100000

theorem addr_add (b off i : Nat) : (⟨b, off, none⟩ : Addr).add i = ⟨b, off + i, none⟩ := by
  unfold Addr.add; split
  · rename_i h; subst h; rfl
  · rfl
/-- A slice's bytes in memory. -/
def ByteRow (w : World) (a : Option Addr) (l : List UInt8) : Prop := ∀ i, i < l.length → ∃ b off, a = some ⟨b, off, none⟩ ∧ w.cell? ⟨b, off + i, none⟩ = some (.int .u8 (l.getD i 0).toNat)
/-- A slice of bytes that can be read. -/
structure BS (w : World) (a : Option Addr) (cap : Nat) (l : List UInt8) : Prop where
  row : ByteRow w a l
  le : l.length ≤ cap
  nil : a = none → cap = 0
  most : cap ≤ 9223372036854775807
theorem BS.below {w w' : World} {a : Option Addr} {cap : Nat} {l : List UInt8} {B : Nat} (h : BS w a cap l) (k : Below B w w') (hB : w.heap.size ≤ B) : BS w' a cap l :=
  ⟨fun i hi => by
    obtain ⟨b, off, e, hc⟩ := h.row i hi
    refine ⟨b, off, e, ?_⟩
    rw [k.cell (p := ⟨b, off + i, none⟩) (Nat.lt_of_lt_of_le (World.block_lt_of_cell? w ⟨b, off + i, none⟩ hc) hB)]; exact hc, h.le, h.nil, h.most⟩
theorem BS.at {w : World} {a : Option Addr} {cap : Nat} {l : List UInt8} (h : BS w a cap l) (h0 : 0 < l.length) : ∃ b off, a = some ⟨b, off, none⟩ ∧ ∀ i, i < l.length → w.cell? ⟨b, off + i, none⟩ = some (.int .u8 (l.getD i 0).toNat) := by
  obtain ⟨b, off, rfl, _⟩ := h.row 0 h0
  refine ⟨b, off, rfl, fun i hi => ?_⟩
  obtain ⟨b', off', e, hc⟩ := h.row i hi
  cases e; exact hc
theorem size_u8 (w : World) : (sizeOf (Try.prog.elem 35)).run Try.prog w = .ok 1 w := by kernel_rfl
/-- 'b[i:j]'. -/
theorem BS.sub {w : World} {a : Option Addr} {cap : Nat} {l : List UInt8} (h : BS w a cap l) (i j : Nat) (hij : i ≤ j) (hj : j ≤ l.length) :
    ∃ a2, (∀ W len, (Instr.slice 35 (.slice a len cap) (some (.int .i64 i)) (some (.int .i64 j)) none).run Try.prog W = .ok (.slice a2 (j - i) (cap - i)) W) ∧ BS w a2 (cap - i) (sub l i (j - i)) := by
  have hle := h.le
  refine ⟨if cap = i then a else a.map (·.add (i * 1)), fun W len => ?_, ⟨?_, ?_, ?_, by have := h.most; omega⟩⟩
  · rw [run_slice_lh W 35 a len cap (by kernel_rfl) .i64 .i64 i j (by omega) (by omega) (by omega), size_u8]
    rfl
  · intro k hk
    rw [sub_len _ _ _ (by omega)] at hk
    rw [if_neg (by omega)]
    obtain ⟨b, off, rfl, hc⟩ := h.row (i + k) (by omega)
    refine ⟨b, off + i, by simp [addr_add], ?_⟩
    rw [show off + i + k = off + (i + k) by omega, hc]
    have : (Proofs.Ytglkoedmonenoaa.sub l i (j - i)).getD k 0 = l.getD (i + k) 0 := by
      unfold Proofs.Ytglkoedmonenoaa.sub
      rw [getD_take _ _ _ hk, List.getD_eq_getElem?_getD, List.getD_eq_getElem?_getD, List.getElem?_drop]
    rw [this]
  · rw [sub_len _ _ _ (by omega)]; omega
  · intro e
    by_cases c : cap = i
    · omega
    · rw [if_neg c] at e
      cases a with
      | none => have := h.nil rfl; omega
      | some x => simp at e
/-- 'b[:j]'. -/
theorem BS.upto {w : World} {a : Option Addr} {cap : Nat} {l : List UInt8} (h : BS w a cap l) (j : Nat) (hj : j ≤ l.length) :
    (∀ W len, (Instr.slice 35 (.slice a len cap) none (some (.int .i64 j)) none).run Try.prog W = .ok (.slice a j cap) W) ∧ BS w a cap (l.take j) := by
  have hle := h.le
  refine ⟨fun W len => ?_, fun i hi => ?_, by rw [List.length_take]; omega, h.nil, h.most⟩
  · rw [run_slice_h W 35 a len cap (by kernel_rfl) .i64 j (by omega) (by omega), size_u8]
    show Result.ok (sliced a 0 j cap 1) W = _
    unfold sliced
    rw [show a.map (·.add (0 * 1)) = a by cases a <;> simp [Addr.add]]
    simp
  · rw [List.length_take] at hi
    obtain ⟨b, off, e, hc⟩ := h.row i (by omega)
    exact ⟨b, off, e, by rw [hc, getD_take _ _ _ (by omega)]⟩
/-- 'b[i:]'. -/
theorem BS.from {w : World} {a : Option Addr} {cap : Nat} {l : List UInt8} (h : BS w a cap l) (i : Nat) (hi : i ≤ l.length) :
    ∃ a2, (∀ W, (Instr.slice 35 (.slice a l.length cap) (some (.int .i64 i)) none none).run Try.prog W = .ok (.slice a2 (l.length - i) (cap - i)) W) ∧ BS w a2 (cap - i) (l.drop i) := by
  obtain ⟨a2, _, h2⟩ := h.sub i l.length hi (Nat.le_refl _)
  have hle := h.le
  refine ⟨if cap = i then a else a.map (·.add (i * 1)), fun W => ?_, ⟨?_, ?_, ?_, by have := h.most; omega⟩⟩
  · rw [run_slice_l W 35 a l.length cap (by kernel_rfl) .i64 i (by omega) (by omega), size_u8]
    rfl
  · intro k hk
    rw [List.length_drop] at hk
    rw [if_neg (by omega)]
    obtain ⟨b, off, rfl, hc⟩ := h.row (i + k) (by omega)
    refine ⟨b, off + i, by simp [addr_add], ?_⟩
    rw [show off + i + k = off + (i + k) by omega, hc, List.getD_eq_getElem?_getD, List.getD_eq_getElem?_getD, List.getElem?_drop]
  · rw [List.length_drop]; omega
  · intro e
    by_cases c : cap = i
    · omega
    · rw [if_neg c] at e
      cases a with
      | none => have := h.nil rfl; omega
      | some x => simp at e
/-- 'string(b)'. -/
theorem BS.back {w : World} {a : Option Addr} {cap : Nat} {l : List UInt8} (h : BS w a cap l) (n : Nat) (hn : n = l.length) : (convert 35 9 (.slice a n cap)).run Try.prog w = .ok (.string ⟨l.toArray⟩) w := by
  subst hn
  cases a with
  | none =>
    have h0 : l = [] := by
      have := h.nil rfl; have := h.le
      exact List.eq_nil_of_length_eq_zero (by omega)
    subst h0
    rw [show ([] : List UInt8).length = 0 from rfl, run_convert_bytes_string w 35 9 5 none 0 cap Try.underlying35 Try.underlying5 Try.underlying9]
    rfl
  | some x =>
    refine run_convert_bytes_back w 35 9 5 x cap l Try.underlying35 Try.underlying5 Try.underlying9 fun j hj => ?_
    obtain ⟨b, off, e, hc⟩ := h.row j hj
    cases e
    rw [addr_add, hc, List.getD_eq_getElem?_getD, List.getElem?_eq_getElem hj]; rfl

set_option maxHeartbeats 400000 in
theorem within_any (x m : Int) (w : World) : Calls Try.prog 20 #[.int .i64 x, .int .i64 m] w fun e w' => e = .returned (.bool (decide (0 ≤ x) && decide (x ≤ m))) ∧ w' = w := by
  by_cases h : 0 ≤ x
  · have h1 : decide (0 ≤ x) = true := by simpa using h
    go_enter Try.func20, Try.ntmps20
    go_wp2
    go_ret
    exact ⟨by rw [h1]; rfl, rfl⟩
  · have h1 : decide (0 ≤ x) = false := by simpa using h
    go_enter Try.func20, Try.ntmps20
    go_wp2
    go_ret
    exact ⟨by first | rfl | (rw [h1]; rfl), rfl⟩
set_option maxHeartbeats 400000 in
theorem above_any {w : World} {a : Option Addr} {cap : Nat} {l : List UInt8} (h : BS w a cap l) (i m n : Nat) (hn : n = l.length) (hi : i ≤ 9223372036854775807) (hm : m ≤ 9223372036854775807) :
    Calls Try.prog 26 #[.slice a n cap, .int .i64 i, .int .i64 m] w fun e w' => e = .returned (.bool (above l i m)) ∧ w' = w := by
  subst hn
  have h1 := h.le
  have h2 := h.most
  by_cases c : i < l.length
  · have HA : Hid (above l i m = decide (m < (l.getD i 0).toNat)) := by
      unfold above; rw [decide_eq_true c, Bool.true_and]; rfl
    obtain ⟨b, off, rfl, hc0⟩ := h.at (by omega)
    have hc := hc0 i c
    clear hc0
    have hb := (l.getD i 0).toNat_lt
    generalize (l.getD i 0).toNat = z at *
    clear h
    go_enter Try.func26, Try.ntmps26
    go_wp2
    go_ret
    exact ⟨by rw [HA.out]; rfl, rfl⟩
  · have HA : Hid (above l i m = false) := by unfold above; simp [Hid, c]
    have c' : decide ((i : Int) < (l.length : Int)) = false := by simp; omega
    clear h
    go_enter Try.func26, Try.ntmps26
    go_wp2
    go_ret
    exact ⟨by rw [HA.out]; rfl, rfl⟩
set_option maxHeartbeats 400000 in
theorem number_any {w : World} {a : Option Addr} {cap : Nat} {l : List UInt8} (h : BS w a cap l) (i s n : Nat) (hn : n = l.length) (hs : i + s ≤ l.length) (h1 : 1 ≤ s) (h8 : s ≤ 8) :
    Calls Try.prog 24 #[.slice a n cap, .int .i64 i, .int .i64 s] w fun e w' => e = .returned (.int .i64 (getV (sub l i s))) ∧ Below w.heap.size w w' := by
  subst hn
  have hle := h.le
  have hmo := h.most
  obtain ⟨a2, hsl, h2⟩ := h.sub i (i + s) (by omega) hs
  have hsl := fun W => hsl W l.length
  rw [show i + s - i = s by omega] at hsl h2
  have hcv := h2.back s (sub_len _ _ _ hs).symm
  have HG : Hid (Calls Try.prog 28 #[.string ⟨(sub l i s).toArray⟩] w fun e w' => e = .returned (.tuple #[.int .i64 (getV (sub l i s)), .int .i64 0]) ∧ Below w.heap.size w w') := by
    have := get_yes ⟨(sub l i s).toArray⟩ w (by show 1 ≤ (sub l i s).toArray.size; rw [List.size_toArray, sub_len _ _ _ hs]; exact h1) (by show (sub l i s).toArray.size ≤ 8; rw [List.size_toArray, sub_len _ _ _ hs]; exact h8)
    exact this
  push_cast at hsl
  clear h h2
  generalize sub l i s = m at *
  go_enter Try.func24, Try.ntmps24
  go_wp2_with fail
  refine Calls.mono HG.out ?_
  rintro e w1 ⟨rfl, hb⟩
  go_wp2
  go_ret
  exact ⟨rfl, hb⟩
end Go.Proofs.Ytglkoedmonenoaa
