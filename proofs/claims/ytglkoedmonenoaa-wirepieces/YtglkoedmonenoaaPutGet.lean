/- The contracts of fix's fitsInto, Put and Get: a number as bytes, the highest first. Conditions: the numbers' own ranges, a string's own length. -/
import Derived.Test.YtglkoedmonenoaaWrW
import Derived.Laws.IdiomStrings
import Derived.OwnWalk
namespace Go.Proofs.Ytglkoedmonenoaa
open Go.RowKit
set_option linter.unusedVariables false
set_option maxRecDepth 100000

/-! Numbers as bytes, plainly. -/
/-- The i-th byte of a number, from the lowest. -/
def byteAt (V : Int) (i : Nat) : UInt8 := UInt8.ofNat (V / 256 ^ i % 256).toNat
theorem byteAt_toNat (V : Int) (i : Nat) : ((byteAt V i).toNat : Int) = V / 256 ^ i % 256 := by
  unfold byteAt
  have h : (V / 256 ^ i % 256).toNat < 256 := by omega
  rw [UInt8.toNat_ofNat_of_lt' h]; omega
/-- A number as n bytes. -/
def putL (n : Nat) (V : Int) : List UInt8 := (List.range n).map fun j => byteAt V (n - 1 - j)
theorem putL_len (n : Nat) (V : Int) : (putL n V).length = n := by simp [putL]
theorem putL_at (n : Nat) (V : Int) (j : Nat) (h : j < n) : (putL n V).getD j 0 = byteAt V (n - 1 - j) := by
  simp [putL, List.getD_eq_getElem?_getD, h]
/-- The number of some bytes. -/
def foldV (v : Int) (l : List UInt8) : Int := l.foldl (fun v c => v * 256 + c.toNat) v
def signOf (l : List UInt8) : Int := if 128 ≤ (l.getD 0 0).toNat then -1 else 0
def getV (l : List UInt8) : Int := foldV (signOf l) l
theorem foldV_snoc (v : Int) (l : List UInt8) (c : UInt8) : foldV v (l ++ [c]) = foldV v l * 256 + c.toNat := by simp [foldV, List.foldl_append]
theorem foldV_bd (l : List UInt8) : ∀ v : Int, v * 256 ^ l.length ≤ foldV v l ∧ foldV v l < (v + 1) * 256 ^ l.length := by
  induction l with
  | nil => intro v; simp [foldV]; omega
  | cons c l ih =>
    intro v
    have := ih (v * 256 + c.toNat)
    have hc := c.toNat_lt
    have e : foldV v (c :: l) = foldV (v * 256 + c.toNat) l := rfl
    rw [e, List.length_cons, Int.pow_succ]
    have hp : (0 : Int) < 256 ^ l.length := Int.pow_pos (by omega)
    generalize (256 : Int) ^ l.length = p at *
    have e1 : v * (p * 256) = (v * 256) * p := by rw [Int.mul_comm p, Int.mul_assoc]
    have e2 : (v + 1) * (p * 256) = (v * 256 + 256) * p := by rw [Int.mul_comm p, ← Int.mul_assoc, Int.add_mul]; simp
    rw [e1, e2]
    refine ⟨Int.le_trans ?_ this.1, Int.lt_of_lt_of_le this.2 ?_⟩
    · exact Int.mul_le_mul_of_nonneg_right (by omega) (by omega)
    · exact Int.mul_le_mul_of_nonneg_right (by omega) (by omega)
/-- The head of the bytes with its sign. -/
def headS (c : UInt8) : Int := if 128 ≤ c.toNat then (c.toNat : Int) - 256 else c.toNat
theorem getV_cons (c : UInt8) (l : List UInt8) : getV (c :: l) = foldV (headS c) l := by
  simp only [getV, signOf, headS, List.getD_cons_zero, foldV, List.foldl_cons]
  have e : ∀ a b : Int, a = b → l.foldl (fun v c => v * 256 + (c.toNat : Int)) a = l.foldl (fun v c => v * 256 + (c.toNat : Int)) b := fun a b h => by rw [h]
  split
  · exact e _ _ (by omega)
  · exact e _ _ (by omega)
theorem headS_bd (c : UInt8) : -128 ≤ headS c ∧ headS c ≤ 127 := by
  have := c.toNat_lt
  unfold headS; split <;> omega
theorem pow_le8 (k : Nat) (h : k ≤ 7) : (1 : Int) ≤ 256 ^ k ∧ (256 : Int) ^ k ≤ 72057594037927936 := by
  match k, h with
  | 0, _ => decide
  | 1, _ => decide
  | 2, _ => decide
  | 3, _ => decide
  | 4, _ => decide
  | 5, _ => decide
  | 6, _ => decide
  | 7, _ => decide
/-- On the way no number leaves an int. -/
theorem get_bd (c : UInt8) (l : List UInt8) (h : l.length ≤ 7) : -9223372036854775808 ≤ foldV (headS c) l ∧ foldV (headS c) l ≤ 9223372036854775807 := by
  have hb := foldV_bd l (headS c)
  have hh := headS_bd c
  have hp := pow_le8 l.length h
  generalize (256 : Int) ^ l.length = p at *
  have e1 : (-128) * p ≤ headS c * p := Int.mul_le_mul_of_nonneg_right (by omega) (by omega)
  have e2 : (headS c + 1) * p ≤ 128 * p := Int.mul_le_mul_of_nonneg_right (by omega) (by omega)
  omega

theorem get_bd6 (c : UInt8) (l : List UInt8) (h : l.length ≤ 6) : -36028797018963968 ≤ foldV (headS c) l ∧ foldV (headS c) l ≤ 36028797018963967 := by
  have hb := foldV_bd l (headS c)
  have hh := headS_bd c
  have hp : (1 : Int) ≤ 256 ^ l.length ∧ (256 : Int) ^ l.length ≤ 281474976710656 := by
    match l.length, h with
    | 0, _ => decide
    | 1, _ => decide
    | 2, _ => decide
    | 3, _ => decide
    | 4, _ => decide
    | 5, _ => decide
    | 6, _ => decide
  generalize (256 : Int) ^ l.length = p at *
  have e1 : (-128) * p ≤ headS c * p := Int.mul_le_mul_of_nonneg_right (by omega) (by omega)
  have e2 : (headS c + 1) * p ≤ 128 * p := Int.mul_le_mul_of_nonneg_right (by omega) (by omega)
  omega
theorem foldV_take (v : Int) (l : List UInt8) (k : Nat) (h : k < l.length) : foldV v (l.take (k + 1)) = foldV v (l.take k) * 256 + (l.getD k 0).toNat := by
  rw [List.take_succ_eq_append_getElem h, foldV_snoc]
  simp [List.getD_eq_getElem?_getD, h]
theorem wrap_i8_all : ∀ n : Fin 256, IntKind.i8.wrap ((n.val : Nat) : Int) = if 128 ≤ n.val then (n.val : Int) - 256 else n.val := by decide +kernel
theorem wrap_i8 (c : UInt8) : IntKind.i8.wrap (c.toNat : Int) = headS c := wrap_i8_all ⟨c.toNat, c.toNat_lt⟩
theorem or_byte (v : Int) (c : Nat) (hv : -36028797018963968 ≤ v) (hv2 : v ≤ 36028797018963967) (hc : c < 256) : bits .or .i64 (v * 256) (c : Int) = v * 256 + c := by
  have key : (BitVec.ofInt 64 (v * 256) ||| BitVec.ofInt 64 (c : Int)).toNat = ((v * 256) % 18446744073709551616).toNat + c := by
    rw [BitVec.toNat_or, BitVec.toNat_ofInt, BitVec.toNat_ofInt]
    have e1 : ((c : Int) % ((2 ^ 64 : Nat) : Int)).toNat = c := by omega
    rw [e1, nat_join 8 _ _ (by omega) (by omega)]
    omega
  show IntKind.i64.wrap ((BitVec.ofInt 64 (v * 256) ||| BitVec.ofInt 64 (c : Int)).toNat : Nat) = _
  rw [key, IntKind.wrap_i64]
  omega

set_option maxHeartbeats 600000 in
theorem get_no (s : ByteArray) (w : World) (hs : s.size ≤ maxLen) (h : s.size < 1 ∨ 8 < s.size) :
    Calls Try.prog 28 #[.string s] w fun e w' => e = .returned (.tuple #[.int .i64 0, .int .i64 1]) ∧ w' = w := by
  unfold maxLen at hs
  rcases h with h | h
  · go_enter Try.func28, Try.ntmps28
    go_wp2
    go_ret2
    exact ⟨rfl, rfl⟩
  · have h' : decide ((s.size : Int) < 1) = false := by simp; omega
    go_enter Try.func28, Try.ntmps28
    go_wp2
    go_ret2
    exact ⟨rfl, rfl⟩
theorem drop_toList (s : ByteArray) : (s.extract 1 s.size).data.toList = s.data.toList.drop 1 := by
  rw [Lib.extract_data, List.take_of_length_le (by simp)]
theorem cons_of (s : ByteArray) (h : 1 ≤ s.size) : s.data.toList = (s[0]'(by omega)) :: s.data.toList.drop 1 := by
  have h1 : 0 < s.data.toList.length := by simp; omega
  have := List.drop_eq_getElem_cons h1
  rw [List.drop_zero] at this
  exact this
set_option maxHeartbeats 1000000 in
theorem get_yes (s : ByteArray) (w : World) (h1 : 1 ≤ s.size) (h2 : s.size ≤ 8) :
    Calls Try.prog 28 #[.string s] w fun e w' => e = .returned (.tuple #[.int .i64 (getV s.data.toList), .int .i64 0]) ∧ Below w.heap.size w w' := by
  have HG : Hid (getV s.data.toList = foldV (headS s[0]) (s.data.toList.drop 1)) := by
    have := cons_of s h1
    generalize s[0] = c at *
    generalize s.data.toList.drop 1 = l at *
    rw [this]; exact getV_cons c l
  have hw8 := wrap_i8 s[0]
  have hb0 := headS_bd s[0]
  obtain ⟨W, cap, hcv, hbel, _, hcell, _⟩ := conv_bytes w (s.extract 1 s.size)
  have hsz : (s.extract 1 s.size).size = s.size - 1 := by simp
  rw [hsz] at hcv hcell
  rw [drop_toList] at hcell
  have HC : Hid (∀ j, j < s.size - 1 → W.cell? ⟨w.heap.size, j, none⟩ = some (.int .u8 ((s.data.toList.drop 1).getD j 0).toNat)) := hcell
  have hlen : (s.data.toList.drop 1).length = s.size - 1 := by simp
  have hbd := fun k => get_bd6 s[0] ((s.data.toList.drop 1).take k)
  have hd1 : decide ((s.size : Int) < 1) = false := by simp; omega
  have hd8 : decide ((8 : Int) < (s.size : Int)) = false := by simp; omega
  generalize s.data.toList.drop 1 = l at *
  generalize headS s[0] = h0 at *
  have HL : Hid (l.length = s.size - 1) := hlen
  have HBD : Hid (∀ k, (l.take k).length ≤ 6 → -36028797018963968 ≤ foldV h0 (l.take k) ∧ foldV h0 (l.take k) ≤ 36028797018963967) := hbd
  clear hcell hsz hlen hbd
  go_enter Try.func28, Try.ntmps28
  go_wp2
  go_loop [4, 23] (fun v i => ∃ k : Nat, k ≤ s.size - 1 ∧ i = .int .i64 k ∧ v = .int .i64 (foldV h0 (l.take k))) (fun _ i => s.size - 1 - (intOf i).toNat)
  case atStart => exact ⟨0, Nat.zero_le _, rfl, rfl⟩
  case round =>
    obtain ⟨k, hk, rfl, rfl⟩ := hrel
    by_cases hlt : k < s.size - 1
    · have hc := HC.out k hlt
      have HN : Hid (foldV h0 (l.take (k + 1)) = foldV h0 (l.take k) * 256 + (l.getD k 0).toNat) := foldV_take h0 l k (by rw [HL.out]; exact hlt)
      have hv := HBD.out k (by rw [List.length_take]; omega)
      have hcl : (l.getD k 0).toNat < 256 := (l.getD k 0).toNat_lt
      generalize (l.getD k 0).toNat = c at *
      generalize foldV h0 (l.take k) = v at *
      have hor := or_byte v c hv.1 hv.2 hcl
      go_wp2
      go_round
      case rel => exact ⟨k + 1, by omega, by go_num, by rw [HN.out]⟩
      case measure => simp [intOf]; omega
    · have hkk : k = s.size - 1 := by omega
      have HE : Hid (foldV h0 (l.take k) = getV s.data.toList) := by
        rw [hkk, ← HL.out, List.take_length]; exact HG.out.symm
      clear hkk
      go_wp2
      go_ret2
      exact ⟨by rw [← HE.out]; rfl, hbel⟩

/-! Put. -/
theorem half_at (n : Nat) (h1 : 1 ≤ n) (h2 : n ≤ 8) : ∃ H : Int, (2 : Int) ^ (8 * n - 1) = H ∧ (256 : Int) ^ n = 2 * H ∧ 128 ≤ H ∧ H ≤ 9223372036854775808 := by
  match n, h1, h2 with
  | 1, _, _ => exact ⟨128, by decide, by decide, by decide, by decide⟩
  | 2, _, _ => exact ⟨32768, by decide, by decide, by decide, by decide⟩
  | 3, _, _ => exact ⟨8388608, by decide, by decide, by decide, by decide⟩
  | 4, _, _ => exact ⟨2147483648, by decide, by decide, by decide, by decide⟩
  | 5, _, _ => exact ⟨549755813888, by decide, by decide, by decide, by decide⟩
  | 6, _, _ => exact ⟨140737488355328, by decide, by decide, by decide, by decide⟩
  | 7, _, _ => exact ⟨36028797018963968, by decide, by decide, by decide, by decide⟩
  | 8, _, _ => exact ⟨9223372036854775808, by decide, by decide, by decide, by decide⟩
/-- Whether a number fits into n bytes. -/
def fitsB (V : Int) (n : Nat) : Bool := decide (-(2 : Int) ^ (8 * n - 1) ≤ V) && decide (V < (2 : Int) ^ (8 * n - 1))
theorem div_fits (V H : Int) (h : 0 < H) : (V / H = 0 ↔ 0 ≤ V ∧ V < H) ∧ (V / H = -1 ↔ -H ≤ V ∧ V < 0) := by
  have e := Int.emod_add_mul_ediv V H
  have r1 := Int.emod_nonneg V (show H ≠ 0 by omega)
  have r2 := Int.emod_lt_of_pos V h
  generalize V / H = q at *
  generalize V % H = r at *
  have c : q ≤ -2 ∨ q = -1 ∨ q = 0 ∨ 1 ≤ q := by omega
  rcases c with c | rfl | rfl | c
  · have : H * q ≤ H * (-2) := Int.mul_le_mul_of_nonneg_left c (by omega)
    omega
  · omega
  · omega
  · have : H * 1 ≤ H * q := Int.mul_le_mul_of_nonneg_left c (by omega)
    omega
set_option maxHeartbeats 600000 in
theorem fitsInto_any (V : Int) (n : Nat) (w : World) (h1 : 1 ≤ n) (h2 : n ≤ 8) :
    Calls Try.prog 25 #[.int .i64 V, .int .i64 n] w fun e w' => e = .returned (.bool (fitsB V n)) ∧ w' = w := by
  obtain ⟨H, hH, _, hH1, hH2⟩ := half_at n h1 h2
  have hd := div_fits V H (by omega)
  have HF : Hid (fitsB V n = (decide (-H ≤ V) && decide (V < H))) := by simp only [Hid, fitsB, hH]
  by_cases c0 : V / H = 0
  · have HT : Hid (fitsB V n = true) := by rw [HF.out]; have := hd.1.1 c0; simp [Hid]; omega
    clear hd HF
    go_enter Try.func25, Try.ntmps25
    go_wp2
    go_ret
    exact ⟨by rw [HT.out]; rfl, rfl⟩
  · have c0' : (V / H == 0) = false := by rw [beq_eq_false_iff_ne]; exact c0
    by_cases c1 : V / H = -1
    · have HT : Hid (fitsB V n = true) := by rw [HF.out]; have := hd.2.1 c1; simp [Hid]; omega
      clear hd HF c0 c0'
      go_enter Try.func25, Try.ntmps25
      go_wp2
      go_ret
      exact ⟨by rw [HT.out]; rfl, rfl⟩
    · have c1' : (V / H == -1) = false := by rw [beq_eq_false_iff_ne]; exact c1
      have HT : Hid (fitsB V n = false) := by
        rw [HF.out]
        have a1 := fun h => c0 (hd.1.2 h)
        have a2 := fun h => c1 (hd.2.2 h)
        simp [Hid]; omega
      clear hd HF c0 c1
      go_enter Try.func25, Try.ntmps25
      go_wp2
      go_ret
      exact ⟨by rw [HT.out]; rfl, rfl⟩
theorem infoU8' : (Try.prog.info? 5).map (fun i => (i.zero, i.size, i.bytes)) = some (some (.int .u8 0), 1, 1) := by kernel_rfl
/-- 'make([]byte, n)'. -/
theorem make_bytes (w : World) (n : Nat) (hn : n ≤ 8) : ∃ W : World, (Instr.makeSlice 35 (.int .i64 (n : Int)) (.int .i64 (n : Int))).run Try.prog w = .ok (.slice (some ⟨w.heap.size, 0, none⟩) n n) W ∧ Below w.heap.size w W ∧ w.heap.size < W.heap.size ∧
    (∀ j, j < n → ∃ z, W.cell? ⟨w.heap.size, j, none⟩ = some (.int .u8 z)) ∧ (∀ j, j < n → W.frozen? ⟨w.heap.size, j, none⟩ = false) := by
  obtain ⟨i0, hi, hz0, hz1, hz2⟩ := info_parts infoU8'
  obtain ⟨W, h1, h2, h3⟩ := run_make_full (P := Try.prog) w w.heap.size 35 5 i0 (.int .u8 0) 1 Try.underlying35 hi hz0 hz1 .i64 .i64 n (by rw [hz2]; omega) (by unfold maxLen; omega) (Nat.le_refl _)
  refine ⟨W, h1, (Below.refl _ w).grown h3 (Nat.le_refl _) (fun k hk => by cases hk), (h2.lt _ rfl).2, fun j hj => ⟨0, ?_⟩, fun j hj => h2.frozenAt j⟩
  rw [h2.cellAt j (by omega)]
  rw [show (Value.int IntKind.u8 0).cells = #[.int .u8 0] from rfl, toList_madeCells_one]
  simp [hj]
end Go.Proofs.Ytglkoedmonenoaa
