/- The contract of fix's Sum: the check sum, as a plain function of the bytes. No condition. -/
import Derived.Test.YtglkoedmonenoaaWrW
namespace Go.Proofs.Ytglkoedmonenoaa
open Go.RowKit
set_option linter.unusedVariables false
set_option maxRecDepth 100000

def crcBit (x : Nat) : Nat := if x % 2 = 1 then (x / 2) ^^^ 3988292384 else x / 2
def crcBits : Nat → Nat → Nat
  | 0, x => x
  | n + 1, x => crcBit (crcBits n x)
def crcL (l : List UInt8) : Nat := l.foldl (fun x c => crcBits 8 (x ^^^ c.toNat)) 4294967295
theorem crcBit_lt {x : Nat} (h : x < 4294967296) : crcBit x < 4294967296 := by
  unfold crcBit; split
  · exact Nat.xor_lt_two_pow (n := 32) (by omega) (by omega)
  · omega
theorem crcBits_lt {x : Nat} (n : Nat) (h : x < 4294967296) : crcBits n x < 4294967296 := by
  induction n with
  | zero => exact h
  | succ n ih => exact crcBit_lt ih
theorem crcL_lt (l : List UInt8) : crcL l < 4294967296 := by
  unfold crcL
  suffices ∀ (l : List UInt8) (x : Nat), x < 4294967296 → l.foldl (fun x c => crcBits 8 (x ^^^ c.toNat)) x < 4294967296 from this l _ (by omega)
  intro l
  induction l with
  | nil => intro x h; exact h
  | cons c l ih => intro x h; exact ih _ (crcBits_lt 8 (Nat.xor_lt_two_pow (n := 32) h (by have := c.toNat_lt; omega)))
theorem crcL_snoc (l : List UInt8) (c : UInt8) : crcL (l ++ [c]) = crcBits 8 (crcL l ^^^ c.toNat) := by
  simp [crcL, List.foldl_append]
theorem take_snoc (s : ByteArray) (k : Nat) (h : k < s.size) : s.data.toList.take (k + 1) = s.data.toList.take k ++ [s[k]] := by
  rw [List.take_succ_eq_append_getElem (by simpa using h)]; rfl

theorem not_u32 (X : Nat) (h : X < 4294967296) : bits .xor .u32 IntKind.u32.max (X : Int) = 4294967295 - (X : Int) := by
  show IntKind.u32.wrap ((BitVec.ofInt 32 IntKind.u32.max ^^^ BitVec.ofInt 32 (X : Int)).toNat : Int) = _
  have h1 : BitVec.ofInt 32 IntKind.u32.max = BitVec.allOnes 32 := by decide
  rw [h1, BitVec.allOnes_xor, BitVec.toNat_not, ofInt_u32 X h, IntKind.wrap_u32']
  omega
theorem crc_end (X : Nat) (h : X < 4294967296) : wrap64 (bits .xor .u32 IntKind.u32.max (X : Int)) = 4294967295 - (X : Int) := by
  rw [not_u32 X h]; unfold wrap64; omega
theorem and_one (Y : Nat) (h : Y < 4294967296) : bits .and .u32 (Y : Int) 1 = ((Y % 2 : Nat) : Int) := by
  have := u32_and_nat Y 1 h (by omega)
  rw [nat_mask1] at this; exact this
theorem crcBit_odd (Y : Nat) (h : Y < 4294967296) (ho : Y % 2 = 1) : bits .xor .u32 ((Y : Int) / 2) 3988292384 = ((crcBit Y : Nat) : Int) := by
  have := u32_xor_nat (Y / 2) 3988292384 (by omega) (by omega)
  unfold crcBit; rw [if_pos ho]; exact this
theorem crcBit_even (Y : Nat) (ho : ¬ Y % 2 = 1) : (Y : Int) / 2 = ((crcBit Y : Nat) : Int) := by
  unfold crcBit; rw [if_neg ho]; omega

set_option maxHeartbeats 400000 in
theorem sum_any (s : ByteArray) (w : World) (hs : s.size ≤ maxLen) :
    Calls Try.prog 16 #[.string s] w fun e w' => e = .returned (.int .i64 (4294967295 - (crcL s.data.toList : Int))) ∧ w' = w := by
  unfold maxLen at hs
  go_enter Try.func16, Try.ntmps16
  go_wp2
  go_loop [3, 8] (fun x i => ∃ k : Nat, k ≤ s.size ∧ i = .int .i64 k ∧ ∃ X : Nat, X < 4294967296 ∧ X = crcL (s.data.toList.take k) ∧ x = .int .u32 X) (fun _ i => s.size - (intOf i).toNat)
  case atStart => exact ⟨0, Nat.zero_le _, rfl, 4294967295, by omega, rfl, rfl⟩
  case round =>
    obtain ⟨k, hk, rfl, X, hX, hXe, rfl⟩ := hrel
    have HX : Hid (X = crcL (s.data.toList.take k)) := hXe
    clear hXe
    by_cases hlt : k < s.size
    · have HT : Hid (crcL (s.data.toList.take (k + 1)) = crcBits 8 (crcL (s.data.toList.take k) ^^^ s[k].toNat)) := by rw [take_snoc s k hlt]; exact crcL_snoc _ _
      have hc : s[k].toNat < 256 := s[k].toNat_lt
      have hx := u32_xor_nat X s[k].toNat hX (by omega)
      have hY : X ^^^ s[k].toNat < 4294967296 := Nat.xor_lt_two_pow (n := 32) hX (by omega)
      have HT2 : Hid (crcL (s.data.toList.take (k + 1)) = crcBits 8 (X ^^^ s[k].toNat)) := by rw [HT.out, ← HX.out]; rfl
      clear HT HX
      go_wp2
      generalize X ^^^ s[k].toNat = Y0 at *
      go_loop [3, 17] (fun x j => ∃ n : Nat, n ≤ 8 ∧ j = .int .i64 n ∧ ∃ Y : Nat, Y < 4294967296 ∧ Y = crcBits n Y0 ∧ x = .int .u32 Y) (fun _ j => 8 - (intOf j).toNat)
      case atStart => exact ⟨0, Nat.zero_le _, rfl, Y0, hY, rfl, rfl⟩
      case round =>
        obtain ⟨n, hn, rfl, Y, hYl, hYe, rfl⟩ := hrel
        have HY : Hid (Y = crcBits n Y0) := hYe
        clear hYe
        by_cases hn8 : n < 8
        · have ha := and_one Y hYl
          by_cases ho : Y % 2 = 1
          · have hb : (((Y % 2 : Nat) : Int) == 1) = true := by rw [ho]; rfl
            have hx2 := crcBit_odd Y hYl ho
            have hlt2 := crcBit_lt hYl
            have HB : Hid (crcBit Y = crcBits (n + 1) Y0) := by rw [HY.out]; rfl
            clear ho
            go_wp2
            go_round
            case rel => exact ⟨n + 1, by omega, by go_num, crcBit Y, hlt2, HB.out, rfl⟩
            case measure => simp [intOf]; omega
          · have hb : (((Y % 2 : Nat) : Int) == 1) = false := by simp; omega
            have hx2 := crcBit_even Y ho
            have hlt2 := crcBit_lt hYl
            have HB : Hid (crcBit Y = crcBits (n + 1) Y0) := by rw [HY.out]; rfl
            clear ho
            go_wp2
            go_round
            case rel => exact ⟨n + 1, by omega, by go_num, crcBit Y, hlt2, HB.out, rfl⟩
            case measure => simp [intOf]; omega
        · have hn9 : n = 8 := by omega
          subst hn9
          go_wp2
          go_round
          case rel => exact ⟨k + 1, by omega, by go_num, Y, hYl, by rw [HT2.out]; exact HY.out, rfl⟩
          case measure => simp [intOf]; omega
    · have hkk : k = s.size := by omega
      have HE : Hid (X = crcL s.data.toList) := by
        have := HX.out; rw [hkk, List.take_of_length_le (by simp)] at this; exact this
      clear hkk HX
      go_wp2
      go_ret
      exact ⟨ret_int (by rw [← HE.out]; exact crc_end X hX), rfl⟩
end Go.Proofs.Ytglkoedmonenoaa
