/- The contracts of the document's own Put and Sum. Conditions: the numbers' own ranges, a string's own length. -/
import Derived.Test.YtpojkaeclfgfkaaDoorRBytes
import Derived.Test.YtpojkaeclfgfkaaDoorCrc
namespace Go.Proofs.YtpojkaeclfgfkaaDoor
open Go.RowKit
set_option linter.unusedVariables false
set_option maxRecDepth 100000

set_option maxHeartbeats 600000 in
theorem rput_bad (V n : Int) (w : World) (h : n < 1 ∨ 8 < n) :
    Calls Tryd.prog 37 #[.int .i64 V, .int .i64 n] w fun e w' => e = .returned (.tuple #[.string ⟨#[]⟩, .int .i64 1]) ∧ w' = w := by
  rcases h with h | h
  · go_enter Tryd.func37, Tryd.ntmps37
    go_wp2
    go_ret2
    exact ⟨rfl, rfl⟩
  · have h' : decide (n < 1) = false := by simp; omega
    go_enter Tryd.func37, Tryd.ntmps37
    go_wp2
    go_ret2
    exact ⟨rfl, rfl⟩
/-- What the document's Put answers. -/
def rputS (V : Int) (n : Nat) : ByteArray := if fitsB V n then ⟨(putL n V).toArray⟩ else ⟨#[]⟩
def rputE (V : Int) (n : Nat) : Int := if fitsB V n then 0 else 1
set_option maxHeartbeats 1000000 in
theorem rput_any (V : Int) (n : Nat) (w : World) (v1 : -9223372036854775808 ≤ V) (v2 : V ≤ 9223372036854775807) (h1 : 1 ≤ n) (h2 : n ≤ 8) :
    Calls Tryd.prog 37 #[.int .i64 V, .int .i64 n] w fun e w' => e = .returned (.tuple #[.string (rputS V n), .int .i64 (rputE V n)]) ∧ Below w.heap.size w w' := by
  have HF : Hid (getV (putL n V) = V ↔ fitsB V n = true) := get_put V n h1 h2
  have HS : Hid (rputS V n = if fitsB V n then ⟨(putL n V).toArray⟩ else ⟨#[]⟩) := rfl
  have HEe : Hid (rputE V n = if fitsB V n then 0 else 1) := rfl
  have HG : Hid (∀ w, Calls Tryd.prog 39 #[.string ⟨(putL n V).toArray⟩] w fun e w' => e = .returned (.tuple #[.int .i64 (getV (putL n V)), .int .i64 0]) ∧ w' = w) := fun w =>
    rget_yes ⟨(putL n V).toArray⟩ w (by show 1 ≤ (putL n V).length; rw [putL_len]; exact h1) (by show (putL n V).length ≤ 8; rw [putL_len]; exact h2)
  have c1 : decide ((n : Int) < 1) = false := by simp; omega
  have c2 : decide ((8 : Int) < (n : Int)) = false := by simp; omega
  obtain ⟨W, hmk, hbel, hsz, hcell, hfz⟩ := make_bytes w n h2
  have HC : Hid (∀ j, j < n → ∃ z, W.cell? ⟨w.heap.size, j, none⟩ = some (.int .u8 z)) := hcell
  have HZ : Hid (∀ j, j < n → W.frozen? ⟨w.heap.size, j, none⟩ = false) := hfz
  have HB : Hid (Below w.heap.size w W) := hbel
  clear hcell hfz hbel
  go_enter Tryd.func37, Tryd.ntmps37
  go_wp2
  go_loopw [7, 8] (fun v i wr => ∃ k : Nat, k ≤ n ∧ i = .int .i64 ((k : Int) - 1) ∧ v = .int .i64 (V / 256 ^ (n - k)) ∧ PutInv V n w.heap.size W k wr) (fun _ i _ => (intOf i + 1).toNat)
  case atStart => exact ⟨n, Nat.le_refl _, by go_num, by simp, fun j hj hn => by omega, HC.out, Only.refl _ _⟩
  case round =>
    obtain ⟨k, hk, rfl, rfl, hinv⟩ := hrel
    have HI : Hid (PutInv V n w.heap.size W k wr) := hinv
    clear hinv
    by_cases h0 : k = 0
    · subst h0
      have hcv := HI.out.back n
      have HBB : Hid (Below w.heap.size w wr) := HB.out.trans (HI.out.2.2.below (Nat.le_refl _))
      go_wp2_with fail
      refine Calls.mono (HG.out _) ?_
      rintro e w1 ⟨rfl, hw⟩
      have hw' := hw.symm
      subst hw'
      clear hw HG HI
      by_cases hg : getV (putL n V) = V
      · have hff := HF.out.1 hg
        have hne : (getV (putL n V) != V) = false := by rw [bne_eq_false_iff_eq]; exact hg
        have HS1 : Hid (rputS V n = ⟨(putL n V).toArray⟩) := by rw [HS.out, hff]; rfl
        have HS2 : Hid (rputE V n = 0) := by rw [HEe.out, hff]; rfl
        clear HF HS HEe hg hff
        generalize getV (putL n V) = G at *
        go_wp2
        go_ret2
        exact ⟨by rw [HS1.out, HS2.out]; rfl, HBB.out⟩
      · have hff : fitsB V n = false := by
          cases hb : fitsB V n with
          | false => rfl
          | true => exact absurd (HF.out.2 hb) hg
        have hne : (getV (putL n V) != V) = true := by rw [bne_iff_ne]; exact hg
        have HS1 : Hid (rputS V n = ⟨#[]⟩) := by rw [HS.out, hff]; rfl
        have HS2 : Hid (rputE V n = 1) := by rw [HEe.out, hff]; rfl
        clear HF HS HEe hg hff
        generalize getV (putL n V) = G at *
        go_wp2
        go_ret2
        exact ⟨by rw [HS1.out, HS2.out]; rfl, HBB.out⟩
    · obtain ⟨m, rfl⟩ : ∃ m, k = m + 1 := ⟨k - 1, by omega⟩
      obtain ⟨z, hz⟩ := HI.out.2.1 m (by omega)
      have hfr : wr.frozen? ⟨w.heap.size, m, none⟩ = false := by rw [HI.out.2.2.frz]; exact HZ.out m (by omega)
      have HN : Hid (V / 256 ^ (n - (m + 1)) / 256 = V / 256 ^ (n - m)) := by
        rw [div_step, show n - (m + 1) + 1 = n - m by omega]; rfl
      have HSt : Hid (PutInv V n w.heap.size W m (wr.setCell ⟨w.heap.size, m, none⟩ (.int .u8 (V / 256 ^ (n - (m + 1)) % 256)))) := HI.out.step (by omega)
      clear HI h0
      generalize V / 256 ^ (n - (m + 1)) = x at *
      go_wp2
      go_roundw
      case rel => exact ⟨m, by omega, rfl, by rw [← HN.out], HSt.out⟩
      case measure => simp [intOf]

theorem i64_xor_nat (a b : Nat) (ha : a < 4294967296) (hb : b < 4294967296) : bits .xor .i64 (a : Int) (b : Int) = ((a ^^^ b : Nat) : Int) := by
  have hx : a ^^^ b < 4294967296 := Nat.xor_lt_two_pow (n := 32) ha hb
  have key : (BitVec.ofInt 64 (a : Int) ^^^ BitVec.ofInt 64 (b : Int)).toNat = a ^^^ b := by
    rw [BitVec.toNat_xor, BitVec.toNat_ofInt, BitVec.toNat_ofInt]
    have e1 : ((a : Int) % ((2 ^ 64 : Nat) : Int)).toNat = a := by omega
    have e2 : ((b : Int) % ((2 ^ 64 : Nat) : Int)).toNat = b := by omega
    rw [e1, e2]
  show IntKind.i64.wrap ((BitVec.ofInt 64 (a : Int) ^^^ BitVec.ofInt 64 (b : Int)).toNat : Nat) = _
  rw [key, IntKind.wrap_i64]
  omega
theorem not_i64 (X : Nat) (h : X < 4294967296) : bits .xor .i64 (X : Int) 4294967295 = 4294967295 - (X : Int) := by
  have e := i64_xor_nat X 4294967295 h (by omega)
  have e2 : X ^^^ 4294967295 = 4294967295 - X := by
    have h1 : (BitVec.ofNat 32 X ^^^ BitVec.allOnes 32).toNat = X ^^^ 4294967295 := by
      rw [BitVec.toNat_xor, BitVec.toNat_ofNat, Nat.mod_eq_of_lt (by omega)]; rfl
    rw [← h1, BitVec.xor_allOnes, BitVec.toNat_not, BitVec.toNat_ofNat, Nat.mod_eq_of_lt (by omega)]
  rw [e2] at e
  have : ((4294967295 : Nat) : Int) = 4294967295 := rfl
  rw [this] at e
  rw [e]; omega
theorem rcrcBit_odd (Y : Nat) (h : Y < 4294967296) (ho : Y % 2 = 1) : bits .xor .i64 ((Y : Int) / 2) 3988292384 = ((crcBit Y : Nat) : Int) := by
  have := i64_xor_nat (Y / 2) 3988292384 (by omega) (by omega)
  unfold crcBit; rw [if_pos ho]; exact this
set_option maxHeartbeats 400000 in
theorem rsum_any (s : ByteArray) (w : World) (hs : s.size ≤ maxLen) :
    Calls Tryd.prog 41 #[.string s] w fun e w' => e = .returned (.int .i64 (4294967295 - (crcL s.data.toList : Int))) ∧ w' = w := by
  unfold maxLen at hs
  go_enter Tryd.func41, Tryd.ntmps41
  go_wp2
  go_loop [3, 4] (fun x i => ∃ k : Nat, k ≤ s.size ∧ i = .int .i64 k ∧ ∃ X : Nat, X < 4294967296 ∧ X = crcL (s.data.toList.take k) ∧ x = .int .i64 X) (fun _ i => s.size - (intOf i).toNat)
  case atStart => exact ⟨0, Nat.zero_le _, rfl, 4294967295, by omega, rfl, rfl⟩
  case round =>
    obtain ⟨k, hk, rfl, X, hX, hXe, rfl⟩ := hrel
    have HX : Hid (X = crcL (s.data.toList.take k)) := hXe
    clear hXe
    by_cases hlt : k < s.size
    · have HT : Hid (crcL (s.data.toList.take (k + 1)) = crcBits 8 (crcL (s.data.toList.take k) ^^^ s[k].toNat)) := by rw [take_snoc s k hlt]; exact crcL_snoc _ _
      have hc : s[k].toNat < 256 := s[k].toNat_lt
      have hx := i64_xor_nat X s[k].toNat hX (by omega)
      have hY : X ^^^ s[k].toNat < 4294967296 := Nat.xor_lt_two_pow (n := 32) hX (by omega)
      have HT2 : Hid (crcL (s.data.toList.take (k + 1)) = crcBits 8 (X ^^^ s[k].toNat)) := by rw [HT.out, ← HX.out]; rfl
      clear HT HX
      go_wp2
      generalize X ^^^ s[k].toNat = Y0 at *
      go_loop [3, 5] (fun x j => ∃ n : Nat, n ≤ 8 ∧ j = .int .i64 n ∧ ∃ Y : Nat, Y < 4294967296 ∧ Y = crcBits n Y0 ∧ x = .int .i64 Y) (fun _ j => 8 - (intOf j).toNat)
      case atStart => exact ⟨0, Nat.zero_le _, rfl, Y0, hY, rfl, rfl⟩
      case round =>
        obtain ⟨n, hn, rfl, Y, hYl, hYe, rfl⟩ := hrel
        have HY : Hid (Y = crcBits n Y0) := hYe
        clear hYe
        by_cases hn8 : n < 8
        · by_cases ho : Y % 2 = 1
          · have hb : ((Y : Int) % 2 == 1) = true := by rw [beq_iff_eq]; omega
            have hx2 := rcrcBit_odd Y hYl ho
            have hlt2 := crcBit_lt hYl
            have HB : Hid (crcBit Y = crcBits (n + 1) Y0) := by rw [HY.out]; rfl
            clear ho
            go_wp2
            go_round
            case rel => exact ⟨n + 1, by omega, by go_num, crcBit Y, hlt2, HB.out, rfl⟩
            case measure => simp [intOf]; omega
          · have hb : ((Y : Int) % 2 == 1) = false := by rw [beq_eq_false_iff_ne]; omega
            have hx2 := crcBit_even Y ho
            have hlt2 := crcBit_lt hYl
            have HB : Hid (crcBit Y = crcBits (n + 1) Y0) := by rw [HY.out]; rfl
            clear ho
            go_wp2
            go_round
            case rel => exact ⟨n + 1, by omega, by go_num, crcBit Y, hlt2, HB.out, rfl⟩
            case measure => simp [intOf]; omega
        · have hn9 : n = 8 := by omega
          subst hn9
          go_wp2
          go_round
          case rel => exact ⟨k + 1, by omega, by go_num, Y, hYl, by rw [HT2.out]; exact HY.out, rfl⟩
          case measure => simp [intOf]; omega
    · have hkk : k = s.size := by omega
      have HE : Hid (X = crcL s.data.toList) := by
        have := HX.out; rw [hkk, List.take_of_length_le (by simp)] at this; exact this
      have hnx := not_i64 X hX
      clear hkk HX
      go_wp2
      go_ret
      exact ⟨ret_int (by rw [← HE.out]), rfl⟩
end Go.Proofs.YtpojkaeclfgfkaaDoor
