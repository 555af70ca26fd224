/- The contract of fix's Put: a number as n bytes, or the error. Conditions: the numbers' own ranges. -/
import Derived.Test.YtglkoedmonenoaaPutGet
namespace Go.Proofs.Ytglkoedmonenoaa
open Go.RowKit
set_option linter.unusedVariables false
set_option maxRecDepth 100000

theorem div_step (V : Int) (a : Nat) : V / 256 ^ a / 256 = V / 256 ^ (a + 1) := by
  rw [Int.pow_succ, Int.ediv_ediv_of_nonneg (Int.le_of_lt (Int.pow_pos (by omega)))]
/-- What stands behind some rounds of the loop that lays the bytes. -/
def PutInv (V : Int) (n g : Nat) (W : World) (k : Nat) (wr : World) : Prop :=
  (∀ j, k ≤ j → j < n → wr.cell? ⟨g, j, none⟩ = some (.int .u8 (((putL n V).getD j 0).toNat : Int))) ∧ (∀ j, j < n → ∃ z, wr.cell? ⟨g, j, none⟩ = some (.int .u8 z)) ∧ Only g W wr
theorem PutInv.step {V : Int} {n g : Nat} {W : World} {m : Nat} {wr : World} (h : PutInv V n g W (m + 1) wr) (hm : m < n) :
    PutInv V n g W m (wr.setCell ⟨g, m, none⟩ (.int .u8 (V / 256 ^ (n - (m + 1)) % 256))) := by
  obtain ⟨h1, h2, h3⟩ := h
  obtain ⟨z, hz⟩ := h2 m hm
  have hv : (((putL n V).getD m 0).toNat : Int) = V / 256 ^ (n - (m + 1)) % 256 := by
    rw [putL_at n V m hm, byteAt_toNat, show n - 1 - m = n - (m + 1) by omega]
  have far : ∀ j, j ≠ m → (wr.setCell ⟨g, m, none⟩ (.int .u8 (V / 256 ^ (n - (m + 1)) % 256))).cell? ⟨g, j, none⟩ = wr.cell? ⟨g, j, none⟩ := fun j hj =>
    World.cell?_setCell_other _ _ _ _ (fun e => hj (by injection e with _ e2; exact e2.symm))
  refine ⟨fun j hj hn => ?_, fun j hj => ?_, h3.set _ _⟩
  · by_cases e : j = m
    · subst e; rw [World.cell?_setCell_same _ _ _ hz, hv]
    · rw [far j e]; exact h1 j (by omega) hn
  · by_cases e : j = m
    · subst e; exact ⟨_, World.cell?_setCell_same _ _ _ hz⟩
    · rw [far j e]; exact h2 j hj
theorem PutInv.back {V : Int} {n g : Nat} {W wr : World} (h : PutInv V n g W 0 wr) (cap : Nat) :
    (convert 35 9 (.slice (some ⟨g, 0, none⟩) n cap)).run Try.prog wr = .ok (.string ⟨(putL n V).toArray⟩) wr := by
  have e := run_convert_bytes_back wr 35 9 5 ⟨g, 0, none⟩ cap (putL n V) Try.underlying35 Try.underlying5 Try.underlying9 (fun j hj => by
    have ea : (⟨g, 0, none⟩ : Addr).add j = ⟨g, j, none⟩ := by unfold Addr.add; split <;> simp_all
    rw [ea, h.1 j (Nat.zero_le _) (by rw [putL_len] at hj; exact hj), List.getD_eq_getElem?_getD, List.getElem?_eq_getElem hj]; rfl)
  rw [putL_len] at e; exact e

set_option maxHeartbeats 600000 in
theorem put_bad (V n : Int) (w : World) (h : n < 1 ∨ 8 < n) :
    Calls Try.prog 21 #[.int .i64 V, .int .i64 n] w fun e w' => e = .returned (.tuple #[.string ⟨#[]⟩, .int .i64 1]) ∧ w' = w := by
  rcases h with h | h
  · go_enter Try.func21, Try.ntmps21
    go_wp2
    go_ret2
    exact ⟨rfl, rfl⟩
  · have h' : decide (n < 1) = false := by simp; omega
    go_enter Try.func21, Try.ntmps21
    go_wp2
    go_ret2
    exact ⟨rfl, rfl⟩
set_option maxHeartbeats 600000 in
theorem put_nofit (V : Int) (n : Nat) (w : World) (h1 : 1 ≤ n) (h2 : n ≤ 8) (hf : fitsB V n = false) :
    Calls Try.prog 21 #[.int .i64 V, .int .i64 n] w fun e w' => e = .returned (.tuple #[.string ⟨#[]⟩, .int .i64 1]) ∧ w' = w := by
  have HF : Hid (∀ w, Calls Try.prog 25 #[.int .i64 V, .int .i64 n] w fun e w' => e = .returned (.bool false) ∧ w' = w) := fun w => by rw [← hf]; exact fitsInto_any V n w h1 h2
  have c1 : decide ((n : Int) < 1) = false := by simp; omega
  have c2 : decide ((8 : Int) < (n : Int)) = false := by simp; omega
  clear hf
  go_enter Try.func21, Try.ntmps21
  go_wp2_with fail
  refine Calls.mono (HF.out _) ?_
  rintro e w1 ⟨rfl, hw⟩
  subst hw
  go_wp2
  go_ret2
  exact ⟨rfl, rfl⟩
set_option maxHeartbeats 1000000 in
theorem put_yes (V : Int) (n : Nat) (w : World) (v1 : -9223372036854775808 ≤ V) (v2 : V ≤ 9223372036854775807) (h1 : 1 ≤ n) (h2 : n ≤ 8) (hf : fitsB V n = true) :
    Calls Try.prog 21 #[.int .i64 V, .int .i64 n] w fun e w' => e = .returned (.tuple #[.string ⟨(putL n V).toArray⟩, .int .i64 0]) ∧ Below w.heap.size w w' := by
  have HF : Hid (∀ w, Calls Try.prog 25 #[.int .i64 V, .int .i64 n] w fun e w' => e = .returned (.bool true) ∧ w' = w) := fun w => by rw [← hf]; exact fitsInto_any V n w h1 h2
  have c1 : decide ((n : Int) < 1) = false := by simp; omega
  have c2 : decide ((8 : Int) < (n : Int)) = false := by simp; omega
  obtain ⟨W, hmk, hbel, hsz, hcell, hfz⟩ := make_bytes w n h2
  have HC : Hid (∀ j, j < n → ∃ z, W.cell? ⟨w.heap.size, j, none⟩ = some (.int .u8 z)) := hcell
  have HZ : Hid (∀ j, j < n → W.frozen? ⟨w.heap.size, j, none⟩ = false) := hfz
  have HB : Hid (Below w.heap.size w W) := hbel
  clear hf hcell hfz hbel
  go_enter Try.func21, Try.ntmps21
  go_wp2_with fail
  refine Calls.mono (HF.out _) ?_
  rintro e w1 ⟨rfl, hw⟩
  have hw' := hw.symm
  subst hw'
  clear hw
  go_wp2
  go_loopw [0, 7] (fun v i wr => ∃ k : Nat, k ≤ n ∧ i = .int .i64 ((k : Int) - 1) ∧ v = .int .i64 (V / 256 ^ (n - k)) ∧ PutInv V n w.heap.size W k wr) (fun _ i _ => (intOf i + 1).toNat)
  case atStart => exact ⟨n, Nat.le_refl _, by go_num, by simp, fun j hj hn => by omega, HC.out, Only.refl _ _⟩
  case round =>
    obtain ⟨k, hk, rfl, rfl, hinv⟩ := hrel
    have HI : Hid (PutInv V n w.heap.size W k wr) := hinv
    clear hinv
    by_cases h0 : k = 0
    · subst h0
      have hcv := HI.out.back n
      go_wp2
      go_ret2
      exact ⟨rfl, HB.out.trans (HI.out.2.2.below (Nat.le_refl _))⟩
    · obtain ⟨m, rfl⟩ : ∃ m, k = m + 1 := ⟨k - 1, by omega⟩
      obtain ⟨z, hz⟩ := HI.out.2.1 m (by omega)
      have hfr : wr.frozen? ⟨w.heap.size, m, none⟩ = false := by rw [HI.out.2.2.frz]; exact HZ.out m (by omega)
      have HN : Hid (V / 256 ^ (n - (m + 1)) / 256 = V / 256 ^ (n - m)) := by
        rw [div_step, show n - (m + 1) + 1 = n - m by omega]; rfl
      have HS : Hid (PutInv V n w.heap.size W m (wr.setCell ⟨w.heap.size, m, none⟩ (.int .u8 (V / 256 ^ (n - (m + 1)) % 256)))) := HI.out.step (by omega)
      have hbd : -9223372036854775808 ≤ V / 256 ^ (n - (m + 1)) ∧ V / 256 ^ (n - (m + 1)) ≤ 9223372036854775807 := by
        have hp : (0 : Int) < 256 ^ (n - (m + 1)) := Int.pow_pos (by omega)
        generalize (256 : Int) ^ (n - (m + 1)) = p at *
        have e := Int.emod_add_mul_ediv V p
        have r1 := Int.emod_nonneg V (show p ≠ 0 by omega)
        have r2 := Int.emod_lt_of_pos V hp
        generalize V / p = q at *
        generalize V % p = r at *
        constructor
        · rcases Int.lt_or_le q (-9223372036854775808) with hq | hq
          · have : p * q ≤ p * (-9223372036854775809) := Int.mul_le_mul_of_nonneg_left (by omega) (by omega)
            omega
          · exact hq
        · rcases Int.lt_or_le 9223372036854775807 q with hq | hq
          · have : p * 9223372036854775808 ≤ p * q := Int.mul_le_mul_of_nonneg_left (by omega) (by omega)
            omega
          · exact hq
      clear HI h0
      generalize V / 256 ^ (n - (m + 1)) = x at *
      go_wp2
      go_roundw
      case rel => exact ⟨m, by omega, rfl, by rw [← HN.out], HS.out⟩
      case measure => simp [intOf]
end Go.Proofs.Ytglkoedmonenoaa
