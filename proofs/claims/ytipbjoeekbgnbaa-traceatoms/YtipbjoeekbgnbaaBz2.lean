/- picketref1's Total, and its Acc's Add. Conditions: at most 1000 numbers; the numbers' own ranges. -/
import Derived.Test.YtipbjoeekbgnbaaBz1
import Derived.Test.YtipbjoeekbgnbaaInts
import Derived.BigQuiet
import Derived.Deep.QuietTactic
namespace Go.Proofs.Ytipbjoeekbgnbaa
open Go.RowKit
set_option linter.unusedVariables false
set_option maxRecDepth 100000

end Go.Proofs.Ytipbjoeekbgnbaa

namespace Go.Proofs.Ytipbjoeekbgnbaa
open Go.RowKit
set_option linter.unusedVariables false
set_option maxRecDepth 100000

theorem sumL_bd (l : List Int) (h : Fits l) : -((l.length : Int) * 9223372036854775808) ≤ sumL l ∧ sumL l ≤ (l.length : Int) * 9223372036854775808 := by
  induction l with
  | nil => simp [sumL]
  | cons z l ih =>
    have h1 := h z List.mem_cons_self
    have h2 := ih (fun x hx => h x (List.mem_cons_of_mem _ hx))
    have e : sumL (z :: l) = z + sumL l := rfl
    rw [e, List.length_cons]
    omega
theorem zero_big : Dig (fun _ => 0) ∧ sv false (fun _ => 0) = 0 ∧ (false = true → (0 : Int) < 0) := ⟨fun j hj => ⟨by simp, by simp⟩, by simp [sv, valD], fun h => by cases h⟩
end Go.Proofs.Ytipbjoeekbgnbaa

namespace Go.Proofs.Ytipbjoeekbgnbaa
open Go.RowKit
set_option linter.unusedVariables false
set_option maxRecDepth 100000
theorem halves_lo (p q b : Int) (hq0 : 0 ≤ q) (hq1 : q < 65536) : (p * b + q * b / 65536) % 65536 * 65536 + q * b % 65536 = (p * 65536 + q) * b % 4294967296 := by
  have e : (p * 65536 + q) * b = p * b * 65536 + q * b := by rw [Int.add_mul, Int.mul_right_comm]
  rw [e]
  generalize p * b = A
  generalize q * b = B
  omega
theorem halves_hi (p q b : Int) (hq0 : 0 ≤ q) (hq1 : q < 65536) : (p * b + q * b / 65536) / 65536 = (p * 65536 + q) * b / 4294967296 := by
  have e : (p * 65536 + q) * b = p * b * 65536 + q * b := by rw [Int.add_mul, Int.mul_right_comm]
  rw [e]
  generalize p * b = A
  generalize q * b = B
  omega
def mulLo (a b : Int) : Int := a * b % 4294967296
def mulHi (a b : Int) : Int := a * b / 4294967296
set_option maxHeartbeats 1000000 in
theorem halves_any (a b : Int) (w : World) (a0 : 0 ≤ a) (a1 : a < 4294967296) (b0 : 0 ≤ b) (b1 : b < 4294967296) :
    Calls Try.prog 27 #[.int .i64 a, .int .i64 b] w fun e w' => e = .returned (.tuple #[.int .i64 (mulLo a b), .int .i64 (mulHi a b)]) ∧ w' = w := by
  have ea : a = a / 65536 * 65536 + a % 65536 := by omega
  have q0 : 0 ≤ a % 65536 ∧ a % 65536 < 65536 := by omega
  have p0 : 0 ≤ a / 65536 ∧ a / 65536 < 65536 := by omega
  have hl := halves_lo (a / 65536) (a % 65536) b q0.1 q0.2
  have hh := halves_hi (a / 65536) (a % 65536) b q0.1 q0.2
  rw [← ea] at hl hh
  have HL : Hid ((a / 65536 * b + a % 65536 * b / 65536) % 65536 * 65536 + a % 65536 * b % 65536 = mulLo a b) := hl
  have HH : Hid ((a / 65536 * b + a % 65536 * b / 65536) / 65536 = mulHi a b) := hh
  have m1 : 0 ≤ a % 65536 * b ∧ a % 65536 * b ≤ 281474976710655 := by
    refine ⟨Int.mul_nonneg q0.1 b0, ?_⟩
    have := Int.mul_le_mul (show a % 65536 ≤ 65535 by omega) (show b ≤ 4294967295 by omega) b0 (by omega)
    omega
  have m2 : 0 ≤ a / 65536 * b ∧ a / 65536 * b ≤ 281474976710655 := by
    refine ⟨Int.mul_nonneg p0.1 b0, ?_⟩
    have := Int.mul_le_mul (show a / 65536 ≤ 65535 by omega) (show b ≤ 4294967295 by omega) b0 (by omega)
    omega
  clear hl hh ea
  generalize mulLo a b = lo at *
  generalize mulHi a b = hi at *
  go_enter Try.func27, Try.ntmps27
  go_wp2
  go_ret2
  exact ⟨by rw [← HL.out, ← HH.out]; rfl, rfl⟩
end Go.Proofs.Ytipbjoeekbgnbaa

namespace Go.Proofs.Ytipbjoeekbgnbaa
open Go.RowKit
set_option linter.unusedVariables false
set_option maxRecDepth 100000

/-- Digits of which one is another. -/
def setD (e : Nat → Int) (n : Nat) (x : Int) : Nat → Int := fun j => if j = n then x else e j
theorem setD_dig {e : Nat → Int} (h : Dig e) (n : Nat) (x : Int) (h0 : 0 ≤ x) (h1 : x < 4294967296) : Dig (setD e n x) := fun i hi => by
  unfold setD; split
  · exact ⟨h0, h1⟩
  · exact h i hi
theorem valD_low (e : Nat → Int) (n : Nat) (x : Int) : ∀ m, m ≤ n → valD (setD e n x) m = valD e m
  | 0, _ => rfl
  | m + 1, h => by
    simp only [valD]
    rw [valD_low e n x m (by omega), show setD e n x m = e m by unfold setD; rw [if_neg (by omega)]]
theorem valD_set (e : Nat → Int) (n : Nat) (x : Int) : ∀ m, n < m → valD (setD e n x) m = valD e m + (x - e n) * 4294967296 ^ n
  | 0, h => by omega
  | m + 1, h => by
    simp only [valD]
    by_cases hm : n = m
    · subst hm
      rw [valD_low e n x n (Nat.le_refl _), show setD e n x n = x by unfold setD; rw [if_pos rfl], Int.sub_mul]; omega
    · rw [valD_set e n x m (by omega), show setD e n x m = e m by unfold setD; rw [if_neg (fun h => hm h.symm)]]; omega
theorem pow_add (i j : Nat) : (4294967296 : Int) ^ (i + j) = 4294967296 ^ i * 4294967296 ^ j := Int.pow_add _ i j
theorem mul_parts (a b : Int) : mulLo a b + mulHi a b * 4294967296 = a * b := by unfold mulLo mulHi; omega
theorem mul_bds (a b : Int) (a0 : 0 ≤ a) (a1 : a < 4294967296) (b0 : 0 ≤ b) (b1 : b < 4294967296) : (0 ≤ mulLo a b ∧ mulLo a b < 4294967296) ∧ (0 ≤ mulHi a b ∧ mulHi a b ≤ 4294967294) := by
  have h0 := Int.mul_nonneg a0 b0
  have h1 := Int.mul_le_mul (show a ≤ 4294967295 by omega) (show b ≤ 4294967295 by omega) b0 (by omega)
  unfold mulLo mulHi
  generalize a * b = P at *
  omega
/-- The inner loop's round: the number goes up by a digit's product. -/
theorem mul_round (e : Nat → Int) (n : Nat) (hn : n < 6) (k x y : Int) :
    valD (setD e n ((e n + mulLo x y + k) % 4294967296)) 6 + ((e n + mulLo x y + k) / 4294967296 + mulHi x y) * 4294967296 ^ (n + 1) = valD e 6 + k * 4294967296 ^ n + x * y * 4294967296 ^ n := by
  rw [valD_set e n _ 6 hn]
  have hp : (4294967296 : Int) ^ (n + 1) = 4294967296 * 4294967296 ^ n := by rw [Int.pow_succ, Int.mul_comm]
  rw [hp, ← Int.mul_assoc]
  have e1 : (e n + mulLo x y + k) % 4294967296 - e n + ((e n + mulLo x y + k) / 4294967296 + mulHi x y) * 4294967296 = k + x * y := by
    have := mul_parts x y
    generalize x * y = P at *
    generalize mulLo x y = lo at *
    generalize mulHi x y = hi at *
    omega
  rw [Int.add_assoc, ← Int.add_mul, e1, Int.add_mul]; omega
/-- The carry stays a digit. -/
theorem mul_carry (en k x y : Int) (e0 : 0 ≤ en) (e1 : en < 4294967296) (k0 : 0 ≤ k) (k1 : k < 4294967296) (x0 : 0 ≤ x) (x1 : x < 4294967296) (y0 : 0 ≤ y) (y1 : y < 4294967296) :
    0 ≤ (en + mulLo x y + k) / 4294967296 + mulHi x y ∧ (en + mulLo x y + k) / 4294967296 + mulHi x y < 4294967296 := by
  have h0 := Int.mul_nonneg x0 y0
  have h1 := Int.mul_le_mul (show x ≤ 4294967295 by omega) (show y ≤ 4294967295 by omega) y0 (by omega)
  have hp := mul_parts x y
  have hb := mul_bds x y x0 x1 y0 y1
  generalize x * y = P at *
  generalize mulLo x y = lo at *
  generalize mulHi x y = hi at *
  omega
/-- The last loop's round: the carry goes on. -/
theorem carry_round (e : Nat → Int) (n : Nat) (hn : n < 6) (k : Int) :
    valD (setD e n ((e n + k) % 4294967296)) 6 + (e n + k) / 4294967296 * 4294967296 ^ (n + 1) = valD e 6 + k * 4294967296 ^ n := by
  rw [valD_set e n _ 6 hn]
  have hp : (4294967296 : Int) ^ (n + 1) = 4294967296 * 4294967296 ^ n := by rw [Int.pow_succ, Int.mul_comm]
  rw [hp, ← Int.mul_assoc]
  have e1 : (e n + k) % 4294967296 - e n + (e n + k) / 4294967296 * 4294967296 = k := by omega
  rw [Int.add_assoc, ← Int.add_mul, e1]
/-- Where the inner loop is: i digits of a are through, j digits of b with the next one. -/
def mulAt (a b : Nat → Int) (i j : Nat) : Int := valD a i * valD b 3 + a i * valD b j * 4294967296 ^ i
theorem mulAt_zero (a b : Nat → Int) (i : Nat) : mulAt a b i 0 = valD a i * valD b 3 := by simp [mulAt, valD]
theorem mulAt_step (a b : Nat → Int) (i j : Nat) : mulAt a b i (j + 1) = mulAt a b i j + a i * b j * 4294967296 ^ (i + j) := by
  unfold mulAt
  have e : valD b (j + 1) = valD b j + b j * 4294967296 ^ j := rfl
  rw [e, Int.mul_add (a i), Int.add_mul, pow_add]
  have h : a i * (b j * 4294967296 ^ j) * 4294967296 ^ i = a i * b j * (4294967296 ^ i * 4294967296 ^ j) := by
    rw [← Int.mul_assoc, Int.mul_assoc (a i * b j), Int.mul_comm ((4294967296 : Int) ^ j)]
  rw [h, Int.add_assoc]
theorem mulAt_three (a b : Nat → Int) (i : Nat) : mulAt a b i 3 = valD a (i + 1) * valD b 3 := by
  unfold mulAt
  have e : valD a (i + 1) = valD a i + a i * 4294967296 ^ i := rfl
  rw [e, Int.add_mul (valD a i), Int.mul_right_comm]
end Go.Proofs.Ytipbjoeekbgnbaa

namespace Go.Proofs.Ytipbjoeekbgnbaa
open Go.RowKit
set_option linter.unusedVariables false
set_option maxRecDepth 100000

/-- The four boxes of Mul. -/
structure Mul4 (w W : World) (m n : Bool) (a b e : Nat → Int) : Prop where
  A : BigAt W w.heap.size m a
  B : BigAt W (w.heap.size + 1) n b
  R : BigAt W (w.heap.size + 1 + 1) false (fun _ => 0)
  C : BigAt W (w.heap.size + 1 + 1 + 1) false e
  bel : Below w.heap.size w W
theorem Mul4.stays {w W W' : World} {m n : Bool} {a b e : Nat → Int} (h : Mul4 w W m n a b e) (k : Below W.heap.size W W') : Mul4 w W' m n a b e := ⟨h.A.below k, h.B.below k, h.R.below k, h.C.below k, h.bel.trans (k.mono h.bel.size)⟩
theorem Mul4.set {w W : World} {m n : Bool} {a b e : Nat → Int} (h : Mul4 w W m n a b e) (k : Nat) (hk : k < 6) (x : Int) : Mul4 w (W.setCell ⟨w.heap.size + 1 + 1 + 1, 1 + k, none⟩ (.int .i64 x)) m n a b (setD e k x) :=
  ⟨h.A.other _ _ (by omega), h.B.other _ _ (by omega), h.R.other _ _ (by omega), h.C.set k hk x, bset h.bel _ _ _ (by omega)⟩
theorem bigAt_cells (V : World) (m : Bool) (d : Nat → Int) : BigAt (V.alloc (.cells #[.bool m, .int .i64 (d 0), .int .i64 (d 1), .int .i64 (d 2), .int .i64 (d 3), .int .i64 (d 4), .int .i64 (d 5)] 52)) V.heap.size m d := bigAt_of (by simp [go_sem]) (by simp [go_sem]) (by simp [go_sem]) (by simp [go_sem]) (by simp [go_sem]) (by simp [go_sem]) (by simp [go_sem]) (fun j => by simp [go_sem])
theorem mul4_made (w : World) (m n : Bool) (a b : Nat → Int) : Mul4 w ((((w.alloc (.cells #[.bool m, .int .i64 (a 0), .int .i64 (a 1), .int .i64 (a 2), .int .i64 (a 3), .int .i64 (a 4), .int .i64 (a 5)] 52)).alloc (.cells #[.bool n, .int .i64 (b 0), .int .i64 (b 1), .int .i64 (b 2), .int .i64 (b 3), .int .i64 (b 4), .int .i64 (b 5)] 52)).alloc (.cells #[.bool false, .int .i64 0, .int .i64 0, .int .i64 0, .int .i64 0, .int .i64 0, .int .i64 0] 52)).alloc (.cells #[.bool false, .int .i64 0, .int .i64 0, .int .i64 0, .int .i64 0, .int .i64 0, .int .i64 0] 52)) m n a b (fun _ => 0) := by
  have al := fun (V : World) (o : Obj) => (Below.refl V.heap.size V).alloc (Nat.le_refl _) o
  have h1 := bigAt_cells w m a
  have h2 := bigAt_cells (w.alloc (.cells #[.bool m, .int .i64 (a 0), .int .i64 (a 1), .int .i64 (a 2), .int .i64 (a 3), .int .i64 (a 4), .int .i64 (a 5)] 52)) n b
  have h3 := bigAt_new ((w.alloc (.cells #[.bool m, .int .i64 (a 0), .int .i64 (a 1), .int .i64 (a 2), .int .i64 (a 3), .int .i64 (a 4), .int .i64 (a 5)] 52)).alloc (.cells #[.bool n, .int .i64 (b 0), .int .i64 (b 1), .int .i64 (b 2), .int .i64 (b 3), .int .i64 (b 4), .int .i64 (b 5)] 52))
  have h4 := bigAt_new (((w.alloc (.cells #[.bool m, .int .i64 (a 0), .int .i64 (a 1), .int .i64 (a 2), .int .i64 (a 3), .int .i64 (a 4), .int .i64 (a 5)] 52)).alloc (.cells #[.bool n, .int .i64 (b 0), .int .i64 (b 1), .int .i64 (b 2), .int .i64 (b 3), .int .i64 (b 4), .int .i64 (b 5)] 52)).alloc (.cells #[.bool false, .int .i64 0, .int .i64 0, .int .i64 0, .int .i64 0, .int .i64 0, .int .i64 0] 52))
  simp only [World.size_alloc] at h2 h3 h4
  exact ⟨((h1.below (al _ _)).below (al _ _)).below (al _ _), (h2.below (al _ _)).below (al _ _), h3.below (al _ _), h4, ((((Below.refl _ _).alloc (Nat.le_refl _) _).alloc (by simp) _).alloc (by simp; omega) _).alloc (by simp; omega) _⟩
theorem mul_below {a b : Nat → Int} (ha : Dig a) (hb : Dig b) (i : Nat) (hi : i < 3) : valD a (i + 1) * valD b 3 < 4294967296 ^ 6 := by
  have h1 := valD_nonneg ha (i + 1) (by omega)
  have h2 := valD_nonneg hb 3 (by omega)
  have h3 : (4294967296 : Int) ^ (i + 1) ≤ 4294967296 ^ 3 := by rcases (show i = 0 ∨ i = 1 ∨ i = 2 by omega) with rfl | rfl | rfl <;> decide
  have h4 := Int.mul_le_mul (show valD a (i + 1) ≤ 4294967296 ^ 3 by omega) (show valD b 3 ≤ 4294967296 ^ 3 - 1 by omega) h2.1 (by omega)
  have e : (4294967296 : Int) ^ 3 * (4294967296 ^ 3 - 1) < 4294967296 ^ 6 := by decide
  omega
set_option maxHeartbeats 4000000 in
theorem rmul_loops (m n : Bool) (a b : Nat → Int) (w : World) (ha : Dig a) (hb : Dig b) :
    Calls Try.prog 15 #[.agg #[.bool m, .int .i64 (a 0), .int .i64 (a 1), .int .i64 (a 2), .int .i64 (a 3), .int .i64 (a 4), .int .i64 (a 5)], .agg #[.bool n, .int .i64 (b 0), .int .i64 (b 1), .int .i64 (b 2), .int .i64 (b 3), .int .i64 (b 4), .int .i64 (b 5)]] w fun e w' => ∃ d k, e = .returned (.agg #[.bool k, .int .i64 (d 0), .int .i64 (d 1), .int .i64 (d 2), .int .i64 (d 3), .int .i64 (d 4), .int .i64 (d 5)]) ∧ Dig d ∧ valD d 6 = valD a 3 * valD b 3 ∧ k = ((m != n) && !(zB d)) ∧ Below w.heap.size w w' := by
  have HA : Hid (Dig a) := ha
  have HB : Hid (Dig b) := hb
  have H0 : Hid (Mul4 w ((((w.alloc (.cells #[.bool m, .int .i64 (a 0), .int .i64 (a 1), .int .i64 (a 2), .int .i64 (a 3), .int .i64 (a 4), .int .i64 (a 5)] 52)).alloc (.cells #[.bool n, .int .i64 (b 0), .int .i64 (b 1), .int .i64 (b 2), .int .i64 (b 3), .int .i64 (b 4), .int .i64 (b 5)] 52)).alloc (.cells #[.bool false, .int .i64 0, .int .i64 0, .int .i64 0, .int .i64 0, .int .i64 0, .int .i64 0] 52)).alloc (.cells #[.bool false, .int .i64 0, .int .i64 0, .int .i64 0, .int .i64 0, .int .i64 0, .int .i64 0] 52)) m n a b (fun _ => 0)) := mul4_made w m n a b
  have HV0 : Hid (valD (fun _ => 0) 6 = valD a 0 * valD b 3 ∧ Dig (fun _ => 0)) := ⟨by simp [valD], fun j hj => ⟨by simp, by simp⟩⟩
  clear ha hb
  go_enter Try.func15, Try.ntmps15
  go_wp2
  go_loopw [6] (fun iv wr => ∃ (i : Nat) (e : Nat → Int), i ≤ 3 ∧ iv = .int .i64 i ∧ Dig e ∧ valD e 6 = valD a i * valD b 3 ∧ Mul4 w wr m n a b e) (fun iv _ => 3 - (intOf iv).toNat)
  case atStart => exact ⟨0, fun _ => 0, by omega, rfl, HV0.out.2, HV0.out.1, H0.out⟩
  case round =>
    obtain ⟨i, e, hi, rfl, hD, hV, hM⟩ := hrel
    have HI : Hid (Dig e ∧ valD e 6 = valD a i * valD b 3 ∧ Mul4 w wr m n a b e) := ⟨hD, hV, hM⟩
    clear hD hV hM H0 HV0
    by_cases hlt : i < 3
    · have hd3 : decide ((i : Int) < 3) = true := by simp; omega
      have HS : Hid (valD e 6 + 0 * 4294967296 ^ (i + 0) = mulAt a b i 0) := by show _ = _; rw [mulAt_zero, Int.zero_mul, Int.add_zero]; exact HI.out.2.1
      go_wp2
      go_loopw [7, 8] (fun kv jv wz => ∃ (j : Nat) (k : Int) (f : Nat → Int), j ≤ 3 ∧ jv = .int .i64 j ∧ kv = .int .i64 k ∧ (0 ≤ k ∧ k < 4294967296) ∧ Dig f ∧ valD f 6 + k * 4294967296 ^ (i + j) = mulAt a b i j ∧ Mul4 w wz m n a b f) (fun _ jv _ => 3 - (intOf jv).toNat)
      case atStart => exact ⟨0, 0, e, by omega, rfl, rfl, by omega, HI.out.1, HS.out, HI.out.2.2⟩
      case round =>
        obtain ⟨j, k, f, hj, rfl, rfl, hk, hD, hV, hM⟩ := hrel
        have HJ : Hid (Dig f ∧ valD f 6 + k * 4294967296 ^ (i + j) = mulAt a b i j ∧ Mul4 w wr m n a b f) := ⟨hD, hV, hM⟩
        clear hD hV hM HI HS
        by_cases hjl : j < 3
        · have ca := HJ.out.2.2.A.c i (by omega)
          have cb := HJ.out.2.2.B.c j (by omega)
          have cc := HJ.out.2.2.C.c (i + j) (by omega)
          have fc := HJ.out.2.2.C.f (1 + (i + j))
          have da := HA.out i (by omega)
          have db := HB.out j (by omega)
          have de := HJ.out.1 (i + j) (by omega)
          have hbd := mul_bds (a i) (b j) da.1 da.2 db.1 db.2
          have HCar := mul_carry (f (i + j)) k (a i) (b j) de.1 de.2 hk.1 hk.2 da.1 da.2 db.1 db.2
          have HRnd : Hid (valD (setD f (i + j) ((f (i + j) + mulLo (a i) (b j) + k) % 4294967296)) 6 + ((f (i + j) + mulLo (a i) (b j) + k) / 4294967296 + mulHi (a i) (b j)) * 4294967296 ^ (i + (j + 1)) = mulAt a b i (j + 1)) := by
            show _ = _
            rw [mulAt_step, ← HJ.out.2.1, ← Nat.add_assoc]; exact mul_round f (i + j) (by omega) k (a i) (b j)
          have HH : Hid (∀ q, Calls Try.prog 27 #[.int .i64 (a i), .int .i64 (b j)] (wr.drewN q) fun e w' => e = .returned (.tuple #[.int .i64 (mulLo (a i) (b j)), .int .i64 (mulHi (a i) (b j))]) ∧ w' = wr.drewN q) := fun q => halves_any (a i) (b j) _ da.1 da.2 db.1 db.2
          have HDig : Hid (Dig (setD f (i + j) ((f (i + j) + mulLo (a i) (b j) + k) % 4294967296))) := setD_dig HJ.out.1 _ _ (by omega) (by omega)
          generalize mulLo (a i) (b j) = lo at *
          generalize mulHi (a i) (b j) = hi at *
          go_wp2_with fail
          go_quiet ((go_at_call 27; exact Calls.quiet_of_same (HH.out _)))
          go_wp2
          go_roundw
          case rel => exact ⟨j + 1, _, _, by omega, by go_num, rfl, HCar, HDig.out, HRnd.out, (HJ.out.2.2.stays (bdrewN (Below.refl _ _) _)).set (i + j) (by omega) _⟩
          case measure => simp [intOf]; omega
        · have hj3 : Hid (j = 3) := by show j = 3; omega
          have hdj : decide ((j : Int) < 3) = false := by simp; omega
          have HS3 : Hid (valD f 6 + k * 4294967296 ^ (i + 3) = valD a (i + 1) * valD b 3) := by have := HJ.out.2.1; rw [hj3.out, mulAt_three] at this; exact this
          have HPB : Hid (valD a (i + 1) * valD b 3 < 4294967296 ^ 6) := mul_below HA.out HB.out i hlt
          go_wp2
          go_loopw [7, 12] (fun kv jv wz => ∃ (q : Nat) (k : Int) (f : Nat → Int), i + 3 ≤ q ∧ q ≤ 6 ∧ jv = .int .i64 q ∧ kv = .int .i64 k ∧ (0 ≤ k ∧ k < 4294967296) ∧ Dig f ∧ valD f 6 + k * 4294967296 ^ q = valD a (i + 1) * valD b 3 ∧ Mul4 w wz m n a b f) (fun _ jv _ => 6 - (intOf jv).toNat)
          case atStart => exact ⟨i + 3, k, f, by omega, by omega, by go_num, rfl, hk, HJ.out.1, HS3.out, HJ.out.2.2⟩
          case round =>
            obtain ⟨q, k, f, hq0, hq1, rfl, rfl, hk, hD, hV, hM⟩ := hrel
            clear HJ HS3
            have HJ : Hid (Dig f ∧ valD f 6 + k * 4294967296 ^ q = valD a (i + 1) * valD b 3 ∧ Mul4 w wr m n a b f) := ⟨hD, hV, hM⟩
            clear hD hV hM
            by_cases hql : q < 6
            · by_cases hk0 : 0 < k
              · have cc := HJ.out.2.2.C.c q hql
                have fc := HJ.out.2.2.C.f (1 + q)
                have de := HJ.out.1 q hql
                have HRnd : Hid (valD (setD f q ((f q + k) % 4294967296)) 6 + (f q + k) / 4294967296 * 4294967296 ^ (q + 1) = valD a (i + 1) * valD b 3) := by show _ = _; rw [carry_round f q hql k]; exact HJ.out.2.1
                have HDig : Hid (Dig (setD f q ((f q + k) % 4294967296))) := setD_dig HJ.out.1 _ _ (by omega) (by omega)
                go_wp2
                go_roundw
                case rel => first | exact ⟨q + 1, _, _, by omega, by omega, by go_num, rfl, by omega, HDig.out, HRnd.out, HJ.out.2.2.set q hql _⟩ | ((repeat apply Exists.intro); exact ⟨⟨q + 1, _, _, by omega, by omega, by go_num, rfl, by omega, HDig.out, HRnd.out, HJ.out.2.2.set q hql _⟩, rfl⟩)
                case measure => simp [intOf]; omega
              · obtain rfl : k = 0 := by omega
                have HE : Hid (valD f 6 = valD a (i + 1) * valD b 3) := by have := HJ.out.2.1; rw [Int.zero_mul, Int.add_zero] at this; exact this
                go_wp2
                go_roundw
                case rel => first | exact ⟨i + 1, f, by omega, by go_num, HJ.out.1, HE.out, HJ.out.2.2⟩ | ((repeat apply Exists.intro); exact ⟨⟨i + 1, f, by omega, by go_num, HJ.out.1, HE.out, HJ.out.2.2⟩, rfl⟩)
                case measure => simp [intOf]; omega
            · obtain rfl : q = 6 := by omega
              have HE : Hid (valD f 6 = valD a (i + 1) * valD b 3) := by
                have h1 := HJ.out.2.1
                have h2 := HPB.out
                have h3 := (valD_nonneg HJ.out.1 6 (Nat.le_refl _)).1
                have h4 : k = 0 := by
                  generalize valD a (i + 1) * valD b 3 = P at *
                  generalize valD f 6 = V at *
                  simp only [Int.reducePow] at h1 h2
                  omega
                rw [h4, Int.zero_mul, Int.add_zero] at h1; exact h1
              have hdq : decide ((6 : Int) < 6) = false := by decide
              go_wp2
              go_roundw
              case rel => first | exact ⟨i + 1, f, by omega, by go_num, HJ.out.1, HE.out, HJ.out.2.2⟩ | ((repeat apply Exists.intro); exact ⟨⟨i + 1, f, by omega, by go_num, HJ.out.1, HE.out, HJ.out.2.2⟩, rfl⟩)
              case measure => simp [intOf]; omega
    · have hi3 : Hid (i = 3) := by show i = 3; omega
      have hd3 : decide ((i : Int) < 3) = false := by simp; omega
      have HD : Hid (Dig e) := HI.out.1
      have HV : Hid (valD e 6 = valD a 3 * valD b 3) := by have := HI.out.2.1; rw [hi3.out] at this; exact this
      cases m <;> cases n
      · have M := HI.out.2.2
        have sA := M.A.s
        have sB := M.B.s
        have c0 := M.C.s
        have c1 : wr.cell? ⟨w.heap.size + 1 + 1 + 1, 1, none⟩ = some (.int .i64 (e 0)) := M.C.c 0 (by omega)
        have c2 : wr.cell? ⟨w.heap.size + 1 + 1 + 1, 2, none⟩ = some (.int .i64 (e 1)) := M.C.c 1 (by omega)
        have c3 : wr.cell? ⟨w.heap.size + 1 + 1 + 1, 3, none⟩ = some (.int .i64 (e 2)) := M.C.c 2 (by omega)
        have c4 : wr.cell? ⟨w.heap.size + 1 + 1 + 1, 4, none⟩ = some (.int .i64 (e 3)) := M.C.c 3 (by omega)
        have c5 : wr.cell? ⟨w.heap.size + 1 + 1 + 1, 5, none⟩ = some (.int .i64 (e 4)) := M.C.c 4 (by omega)
        have c6 : wr.cell? ⟨w.heap.size + 1 + 1 + 1, 6, none⟩ = some (.int .i64 (e 5)) := M.C.c 5 (by omega)
        have fC := M.C.f 0
        have r0 := M.R.s
        have r1 : wr.cell? ⟨w.heap.size + 1 + 1, 1, none⟩ = some (.int .i64 0) := M.R.c 0 (by omega)
        have r2 : wr.cell? ⟨w.heap.size + 1 + 1, 2, none⟩ = some (.int .i64 0) := M.R.c 1 (by omega)
        have r3 : wr.cell? ⟨w.heap.size + 1 + 1, 3, none⟩ = some (.int .i64 0) := M.R.c 2 (by omega)
        have r4 : wr.cell? ⟨w.heap.size + 1 + 1, 4, none⟩ = some (.int .i64 0) := M.R.c 3 (by omega)
        have r5 : wr.cell? ⟨w.heap.size + 1 + 1, 5, none⟩ = some (.int .i64 0) := M.R.c 4 (by omega)
        have r6 : wr.cell? ⟨w.heap.size + 1 + 1, 6, none⟩ = some (.int .i64 0) := M.R.c 5 (by omega)
        have rf0 := M.R.f 0
        have rf1 := M.R.f 1
        have rf2 := M.R.f 2
        have rf3 := M.R.f 3
        have rf4 := M.R.f 4
        have rf5 := M.R.f 5
        have rf6 := M.R.f 6
        have HBl : Hid (Below w.heap.size w wr) := M.bel
        clear M HI
        go_wp2
        exact bodyPost_ret (v := .agg #[.bool false, .int .i64 (e 0), .int .i64 (e 1), .int .i64 (e 2), .int .i64 (e 3), .int .i64 (e 4), .int .i64 (e 5)]) (by simp [results, Try.results15, go_sem, r0, r1, r2, r3, r4, r5, r6]) rfl ⟨e, false, rfl, HD.out, HV.out, rfl, (bset (bset (bset (bset (bset (bset (bset (bset HBl.out _ _ _ (by omega)) _ _ _ (by omega)) _ _ _ (by omega)) _ _ _ (by omega)) _ _ _ (by omega)) _ _ _ (by omega)) _ _ _ (by omega)) _ _ _ (by omega))⟩
      · have M := HI.out.2.2
        have sA := M.A.s
        have sB := M.B.s
        have c0 := M.C.s
        have c1 : wr.cell? ⟨w.heap.size + 1 + 1 + 1, 1, none⟩ = some (.int .i64 (e 0)) := M.C.c 0 (by omega)
        have c2 : wr.cell? ⟨w.heap.size + 1 + 1 + 1, 2, none⟩ = some (.int .i64 (e 1)) := M.C.c 1 (by omega)
        have c3 : wr.cell? ⟨w.heap.size + 1 + 1 + 1, 3, none⟩ = some (.int .i64 (e 2)) := M.C.c 2 (by omega)
        have c4 : wr.cell? ⟨w.heap.size + 1 + 1 + 1, 4, none⟩ = some (.int .i64 (e 3)) := M.C.c 3 (by omega)
        have c5 : wr.cell? ⟨w.heap.size + 1 + 1 + 1, 5, none⟩ = some (.int .i64 (e 4)) := M.C.c 4 (by omega)
        have c6 : wr.cell? ⟨w.heap.size + 1 + 1 + 1, 6, none⟩ = some (.int .i64 (e 5)) := M.C.c 5 (by omega)
        have fC := M.C.f 0
        have r0 := M.R.s
        have r1 : wr.cell? ⟨w.heap.size + 1 + 1, 1, none⟩ = some (.int .i64 0) := M.R.c 0 (by omega)
        have r2 : wr.cell? ⟨w.heap.size + 1 + 1, 2, none⟩ = some (.int .i64 0) := M.R.c 1 (by omega)
        have r3 : wr.cell? ⟨w.heap.size + 1 + 1, 3, none⟩ = some (.int .i64 0) := M.R.c 2 (by omega)
        have r4 : wr.cell? ⟨w.heap.size + 1 + 1, 4, none⟩ = some (.int .i64 0) := M.R.c 3 (by omega)
        have r5 : wr.cell? ⟨w.heap.size + 1 + 1, 5, none⟩ = some (.int .i64 0) := M.R.c 4 (by omega)
        have r6 : wr.cell? ⟨w.heap.size + 1 + 1, 6, none⟩ = some (.int .i64 0) := M.R.c 5 (by omega)
        have rf0 := M.R.f 0
        have rf1 := M.R.f 1
        have rf2 := M.R.f 2
        have rf3 := M.R.f 3
        have rf4 := M.R.f 4
        have rf5 := M.R.f 5
        have rf6 := M.R.f 6
        go_wp2_with fail
        clear sA sB c0 c1 c2 c3 c4 c5 c6 fC r0 r1 r2 r3 r4 r5 r6 rf0 rf1 rf2 rf3 rf4 rf5 rf6
        refine Calls.mono (bzero_any false e _) ?_
        rintro e' X ⟨rfl, hb⟩
        have M2 := M.stays hb
        have sA := M2.A.s
        have sB := M2.B.s
        have c0 := M2.C.s
        have c1 : X.cell? ⟨w.heap.size + 1 + 1 + 1, 1, none⟩ = some (.int .i64 (e 0)) := M2.C.c 0 (by omega)
        have c2 : X.cell? ⟨w.heap.size + 1 + 1 + 1, 2, none⟩ = some (.int .i64 (e 1)) := M2.C.c 1 (by omega)
        have c3 : X.cell? ⟨w.heap.size + 1 + 1 + 1, 3, none⟩ = some (.int .i64 (e 2)) := M2.C.c 2 (by omega)
        have c4 : X.cell? ⟨w.heap.size + 1 + 1 + 1, 4, none⟩ = some (.int .i64 (e 3)) := M2.C.c 3 (by omega)
        have c5 : X.cell? ⟨w.heap.size + 1 + 1 + 1, 5, none⟩ = some (.int .i64 (e 4)) := M2.C.c 4 (by omega)
        have c6 : X.cell? ⟨w.heap.size + 1 + 1 + 1, 6, none⟩ = some (.int .i64 (e 5)) := M2.C.c 5 (by omega)
        have fC := M2.C.f 0
        have r0 := M2.R.s
        have r1 : X.cell? ⟨w.heap.size + 1 + 1, 1, none⟩ = some (.int .i64 0) := M2.R.c 0 (by omega)
        have r2 : X.cell? ⟨w.heap.size + 1 + 1, 2, none⟩ = some (.int .i64 0) := M2.R.c 1 (by omega)
        have r3 : X.cell? ⟨w.heap.size + 1 + 1, 3, none⟩ = some (.int .i64 0) := M2.R.c 2 (by omega)
        have r4 : X.cell? ⟨w.heap.size + 1 + 1, 4, none⟩ = some (.int .i64 0) := M2.R.c 3 (by omega)
        have r5 : X.cell? ⟨w.heap.size + 1 + 1, 5, none⟩ = some (.int .i64 0) := M2.R.c 4 (by omega)
        have r6 : X.cell? ⟨w.heap.size + 1 + 1, 6, none⟩ = some (.int .i64 0) := M2.R.c 5 (by omega)
        have rf0 := M2.R.f 0
        have rf1 := M2.R.f 1
        have rf2 := M2.R.f 2
        have rf3 := M2.R.f 3
        have rf4 := M2.R.f 4
        have rf5 := M2.R.f 5
        have rf6 := M2.R.f 6
        have HBl : Hid (Below w.heap.size w X) := M2.bel
        clear M M2 hb HI
        generalize hzb : zB e = zb at *
        have HZB : Hid (zB e = zb) := hzb
        clear hzb
        go_wp2
        exact bodyPost_ret (v := .agg #[.bool (!zb), .int .i64 (e 0), .int .i64 (e 1), .int .i64 (e 2), .int .i64 (e 3), .int .i64 (e 4), .int .i64 (e 5)]) (by simp [results, Try.results15, go_sem, r0, r1, r2, r3, r4, r5, r6]) rfl ⟨e, !zb, rfl, HD.out, HV.out, by rw [HZB.out]; rfl, (bset (bset (bset (bset (bset (bset (bset (bset HBl.out _ _ _ (by omega)) _ _ _ (by omega)) _ _ _ (by omega)) _ _ _ (by omega)) _ _ _ (by omega)) _ _ _ (by omega)) _ _ _ (by omega)) _ _ _ (by omega))⟩
      · have M := HI.out.2.2
        have sA := M.A.s
        have sB := M.B.s
        have c0 := M.C.s
        have c1 : wr.cell? ⟨w.heap.size + 1 + 1 + 1, 1, none⟩ = some (.int .i64 (e 0)) := M.C.c 0 (by omega)
        have c2 : wr.cell? ⟨w.heap.size + 1 + 1 + 1, 2, none⟩ = some (.int .i64 (e 1)) := M.C.c 1 (by omega)
        have c3 : wr.cell? ⟨w.heap.size + 1 + 1 + 1, 3, none⟩ = some (.int .i64 (e 2)) := M.C.c 2 (by omega)
        have c4 : wr.cell? ⟨w.heap.size + 1 + 1 + 1, 4, none⟩ = some (.int .i64 (e 3)) := M.C.c 3 (by omega)
        have c5 : wr.cell? ⟨w.heap.size + 1 + 1 + 1, 5, none⟩ = some (.int .i64 (e 4)) := M.C.c 4 (by omega)
        have c6 : wr.cell? ⟨w.heap.size + 1 + 1 + 1, 6, none⟩ = some (.int .i64 (e 5)) := M.C.c 5 (by omega)
        have fC := M.C.f 0
        have r0 := M.R.s
        have r1 : wr.cell? ⟨w.heap.size + 1 + 1, 1, none⟩ = some (.int .i64 0) := M.R.c 0 (by omega)
        have r2 : wr.cell? ⟨w.heap.size + 1 + 1, 2, none⟩ = some (.int .i64 0) := M.R.c 1 (by omega)
        have r3 : wr.cell? ⟨w.heap.size + 1 + 1, 3, none⟩ = some (.int .i64 0) := M.R.c 2 (by omega)
        have r4 : wr.cell? ⟨w.heap.size + 1 + 1, 4, none⟩ = some (.int .i64 0) := M.R.c 3 (by omega)
        have r5 : wr.cell? ⟨w.heap.size + 1 + 1, 5, none⟩ = some (.int .i64 0) := M.R.c 4 (by omega)
        have r6 : wr.cell? ⟨w.heap.size + 1 + 1, 6, none⟩ = some (.int .i64 0) := M.R.c 5 (by omega)
        have rf0 := M.R.f 0
        have rf1 := M.R.f 1
        have rf2 := M.R.f 2
        have rf3 := M.R.f 3
        have rf4 := M.R.f 4
        have rf5 := M.R.f 5
        have rf6 := M.R.f 6
        go_wp2_with fail
        clear sA sB c0 c1 c2 c3 c4 c5 c6 fC r0 r1 r2 r3 r4 r5 r6 rf0 rf1 rf2 rf3 rf4 rf5 rf6
        refine Calls.mono (bzero_any false e _) ?_
        rintro e' X ⟨rfl, hb⟩
        have M2 := M.stays hb
        have sA := M2.A.s
        have sB := M2.B.s
        have c0 := M2.C.s
        have c1 : X.cell? ⟨w.heap.size + 1 + 1 + 1, 1, none⟩ = some (.int .i64 (e 0)) := M2.C.c 0 (by omega)
        have c2 : X.cell? ⟨w.heap.size + 1 + 1 + 1, 2, none⟩ = some (.int .i64 (e 1)) := M2.C.c 1 (by omega)
        have c3 : X.cell? ⟨w.heap.size + 1 + 1 + 1, 3, none⟩ = some (.int .i64 (e 2)) := M2.C.c 2 (by omega)
        have c4 : X.cell? ⟨w.heap.size + 1 + 1 + 1, 4, none⟩ = some (.int .i64 (e 3)) := M2.C.c 3 (by omega)
        have c5 : X.cell? ⟨w.heap.size + 1 + 1 + 1, 5, none⟩ = some (.int .i64 (e 4)) := M2.C.c 4 (by omega)
        have c6 : X.cell? ⟨w.heap.size + 1 + 1 + 1, 6, none⟩ = some (.int .i64 (e 5)) := M2.C.c 5 (by omega)
        have fC := M2.C.f 0
        have r0 := M2.R.s
        have r1 : X.cell? ⟨w.heap.size + 1 + 1, 1, none⟩ = some (.int .i64 0) := M2.R.c 0 (by omega)
        have r2 : X.cell? ⟨w.heap.size + 1 + 1, 2, none⟩ = some (.int .i64 0) := M2.R.c 1 (by omega)
        have r3 : X.cell? ⟨w.heap.size + 1 + 1, 3, none⟩ = some (.int .i64 0) := M2.R.c 2 (by omega)
        have r4 : X.cell? ⟨w.heap.size + 1 + 1, 4, none⟩ = some (.int .i64 0) := M2.R.c 3 (by omega)
        have r5 : X.cell? ⟨w.heap.size + 1 + 1, 5, none⟩ = some (.int .i64 0) := M2.R.c 4 (by omega)
        have r6 : X.cell? ⟨w.heap.size + 1 + 1, 6, none⟩ = some (.int .i64 0) := M2.R.c 5 (by omega)
        have rf0 := M2.R.f 0
        have rf1 := M2.R.f 1
        have rf2 := M2.R.f 2
        have rf3 := M2.R.f 3
        have rf4 := M2.R.f 4
        have rf5 := M2.R.f 5
        have rf6 := M2.R.f 6
        have HBl : Hid (Below w.heap.size w X) := M2.bel
        clear M M2 hb HI
        generalize hzb : zB e = zb at *
        have HZB : Hid (zB e = zb) := hzb
        clear hzb
        go_wp2
        exact bodyPost_ret (v := .agg #[.bool (!zb), .int .i64 (e 0), .int .i64 (e 1), .int .i64 (e 2), .int .i64 (e 3), .int .i64 (e 4), .int .i64 (e 5)]) (by simp [results, Try.results15, go_sem, r0, r1, r2, r3, r4, r5, r6]) rfl ⟨e, !zb, rfl, HD.out, HV.out, by rw [HZB.out]; rfl, (bset (bset (bset (bset (bset (bset (bset (bset HBl.out _ _ _ (by omega)) _ _ _ (by omega)) _ _ _ (by omega)) _ _ _ (by omega)) _ _ _ (by omega)) _ _ _ (by omega)) _ _ _ (by omega)) _ _ _ (by omega))⟩
      · have M := HI.out.2.2
        have sA := M.A.s
        have sB := M.B.s
        have c0 := M.C.s
        have c1 : wr.cell? ⟨w.heap.size + 1 + 1 + 1, 1, none⟩ = some (.int .i64 (e 0)) := M.C.c 0 (by omega)
        have c2 : wr.cell? ⟨w.heap.size + 1 + 1 + 1, 2, none⟩ = some (.int .i64 (e 1)) := M.C.c 1 (by omega)
        have c3 : wr.cell? ⟨w.heap.size + 1 + 1 + 1, 3, none⟩ = some (.int .i64 (e 2)) := M.C.c 2 (by omega)
        have c4 : wr.cell? ⟨w.heap.size + 1 + 1 + 1, 4, none⟩ = some (.int .i64 (e 3)) := M.C.c 3 (by omega)
        have c5 : wr.cell? ⟨w.heap.size + 1 + 1 + 1, 5, none⟩ = some (.int .i64 (e 4)) := M.C.c 4 (by omega)
        have c6 : wr.cell? ⟨w.heap.size + 1 + 1 + 1, 6, none⟩ = some (.int .i64 (e 5)) := M.C.c 5 (by omega)
        have fC := M.C.f 0
        have r0 := M.R.s
        have r1 : wr.cell? ⟨w.heap.size + 1 + 1, 1, none⟩ = some (.int .i64 0) := M.R.c 0 (by omega)
        have r2 : wr.cell? ⟨w.heap.size + 1 + 1, 2, none⟩ = some (.int .i64 0) := M.R.c 1 (by omega)
        have r3 : wr.cell? ⟨w.heap.size + 1 + 1, 3, none⟩ = some (.int .i64 0) := M.R.c 2 (by omega)
        have r4 : wr.cell? ⟨w.heap.size + 1 + 1, 4, none⟩ = some (.int .i64 0) := M.R.c 3 (by omega)
        have r5 : wr.cell? ⟨w.heap.size + 1 + 1, 5, none⟩ = some (.int .i64 0) := M.R.c 4 (by omega)
        have r6 : wr.cell? ⟨w.heap.size + 1 + 1, 6, none⟩ = some (.int .i64 0) := M.R.c 5 (by omega)
        have rf0 := M.R.f 0
        have rf1 := M.R.f 1
        have rf2 := M.R.f 2
        have rf3 := M.R.f 3
        have rf4 := M.R.f 4
        have rf5 := M.R.f 5
        have rf6 := M.R.f 6
        have HBl : Hid (Below w.heap.size w wr) := M.bel
        clear M HI
        go_wp2
        exact bodyPost_ret (v := .agg #[.bool false, .int .i64 (e 0), .int .i64 (e 1), .int .i64 (e 2), .int .i64 (e 3), .int .i64 (e 4), .int .i64 (e 5)]) (by simp [results, Try.results15, go_sem, r0, r1, r2, r3, r4, r5, r6]) rfl ⟨e, false, rfl, HD.out, HV.out, rfl, (bset (bset (bset (bset (bset (bset (bset (bset HBl.out _ _ _ (by omega)) _ _ _ (by omega)) _ _ _ (by omega)) _ _ _ (by omega)) _ _ _ (by omega)) _ _ _ (by omega)) _ _ _ (by omega)) _ _ _ (by omega))⟩
end Go.Proofs.Ytipbjoeekbgnbaa

namespace Go.Proofs.Ytipbjoeekbgnbaa
open Go.RowKit
set_option linter.unusedVariables false
set_option maxRecDepth 100000

theorem valD_three {a : Nat → Int} (h : Dig a) (hb : valD a 6 < 79228162514264337593543950336) : valD a 3 = valD a 6 := by
  have e : valD a 6 = valD a 3 + a 3 * 4294967296 ^ 3 + a 4 * 4294967296 ^ 4 + a 5 * 4294967296 ^ 5 := rfl
  have h0 := (valD_nonneg h 3 (by omega)).1
  have h3 := (h 3 (by omega)).1
  have h4 := (h 4 (by omega)).1
  have h5 := (h 5 (by omega)).1
  simp only [Int.reducePow] at e
  omega
theorem rmul_big (u v : Value) (x y : Int) (w : World) (h1 : IsBig u x) (h2 : IsBig v y) (hx0 : -79228162514264337593543950336 < x) (hx1 : x < 79228162514264337593543950336) (hy0 : -79228162514264337593543950336 < y) (hy1 : y < 79228162514264337593543950336) :
    Calls Try.prog 15 #[u, v] w fun e w' => ∃ v', e = .returned v' ∧ IsBig v' (x * y) ∧ Below w.heap.size w w' := by
  obtain ⟨m, a, rfl, ha, hsx, hmx⟩ := h1
  obtain ⟨n, b, rfl, hb, hsy, hny⟩ := h2
  refine Calls.mono (rmul_loops m n a b w ha hb) ?_
  rintro e w' ⟨d, k, rfl, hd, hv, hk, hbel⟩
  refine ⟨_, rfl, ⟨k, d, rfl, hd, ?_⟩, hbel⟩
  have hz := zB_val hd
  have hn := (valD_nonneg hd 6 (Nat.le_refl _)).1
  have ra := sv_of ha hsx hmx
  have rb := sv_of hb hsy hny
  have ea : valD a 3 = valD a 6 := valD_three ha (by omega)
  have eb : valD b 3 = valD b 6 := valD_three hb (by omega)
  rw [ea, eb] at hv
  have hs : sv k d = if k = true then -(valD d 6) else valD d 6 := rfl
  rw [hs]
  rcases ra with ⟨rfl, va, xa⟩ | ⟨rfl, va, xa⟩ <;> rcases rb with ⟨rfl, vb, yb⟩ | ⟨rfl, vb, yb⟩ <;> rw [va, vb] at hv
  · have hk' : k = false := by rw [hk]; rfl
    subst hk'
    rw [Int.neg_mul_neg] at hv
    exact ⟨by simp [hv], fun h => by cases h⟩
  · rw [Int.neg_mul] at hv
    generalize x * y = P at *
    cases hzb : zB d
    · have hk' : k = true := by rw [hk, hzb]; rfl
      have h0 := hz.2 hzb
      subst hk'
      exact ⟨by simp; omega, fun _ => by omega⟩
    · have hk' : k = false := by rw [hk, hzb]; rfl
      have h0 := hz.1 hzb
      subst hk'
      exact ⟨by simp; omega, fun h => by cases h⟩
  · rw [Int.mul_neg] at hv
    generalize x * y = P at *
    cases hzb : zB d
    · have hk' : k = true := by rw [hk, hzb]; rfl
      have h0 := hz.2 hzb
      subst hk'
      exact ⟨by simp; omega, fun _ => by omega⟩
    · have hk' : k = false := by rw [hk, hzb]; rfl
      have h0 := hz.1 hzb
      subst hk'
      exact ⟨by simp; omega, fun h => by cases h⟩
  · have hk' : k = false := by rw [hk]; rfl
    subst hk'
    exact ⟨by simp [hv], fun h => by cases h⟩
end Go.Proofs.Ytipbjoeekbgnbaa
