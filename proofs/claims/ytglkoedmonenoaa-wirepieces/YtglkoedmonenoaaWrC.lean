/- Wire's lengths: how many numbers and bytes the frame has with which some bytes begin, or the error. Conditions: a list's own length. -/
import Derived.Test.YtglkoedmonenoaaWrB
import Derived.Handy
namespace Go.Proofs.Ytglkoedmonenoaa
open Go.RowKit
set_option linter.unusedVariables false
set_option maxRecDepth 100000

def lensC (l : List UInt8) : Int := if lensE l = 0 then (cntL l : Int) else 0
def lensD (l : List UInt8) : Int := if lensE l = 0 then (longL l : Int) else 0
theorem lens_bad {l : List UInt8} {e : Int} (h : lensE l = e) (h0 : e ≠ 0) : lensC l = 0 ∧ lensD l = 0 := by
  unfold lensC lensD; rw [if_neg (by omega), if_neg (by omega)]; exact ⟨rfl, rfl⟩
theorem noBegin_true {l : List UInt8} (h : 0 < l.length) (h1 : l.getD 0 0 ≠ 165) : noBegin l = true := by
  unfold noBegin; rw [decide_eq_true h, Bool.true_and]; simpa using h1
theorem noBegin_false {l : List UInt8} (h1 : l.getD 0 0 = 165) : noBegin l = false := by
  unfold noBegin; rw [h1]; simp
theorem wrap_u16 (V : Int) : IntKind.u16.wrap V = V % 65536 := by
  simp [IntKind.wrap, IntKind.bits, IntKind.signed]

set_option maxHeartbeats 1000000 in
theorem lengths_none {w : World} {a : Option Addr} {cap : Nat} {l : List UInt8} (h : BS w a cap l) (n : Nat) (hn : n = l.length) (hl : l.length ≤ maxLen) (h0 : l = []) :
    Calls Try.prog 22 #[.slice a n cap] w fun e w' => e = .returned (.tuple #[.int .i64 (lensC l), .int .i64 (lensD l), .int .i64 (lensE l)]) ∧ Below w.heap.size w w' := by
  have b1 := h.le
  have b2 := h.most
  unfold maxLen at hl
  subst h0
  have HE : Hid (lensE [] = 5) := by rfl
  have HC : Hid (lensC [] = 0 ∧ lensD [] = 0) := lens_bad HE.out (by omega)
  have c1 : above [] 1 9 = false := rfl
  have c3 : above [] 3 127 = false := rfl
  have c9 : above [] 9 100 = false := rfl
  have A1 : Hid (Calls Try.prog 26 #[.slice a n cap, .int .i64 1, .int .i64 9] w fun e w' => e = .returned (.bool false) ∧ w' = w) := by
    have := above_any h 1 9 n hn (by omega) (by omega)
    rw [c1] at this; exact this
  have A3 : Hid (Calls Try.prog 26 #[.slice a n cap, .int .i64 3, .int .i64 127] w fun e w' => e = .returned (.bool false) ∧ w' = w) := by
    have := above_any h 3 127 n hn (by omega) (by omega)
    rw [c3] at this; exact this
  have A9 : Hid (Calls Try.prog 26 #[.slice a n cap, .int .i64 9, .int .i64 100] w fun e w' => e = .returned (.bool false) ∧ w' = w) := by
    have := above_any h 9 100 n hn (by omega) (by omega)
    rw [c9] at this; exact this
  have hn0 : n = 0 := hn
  subst hn0
  clear h hl c1 c3 c9 hn
  go_enter Try.func22, Try.ntmps22
  go_wp2_with fail
  refine Calls.mono A1.out ?_
  rintro e w' ⟨rfl, hw⟩
  have hw' := hw.symm; subst hw'; clear hw
  go_wp2_with fail
  refine Calls.mono A3.out ?_
  rintro e w' ⟨rfl, hw⟩
  have hw' := hw.symm; subst hw'; clear hw
  go_wp2_with fail
  refine Calls.mono A9.out ?_
  rintro e w' ⟨rfl, hw⟩
  have hw' := hw.symm; subst hw'; clear hw
  go_wp2
  go_ret3
  exact ⟨by rw [HE.out, HC.out.1, HC.out.2]; rfl, Below.refl _ _⟩
set_option maxHeartbeats 1000000 in
theorem lengths_first {w : World} {a : Option Addr} {cap : Nat} {l : List UInt8} (h : BS w a cap l) (n : Nat) (hn : n = l.length) (hl : l.length ≤ maxLen) (h0 : 0 < l.length) (h1 : l.getD 0 0 ≠ 165) :
    Calls Try.prog 22 #[.slice a n cap] w fun e w' => e = .returned (.tuple #[.int .i64 (lensC l), .int .i64 (lensD l), .int .i64 (lensE l)]) ∧ Below w.heap.size w w' := by
  have b1 := h.le
  have b2 := h.most
  unfold maxLen at hl
  have HE : Hid (lensE l = 4) := by unfold lensE badHead; rw [noBegin_true h0 h1]; rfl
  have HC : Hid (lensC l = 0 ∧ lensD l = 0) := lens_bad HE.out (by omega)
  obtain ⟨b, off, rfl, hc⟩ := h.at h0
  have hc0 := hc 0 h0
  rw [Nat.add_zero] at hc0
  have hz : (((l.getD 0 0).toNat : Int) != 165) = true := by
    have : (l.getD 0 0).toNat ≠ 165 := fun e => h1 (UInt8.toNat_inj.1 e)
    simp only [bne_iff_ne, ne_eq]; omega
  have hzb := (l.getD 0 0).toNat_lt
  rw [← hn] at h0 hl b1
  generalize (l.getD 0 0).toNat = z at *
  clear h hc hn h1
  go_enter Try.func22, Try.ntmps22
  go_wp2
  go_ret3
  exact ⟨by rw [HE.out, HC.out.1, HC.out.2]; rfl, Below.refl _ _⟩
set_option maxHeartbeats 1000000 in
theorem lengths_above1 {w : World} {a : Option Addr} {cap : Nat} {l : List UInt8} (h : BS w a cap l) (n : Nat) (hn : n = l.length) (hl : l.length ≤ maxLen) (h0 : 0 < l.length) (h1 : l.getD 0 0 = 165) (c1 : above l 1 9 = true) :
    Calls Try.prog 22 #[.slice a n cap] w fun e w' => e = .returned (.tuple #[.int .i64 (lensC l), .int .i64 (lensD l), .int .i64 (lensE l)]) ∧ Below w.heap.size w w' := by
  have b1 := h.le
  have b2 := h.most
  unfold maxLen at hl
  have HE : Hid (lensE l = 4) := by unfold lensE badHead; rw [noBegin_false h1, c1]; simp [Hid]
  have HC : Hid (lensC l = 0 ∧ lensD l = 0) := lens_bad HE.out (by omega)
  have A1 : Hid (Calls Try.prog 26 #[.slice a n cap, .int .i64 1, .int .i64 9] w fun e w' => e = .returned (.bool true) ∧ w' = w) := by
    have := above_any h 1 9 n hn (by omega) (by omega)
    rw [c1] at this; exact this
  obtain ⟨b, off, ea, hc⟩ := h.at h0
  have hc0 := hc 0 h0
  rw [h1] at hc0
  rw [Nat.add_zero] at hc0
  change w.cell? ⟨b, off, none⟩ = some (.int .u8 165) at hc0
  rw [← hn] at h0 hl b1
  subst ea
  clear h hc hn h1 c1
  go_enter Try.func22, Try.ntmps22
  go_wp2_with fail
  refine Calls.mono A1.out ?_
  rintro e w' ⟨rfl, hw⟩
  have hw' := hw.symm; subst hw'; clear hw
  go_wp2
  go_ret3
  exact ⟨by rw [HE.out, HC.out.1, HC.out.2]; rfl, Below.refl _ _⟩
set_option maxHeartbeats 1000000 in
theorem lengths_above3 {w : World} {a : Option Addr} {cap : Nat} {l : List UInt8} (h : BS w a cap l) (n : Nat) (hn : n = l.length) (hl : l.length ≤ maxLen) (h0 : 0 < l.length) (h1 : l.getD 0 0 = 165) (c1 : above l 1 9 = false) (c3 : above l 3 127 = true) :
    Calls Try.prog 22 #[.slice a n cap] w fun e w' => e = .returned (.tuple #[.int .i64 (lensC l), .int .i64 (lensD l), .int .i64 (lensE l)]) ∧ Below w.heap.size w w' := by
  have b1 := h.le
  have b2 := h.most
  unfold maxLen at hl
  have HE : Hid (lensE l = 4) := by unfold lensE badHead; rw [noBegin_false h1, c1, c3]; simp [Hid]
  have HC : Hid (lensC l = 0 ∧ lensD l = 0) := lens_bad HE.out (by omega)
  have A1 : Hid (Calls Try.prog 26 #[.slice a n cap, .int .i64 1, .int .i64 9] w fun e w' => e = .returned (.bool false) ∧ w' = w) := by
    have := above_any h 1 9 n hn (by omega) (by omega)
    rw [c1] at this; exact this
  have A3 : Hid (Calls Try.prog 26 #[.slice a n cap, .int .i64 3, .int .i64 127] w fun e w' => e = .returned (.bool true) ∧ w' = w) := by
    have := above_any h 3 127 n hn (by omega) (by omega)
    rw [c3] at this; exact this
  obtain ⟨b, off, ea, hc⟩ := h.at h0
  have hc0 := hc 0 h0
  rw [h1] at hc0
  rw [Nat.add_zero] at hc0
  change w.cell? ⟨b, off, none⟩ = some (.int .u8 165) at hc0
  rw [← hn] at h0 hl b1
  subst ea
  clear h hc hn h1 c1 c3
  go_enter Try.func22, Try.ntmps22
  go_wp2_with fail
  refine Calls.mono A1.out ?_
  rintro e w' ⟨rfl, hw⟩
  have hw' := hw.symm; subst hw'; clear hw
  go_wp2_with fail
  refine Calls.mono A3.out ?_
  rintro e w' ⟨rfl, hw⟩
  have hw' := hw.symm; subst hw'; clear hw
  go_wp2
  go_ret3
  exact ⟨by rw [HE.out, HC.out.1, HC.out.2]; rfl, Below.refl _ _⟩
set_option maxHeartbeats 1000000 in
theorem lengths_above9 {w : World} {a : Option Addr} {cap : Nat} {l : List UInt8} (h : BS w a cap l) (n : Nat) (hn : n = l.length) (hl : l.length ≤ maxLen) (h0 : 0 < l.length) (h1 : l.getD 0 0 = 165) (c1 : above l 1 9 = false) (c3 : above l 3 127 = false) (c9 : above l 9 100 = true) :
    Calls Try.prog 22 #[.slice a n cap] w fun e w' => e = .returned (.tuple #[.int .i64 (lensC l), .int .i64 (lensD l), .int .i64 (lensE l)]) ∧ Below w.heap.size w w' := by
  have b1 := h.le
  have b2 := h.most
  unfold maxLen at hl
  have HE : Hid (lensE l = 4) := by unfold lensE badHead; rw [noBegin_false h1, c1, c3, c9]; simp [Hid]
  have HC : Hid (lensC l = 0 ∧ lensD l = 0) := lens_bad HE.out (by omega)
  have A1 : Hid (Calls Try.prog 26 #[.slice a n cap, .int .i64 1, .int .i64 9] w fun e w' => e = .returned (.bool false) ∧ w' = w) := by
    have := above_any h 1 9 n hn (by omega) (by omega)
    rw [c1] at this; exact this
  have A3 : Hid (Calls Try.prog 26 #[.slice a n cap, .int .i64 3, .int .i64 127] w fun e w' => e = .returned (.bool false) ∧ w' = w) := by
    have := above_any h 3 127 n hn (by omega) (by omega)
    rw [c3] at this; exact this
  have A9 : Hid (Calls Try.prog 26 #[.slice a n cap, .int .i64 9, .int .i64 100] w fun e w' => e = .returned (.bool true) ∧ w' = w) := by
    have := above_any h 9 100 n hn (by omega) (by omega)
    rw [c9] at this; exact this
  obtain ⟨b, off, ea, hc⟩ := h.at h0
  have hc0 := hc 0 h0
  rw [h1] at hc0
  rw [Nat.add_zero] at hc0
  change w.cell? ⟨b, off, none⟩ = some (.int .u8 165) at hc0
  rw [← hn] at h0 hl b1
  subst ea
  clear h hc hn h1 c1 c3 c9
  go_enter Try.func22, Try.ntmps22
  go_wp2_with fail
  refine Calls.mono A1.out ?_
  rintro e w' ⟨rfl, hw⟩
  have hw' := hw.symm; subst hw'; clear hw
  go_wp2_with fail
  refine Calls.mono A3.out ?_
  rintro e w' ⟨rfl, hw⟩
  have hw' := hw.symm; subst hw'; clear hw
  go_wp2_with fail
  refine Calls.mono A9.out ?_
  rintro e w' ⟨rfl, hw⟩
  have hw' := hw.symm; subst hw'; clear hw
  go_wp2
  go_ret3
  exact ⟨by rw [HE.out, HC.out.1, HC.out.2]; rfl, Below.refl _ _⟩
set_option maxHeartbeats 1000000 in
theorem lengths_head {w : World} {a : Option Addr} {cap : Nat} {l : List UInt8} (h : BS w a cap l) (n : Nat) (hn : n = l.length) (hl : l.length ≤ maxLen) (h0 : 0 < l.length) (h1 : l.getD 0 0 = 165) (c1 : above l 1 9 = false) (c3 : above l 3 127 = false) (c9 : above l 9 100 = false) (h2 : l.length < 10) :
    Calls Try.prog 22 #[.slice a n cap] w fun e w' => e = .returned (.tuple #[.int .i64 (lensC l), .int .i64 (lensD l), .int .i64 (lensE l)]) ∧ Below w.heap.size w w' := by
  have b1 := h.le
  have b2 := h.most
  unfold maxLen at hl
  have HE : Hid (lensE l = 5) := by unfold lensE badHead; rw [noBegin_false h1, c1, c3, c9, if_neg (by simp), if_pos h2]; rfl
  have HC : Hid (lensC l = 0 ∧ lensD l = 0) := lens_bad HE.out (by omega)
  have A1 : Hid (Calls Try.prog 26 #[.slice a n cap, .int .i64 1, .int .i64 9] w fun e w' => e = .returned (.bool false) ∧ w' = w) := by
    have := above_any h 1 9 n hn (by omega) (by omega)
    rw [c1] at this; exact this
  have A3 : Hid (Calls Try.prog 26 #[.slice a n cap, .int .i64 3, .int .i64 127] w fun e w' => e = .returned (.bool false) ∧ w' = w) := by
    have := above_any h 3 127 n hn (by omega) (by omega)
    rw [c3] at this; exact this
  have A9 : Hid (Calls Try.prog 26 #[.slice a n cap, .int .i64 9, .int .i64 100] w fun e w' => e = .returned (.bool false) ∧ w' = w) := by
    have := above_any h 9 100 n hn (by omega) (by omega)
    rw [c9] at this; exact this
  obtain ⟨b, off, ea, hc⟩ := h.at h0
  have hc0 := hc 0 h0
  rw [h1] at hc0
  rw [Nat.add_zero] at hc0
  change w.cell? ⟨b, off, none⟩ = some (.int .u8 165) at hc0
  rw [← hn] at h0 hl b1 h2
  subst ea
  clear h hc hn h1 c1 c3 c9
  go_enter Try.func22, Try.ntmps22
  go_wp2_with fail
  refine Calls.mono A1.out ?_
  rintro e w' ⟨rfl, hw⟩
  have hw' := hw.symm; subst hw'; clear hw
  go_wp2_with fail
  refine Calls.mono A3.out ?_
  rintro e w' ⟨rfl, hw⟩
  have hw' := hw.symm; subst hw'; clear hw
  go_wp2_with fail
  refine Calls.mono A9.out ?_
  rintro e w' ⟨rfl, hw⟩
  have hw' := hw.symm; subst hw'; clear hw
  go_wp2
  go_ret3
  exact ⟨by rw [HE.out, HC.out.1, HC.out.2]; rfl, Below.refl _ _⟩
set_option maxHeartbeats 1000000 in
theorem lengths_longbyte {w : World} {a : Option Addr} {cap : Nat} {l : List UInt8} (h : BS w a cap l) (n : Nat) (hn : n = l.length) (hl : l.length ≤ maxLen) (h0 : 0 < l.length) (h1 : l.getD 0 0 = 165) (c1 : above l 1 9 = false) (c3 : above l 3 127 = false) (c9 : above l 9 100 = false) (h2 : ¬ l.length < 10) (c4 : above l (longAt l) 234 = true) :
    Calls Try.prog 22 #[.slice a n cap] w fun e w' => e = .returned (.tuple #[.int .i64 (lensC l), .int .i64 (lensD l), .int .i64 (lensE l)]) ∧ Below w.heap.size w w' := by
  have b1 := h.le
  have b2 := h.most
  unfold maxLen at hl
  have HE : Hid (lensE l = 4) := by unfold lensE badHead; rw [noBegin_false h1, c1, c3, c9, if_neg (by simp), if_neg h2, c4, if_pos rfl]; rfl
  have HC : Hid (lensC l = 0 ∧ lensD l = 0) := lens_bad HE.out (by omega)
  have A1 : Hid (Calls Try.prog 26 #[.slice a n cap, .int .i64 1, .int .i64 9] w fun e w' => e = .returned (.bool false) ∧ w' = w) := by
    have := above_any h 1 9 n hn (by omega) (by omega)
    rw [c1] at this; exact this
  have A3 : Hid (Calls Try.prog 26 #[.slice a n cap, .int .i64 3, .int .i64 127] w fun e w' => e = .returned (.bool false) ∧ w' = w) := by
    have := above_any h 3 127 n hn (by omega) (by omega)
    rw [c3] at this; exact this
  have A9 : Hid (Calls Try.prog 26 #[.slice a n cap, .int .i64 9, .int .i64 100] w fun e w' => e = .returned (.bool false) ∧ w' = w) := by
    have := above_any h 9 100 n hn (by omega) (by omega)
    rw [c9] at this; exact this
  have hcl : cntL l ≤ 255 := by unfold cntL; have := (l.getD 9 0).toNat_lt; omega
  have hla : longAt l = 10 + cntL l * 8 := rfl
  have AL : Hid (Calls Try.prog 26 #[.slice a n cap, .int .i64 (10 + (cntL l : Int) * 8), .int .i64 234] w fun e w' => e = .returned (.bool true) ∧ w' = w) := by
    have := above_any h (longAt l) 234 n hn (by omega) (by omega)
    rw [c4] at this
    have e : ((longAt l : Nat) : Int) = 10 + (cntL l : Int) * 8 := by omega
    rw [e] at this; exact this
  obtain ⟨b, off, ea, hc⟩ := h.at h0
  have hc0 := hc 0 h0
  rw [h1] at hc0
  rw [Nat.add_zero] at hc0
  change w.cell? ⟨b, off, none⟩ = some (.int .u8 165) at hc0
  have hc9 := hc 9 (by omega)
  change w.cell? ⟨b, off + 9, none⟩ = some (.int .u8 (cntL l)) at hc9
  rw [← hn] at h0 hl b1 h2
  subst ea
  clear h hc hn h1 c1 c3 c9 c4 hla
  generalize cntL l = c at *
  go_enter Try.func22, Try.ntmps22
  go_wp2_with fail
  refine Calls.mono A1.out ?_
  rintro e w' ⟨rfl, hw⟩
  have hw' := hw.symm; subst hw'; clear hw
  go_wp2_with fail
  refine Calls.mono A3.out ?_
  rintro e w' ⟨rfl, hw⟩
  have hw' := hw.symm; subst hw'; clear hw
  go_wp2_with fail
  refine Calls.mono A9.out ?_
  rintro e w' ⟨rfl, hw⟩
  have hw' := hw.symm; subst hw'; clear hw
  go_wp2_with fail
  refine Calls.mono AL.out ?_
  rintro e w' ⟨rfl, hw⟩
  have hw' := hw.symm; subst hw'; clear hw
  go_wp2
  go_ret3
  exact ⟨by rw [HE.out, HC.out.1, HC.out.2]; rfl, Below.refl _ _⟩
set_option maxHeartbeats 1000000 in
theorem lengths_longshort {w : World} {a : Option Addr} {cap : Nat} {l : List UInt8} (h : BS w a cap l) (n : Nat) (hn : n = l.length) (hl : l.length ≤ maxLen) (h0 : 0 < l.length) (h1 : l.getD 0 0 = 165) (c1 : above l 1 9 = false) (c3 : above l 3 127 = false) (c9 : above l 9 100 = false) (h2 : ¬ l.length < 10) (c4 : above l (longAt l) 234 = false) (h3 : l.length < longAt l + 2) :
    Calls Try.prog 22 #[.slice a n cap] w fun e w' => e = .returned (.tuple #[.int .i64 (lensC l), .int .i64 (lensD l), .int .i64 (lensE l)]) ∧ Below w.heap.size w w' := by
  have b1 := h.le
  have b2 := h.most
  unfold maxLen at hl
  have HE : Hid (lensE l = 5) := by unfold lensE badHead; rw [noBegin_false h1, c1, c3, c9, if_neg (by simp), if_neg h2, c4, if_neg (by simp), if_pos h3]; rfl
  have HC : Hid (lensC l = 0 ∧ lensD l = 0) := lens_bad HE.out (by omega)
  have A1 : Hid (Calls Try.prog 26 #[.slice a n cap, .int .i64 1, .int .i64 9] w fun e w' => e = .returned (.bool false) ∧ w' = w) := by
    have := above_any h 1 9 n hn (by omega) (by omega)
    rw [c1] at this; exact this
  have A3 : Hid (Calls Try.prog 26 #[.slice a n cap, .int .i64 3, .int .i64 127] w fun e w' => e = .returned (.bool false) ∧ w' = w) := by
    have := above_any h 3 127 n hn (by omega) (by omega)
    rw [c3] at this; exact this
  have A9 : Hid (Calls Try.prog 26 #[.slice a n cap, .int .i64 9, .int .i64 100] w fun e w' => e = .returned (.bool false) ∧ w' = w) := by
    have := above_any h 9 100 n hn (by omega) (by omega)
    rw [c9] at this; exact this
  have hcl : cntL l ≤ 255 := by unfold cntL; have := (l.getD 9 0).toNat_lt; omega
  have hla : longAt l = 10 + cntL l * 8 := rfl
  have AL : Hid (Calls Try.prog 26 #[.slice a n cap, .int .i64 (10 + (cntL l : Int) * 8), .int .i64 234] w fun e w' => e = .returned (.bool false) ∧ w' = w) := by
    have := above_any h (longAt l) 234 n hn (by omega) (by omega)
    rw [c4] at this
    have e : ((longAt l : Nat) : Int) = 10 + (cntL l : Int) * 8 := by omega
    rw [e] at this; exact this
  rw [hla] at h3
  obtain ⟨b, off, ea, hc⟩ := h.at h0
  have hc0 := hc 0 h0
  rw [h1] at hc0
  rw [Nat.add_zero] at hc0
  change w.cell? ⟨b, off, none⟩ = some (.int .u8 165) at hc0
  have hc9 := hc 9 (by omega)
  change w.cell? ⟨b, off + 9, none⟩ = some (.int .u8 (cntL l)) at hc9
  rw [← hn] at h0 hl b1 h2 h3
  subst ea
  clear h hc hn h1 c1 c3 c9 c4 hla
  generalize cntL l = c at *
  go_enter Try.func22, Try.ntmps22
  go_wp2_with fail
  refine Calls.mono A1.out ?_
  rintro e w' ⟨rfl, hw⟩
  have hw' := hw.symm; subst hw'; clear hw
  go_wp2_with fail
  refine Calls.mono A3.out ?_
  rintro e w' ⟨rfl, hw⟩
  have hw' := hw.symm; subst hw'; clear hw
  go_wp2_with fail
  refine Calls.mono A9.out ?_
  rintro e w' ⟨rfl, hw⟩
  have hw' := hw.symm; subst hw'; clear hw
  go_wp2_with fail
  refine Calls.mono AL.out ?_
  rintro e w' ⟨rfl, hw⟩
  have hw' := hw.symm; subst hw'; clear hw
  have h3' : decide ((n : Int) < 10 + (c : Int) * 8 + 2) = true := by simp; omega
  go_wp2
  go_ret3
  exact ⟨by rw [HE.out, HC.out.1, HC.out.2]; rfl, Below.refl _ _⟩
set_option maxHeartbeats 1000000 in
theorem lengths_longmuch {w : World} {a : Option Addr} {cap : Nat} {l : List UInt8} (h : BS w a cap l) (n : Nat) (hn : n = l.length) (hl : l.length ≤ maxLen) (h0 : 0 < l.length) (h1 : l.getD 0 0 = 165) (c1 : above l 1 9 = false) (c3 : above l 3 127 = false) (c9 : above l 9 100 = false) (h2 : ¬ l.length < 10) (c4 : above l (longAt l) 234 = false) (h3 : ¬ l.length < longAt l + 2) (h4 : 60000 < longL l) :
    Calls Try.prog 22 #[.slice a n cap] w fun e w' => e = .returned (.tuple #[.int .i64 (lensC l), .int .i64 (lensD l), .int .i64 (lensE l)]) ∧ Below w.heap.size w w' := by
  have b1 := h.le
  have b2 := h.most
  unfold maxLen at hl
  have HE : Hid (lensE l = 4) := by unfold lensE badHead; rw [noBegin_false h1, c1, c3, c9, if_neg (by simp), if_neg h2, c4, if_neg (by simp), if_neg h3, if_pos h4]; rfl
  have HC : Hid (lensC l = 0 ∧ lensD l = 0) := lens_bad HE.out (by omega)
  have A1 : Hid (Calls Try.prog 26 #[.slice a n cap, .int .i64 1, .int .i64 9] w fun e w' => e = .returned (.bool false) ∧ w' = w) := by
    have := above_any h 1 9 n hn (by omega) (by omega)
    rw [c1] at this; exact this
  have A3 : Hid (Calls Try.prog 26 #[.slice a n cap, .int .i64 3, .int .i64 127] w fun e w' => e = .returned (.bool false) ∧ w' = w) := by
    have := above_any h 3 127 n hn (by omega) (by omega)
    rw [c3] at this; exact this
  have A9 : Hid (Calls Try.prog 26 #[.slice a n cap, .int .i64 9, .int .i64 100] w fun e w' => e = .returned (.bool false) ∧ w' = w) := by
    have := above_any h 9 100 n hn (by omega) (by omega)
    rw [c9] at this; exact this
  have hcl : cntL l ≤ 255 := by unfold cntL; have := (l.getD 9 0).toNat_lt; omega
  have hla : longAt l = 10 + cntL l * 8 := rfl
  have AL : Hid (Calls Try.prog 26 #[.slice a n cap, .int .i64 (10 + (cntL l : Int) * 8), .int .i64 234] w fun e w' => e = .returned (.bool false) ∧ w' = w) := by
    have := above_any h (longAt l) 234 n hn (by omega) (by omega)
    rw [c4] at this
    have e : ((longAt l : Nat) : Int) = 10 + (cntL l : Int) * 8 := by omega
    rw [e] at this; exact this
  have AN : Hid (Calls Try.prog 24 #[.slice a n cap, .int .i64 (10 + (cntL l : Int) * 8), .int .i64 2] w fun e w' => e = .returned (.int .i64 (getV (sub l (longAt l) 2))) ∧ Below w.heap.size w w') := by
    have := number_any h (longAt l) 2 n hn (by omega) (by omega) (by omega)
    have e : ((longAt l : Nat) : Int) = 10 + (cntL l : Int) * 8 := by omega
    rw [e] at this; exact this
  have hv : getV (sub l (longAt l) 2) % 65536 = (longL l : Int) := by unfold longL; omega
  have hvb : longL l < 65536 := by unfold longL; omega
  rw [hla] at h3
  obtain ⟨b, off, ea, hc⟩ := h.at h0
  have hc0 := hc 0 h0
  rw [h1] at hc0
  rw [Nat.add_zero] at hc0
  change w.cell? ⟨b, off, none⟩ = some (.int .u8 165) at hc0
  have hc9 := hc 9 (by omega)
  change w.cell? ⟨b, off + 9, none⟩ = some (.int .u8 (cntL l)) at hc9
  rw [← hn] at h0 hl b1 h2 h3
  subst ea
  clear h hc hn h1 c1 c3 c9 c4 hla
  generalize cntL l = c at *
  go_enter Try.func22, Try.ntmps22
  go_wp2_with fail
  refine Calls.mono A1.out ?_
  rintro e w' ⟨rfl, hw⟩
  have hw' := hw.symm; subst hw'; clear hw
  go_wp2_with fail
  refine Calls.mono A3.out ?_
  rintro e w' ⟨rfl, hw⟩
  have hw' := hw.symm; subst hw'; clear hw
  go_wp2_with fail
  refine Calls.mono A9.out ?_
  rintro e w' ⟨rfl, hw⟩
  have hw' := hw.symm; subst hw'; clear hw
  go_wp2_with fail
  refine Calls.mono AL.out ?_
  rintro e w' ⟨rfl, hw⟩
  have hw' := hw.symm; subst hw'; clear hw
  have h3' : decide ((n : Int) < 10 + (c : Int) * 8 + 2) = false := by simp; omega
  generalize getV (sub l (longAt l) 2) = V at *
  generalize longL l = L at *
  have hw16 := wrap_u16 V
  rw [hv] at hw16
  clear hv
  go_wp2_with fail
  refine Calls.mono AN.out ?_
  rintro e w1 ⟨rfl, hb⟩
  have HB : Hid (Below w.heap.size w w1) := hb
  clear hb AN
  go_wp2
  go_ret3
  exact ⟨by rw [HE.out, HC.out.1, HC.out.2]; rfl, HB.out⟩
set_option maxHeartbeats 1000000 in
theorem lengths_good {w : World} {a : Option Addr} {cap : Nat} {l : List UInt8} (h : BS w a cap l) (n : Nat) (hn : n = l.length) (hl : l.length ≤ maxLen) (h0 : 0 < l.length) (h1 : l.getD 0 0 = 165) (c1 : above l 1 9 = false) (c3 : above l 3 127 = false) (c9 : above l 9 100 = false) (h2 : ¬ l.length < 10) (c4 : above l (longAt l) 234 = false) (h3 : ¬ l.length < longAt l + 2) (h4 : ¬ 60000 < longL l) :
    Calls Try.prog 22 #[.slice a n cap] w fun e w' => e = .returned (.tuple #[.int .i64 (lensC l), .int .i64 (lensD l), .int .i64 (lensE l)]) ∧ Below w.heap.size w w' := by
  have b1 := h.le
  have b2 := h.most
  unfold maxLen at hl
  have HE : Hid (lensE l = 0) := by unfold lensE badHead; rw [noBegin_false h1, c1, c3, c9, if_neg (by simp), if_neg h2, c4, if_neg (by simp), if_neg h3, if_neg h4]; rfl
  have HC : Hid (lensC l = cntL l ∧ lensD l = longL l) := by unfold lensC lensD; rw [HE.out, if_pos rfl, if_pos rfl]; exact ⟨rfl, rfl⟩
  have A1 : Hid (Calls Try.prog 26 #[.slice a n cap, .int .i64 1, .int .i64 9] w fun e w' => e = .returned (.bool false) ∧ w' = w) := by
    have := above_any h 1 9 n hn (by omega) (by omega)
    rw [c1] at this; exact this
  have A3 : Hid (Calls Try.prog 26 #[.slice a n cap, .int .i64 3, .int .i64 127] w fun e w' => e = .returned (.bool false) ∧ w' = w) := by
    have := above_any h 3 127 n hn (by omega) (by omega)
    rw [c3] at this; exact this
  have A9 : Hid (Calls Try.prog 26 #[.slice a n cap, .int .i64 9, .int .i64 100] w fun e w' => e = .returned (.bool false) ∧ w' = w) := by
    have := above_any h 9 100 n hn (by omega) (by omega)
    rw [c9] at this; exact this
  have hcl : cntL l ≤ 255 := by unfold cntL; have := (l.getD 9 0).toNat_lt; omega
  have hla : longAt l = 10 + cntL l * 8 := rfl
  have AL : Hid (Calls Try.prog 26 #[.slice a n cap, .int .i64 (10 + (cntL l : Int) * 8), .int .i64 234] w fun e w' => e = .returned (.bool false) ∧ w' = w) := by
    have := above_any h (longAt l) 234 n hn (by omega) (by omega)
    rw [c4] at this
    have e : ((longAt l : Nat) : Int) = 10 + (cntL l : Int) * 8 := by omega
    rw [e] at this; exact this
  have AN : Hid (Calls Try.prog 24 #[.slice a n cap, .int .i64 (10 + (cntL l : Int) * 8), .int .i64 2] w fun e w' => e = .returned (.int .i64 (getV (sub l (longAt l) 2))) ∧ Below w.heap.size w w') := by
    have := number_any h (longAt l) 2 n hn (by omega) (by omega) (by omega)
    have e : ((longAt l : Nat) : Int) = 10 + (cntL l : Int) * 8 := by omega
    rw [e] at this; exact this
  have hv : getV (sub l (longAt l) 2) % 65536 = (longL l : Int) := by unfold longL; omega
  have hvb : longL l < 65536 := by unfold longL; omega
  rw [hla] at h3
  obtain ⟨b, off, ea, hc⟩ := h.at h0
  have hc0 := hc 0 h0
  rw [h1] at hc0
  rw [Nat.add_zero] at hc0
  change w.cell? ⟨b, off, none⟩ = some (.int .u8 165) at hc0
  have hc9 := hc 9 (by omega)
  change w.cell? ⟨b, off + 9, none⟩ = some (.int .u8 (cntL l)) at hc9
  rw [← hn] at h0 hl b1 h2 h3
  subst ea
  clear h hc hn h1 c1 c3 c9 c4 hla
  generalize cntL l = c at *
  go_enter Try.func22, Try.ntmps22
  go_wp2_with fail
  refine Calls.mono A1.out ?_
  rintro e w' ⟨rfl, hw⟩
  have hw' := hw.symm; subst hw'; clear hw
  go_wp2_with fail
  refine Calls.mono A3.out ?_
  rintro e w' ⟨rfl, hw⟩
  have hw' := hw.symm; subst hw'; clear hw
  go_wp2_with fail
  refine Calls.mono A9.out ?_
  rintro e w' ⟨rfl, hw⟩
  have hw' := hw.symm; subst hw'; clear hw
  go_wp2_with fail
  refine Calls.mono AL.out ?_
  rintro e w' ⟨rfl, hw⟩
  have hw' := hw.symm; subst hw'; clear hw
  have h3' : decide ((n : Int) < 10 + (c : Int) * 8 + 2) = false := by simp; omega
  generalize getV (sub l (longAt l) 2) = V at *
  generalize longL l = L at *
  have hw16 := wrap_u16 V
  rw [hv] at hw16
  clear hv
  go_wp2_with fail
  refine Calls.mono AN.out ?_
  rintro e w1 ⟨rfl, hb⟩
  have HB : Hid (Below w.heap.size w w1) := hb
  clear hb AN
  go_wp2
  go_ret3
  exact ⟨by rw [HE.out, HC.out.1, HC.out.2]; rfl, HB.out⟩
theorem lengths_any {w : World} {a : Option Addr} {cap : Nat} {l : List UInt8} (h : BS w a cap l) (n : Nat) (hn : n = l.length) (hl : l.length ≤ maxLen) :
    Calls Try.prog 22 #[.slice a n cap] w fun e w' => e = .returned (.tuple #[.int .i64 (lensC l), .int .i64 (lensD l), .int .i64 (lensE l)]) ∧ Below w.heap.size w w' := by
  by_cases h0 : l = []
  · exact lengths_none h n hn hl h0
  have h0 : 0 < l.length := List.length_pos_iff.2 h0
  by_cases h1 : l.getD 0 0 = 165
  case neg => exact lengths_first h n hn hl h0 h1
  cases c1 : above l 1 9 with
  | true => exact lengths_above1 h n hn hl h0 h1 c1
  | false =>
  cases c3 : above l 3 127 with
  | true => exact lengths_above3 h n hn hl h0 h1 c1 c3
  | false =>
  cases c9 : above l 9 100 with
  | true => exact lengths_above9 h n hn hl h0 h1 c1 c3 c9
  | false =>
  by_cases h2 : l.length < 10
  · exact lengths_head h n hn hl h0 h1 c1 c3 c9 h2
  cases c4 : above l (longAt l) 234 with
  | true => exact lengths_longbyte h n hn hl h0 h1 c1 c3 c9 h2 c4
  | false =>
  by_cases h3 : l.length < longAt l + 2
  · exact lengths_longshort h n hn hl h0 h1 c1 c3 c9 h2 c4 h3
  by_cases h4 : 60000 < longL l
  · exact lengths_longmuch h n hn hl h0 h1 c1 c3 c9 h2 c4 h3 h4
  · exact lengths_good h n hn hl h0 h1 c1 c3 c9 h2 c4 h3 h4
end Go.Proofs.Ytglkoedmonenoaa
