/- The contracts of fix's isDigits and Number. Conditions: a string's own length. -/
import Derived.Test.YtkkgfbhngoijaaaDoorWrW
import Derived.Test.YtkkgfbhngoijaaaDoorLxS
import Derived.Lib.ConvBytes
namespace Go.Proofs.YtkkgfbhngoijaaaDoor
open Go.RowKit
set_option linter.unusedVariables false
set_option maxRecDepth 100000

def digB (c : UInt8) : Bool := decide (48 ≤ c.toNat) && decide (c.toNat ≤ 57)
def isDig (l : List UInt8) (most : Nat) : Bool := decide (1 ≤ l.length) && decide (l.length ≤ most) && l.all digB
theorem all_snoc (s : ByteArray) (k : Nat) (h : k < s.size) : (s.data.toList.take (k + 1)).all digB = ((s.data.toList.take k).all digB && digB (s.data.toList.getD k 0)) := by
  rw [List.take_succ_eq_append_getElem (by simpa using h), List.all_append]
  simp [List.getD_eq_getElem?_getD, h]
theorem all_not (l : List UInt8) (k : Nat) (hk : k < l.length) (h : digB (l.getD k 0) = false) : l.all digB = false := by
  rw [List.all_eq_false]
  exact ⟨l.getD k 0, by rw [List.getD_eq_getElem?_getD, List.getElem?_eq_getElem hk]; exact List.getElem_mem hk, by rw [h]; simp⟩

set_option maxHeartbeats 400000 in
theorem isDigits_any (s : ByteArray) (most : Nat) (w : World) (hs : s.size ≤ maxLen) (hm : most ≤ 1000) :
    Calls Tryd.prog 33 #[.string s, .int .i64 most] w fun e w' => e = .returned (.bool (isDig s.data.toList most)) ∧ Below w.heap.size w w' := by
  unfold maxLen at hs
  have hsz : s.data.toList.length = s.size := by simp
  by_cases h1 : s.size < 1
  · have HR : Hid (isDig s.data.toList most = false) := by simp [Hid, isDig, hsz]; omega
    clear hsz
    go_enter Tryd.func33, Tryd.ntmps33
    go_wp2
    go_ret
    exact ⟨by rw [HR.out]; rfl, Below.refl _ _⟩
  · by_cases h2 : most < s.size
    · have HR : Hid (isDig s.data.toList most = false) := by simp [Hid, isDig, hsz]; omega
      clear hsz
      go_enter Tryd.func33, Tryd.ntmps33
      go_wp2
      go_ret
      exact ⟨by rw [HR.out]; rfl, Below.refl _ _⟩
    · have HA : Hid (isDig s.data.toList most = s.data.toList.all digB) := by simp [Hid, isDig, hsz]; omega
      obtain ⟨W, cap, hcv, hbel, hWs, hcell, _⟩ := conv_bytes w s
      have HC : Hid (∀ j, j < s.size → W.cell? ⟨w.heap.size, j, none⟩ = some (.int .u8 (s.data.toList.getD j 0).toNat)) := hcell
      have hd1 : decide ((s.size : Int) < 1) = false := by simp; omega
      clear hcell hsz
      go_enter Tryd.func33, Tryd.ntmps33
      go_wp2
      go_loop [19] (fun i => ∃ k : Nat, k ≤ s.size ∧ i = .int .i64 k ∧ (s.data.toList.take k).all digB = true) (fun i => s.size - (intOf i).toNat)
      case atStart => exact ⟨0, Nat.zero_le _, rfl, rfl⟩
      case round =>
        obtain ⟨k, hk, rfl, hall⟩ := hrel
        have HL : Hid ((s.data.toList.take k).all digB = true) := hall
        clear hall
        by_cases hlt : k < s.size
        · have hc := HC.out k hlt
          have HN : Hid ((s.data.toList.take (k + 1)).all digB = ((s.data.toList.take k).all digB && digB (s.data.toList.getD k 0))) := all_snoc s k hlt
          have HF : Hid (digB (s.data.toList.getD k 0) = false → s.data.toList.all digB = false) := all_not _ k (by simpa using hlt)
          have hcl : (s.data.toList.getD k 0).toNat < 256 := (s.data.toList.getD k 0).toNat_lt
          have HD : Hid (digB (s.data.toList.getD k 0) = (decide (48 ≤ (s.data.toList.getD k 0).toNat) && decide ((s.data.toList.getD k 0).toNat ≤ 57))) := rfl
          generalize s.data.toList.getD k 0 = c at *
          generalize hn : c.toNat = n at *
          clear hn
          by_cases g1 : n < 48
          · go_wp2
            go_ret
            exact ⟨by rw [HA.out, HF.out (by rw [HD.out]; simp; omega)]; rfl, hbel⟩
          · by_cases g2 : 57 < n
            · have g3 : decide ((n : Int) < 48) = false := by simp; omega
              go_wp2
              go_ret
              exact ⟨by rw [HA.out, HF.out (by rw [HD.out]; simp; omega)]; rfl, hbel⟩
            · have g3 : decide ((n : Int) < 48) = false := by simp; omega
              go_wp2
              go_round
              case rel => exact ⟨k + 1, by omega, by go_num, by rw [HN.out, HL.out, HD.out]; simp; omega⟩
              case measure => simp [intOf]; omega
        · have hkk : k = s.size := by omega
          have HE : Hid (s.data.toList.all digB = true) := by
            have := HL.out; rw [hkk, List.take_of_length_le (by simp)] at this; exact this
          go_wp2
          go_ret
          exact ⟨by rw [HA.out, HE.out]; rfl, hbel⟩

/-- The number of some digits. -/
def numL (l : List UInt8) : Nat := l.foldl (fun v c => v * 10 + (c.toNat - 48)) 0
/-- Whether digits are a number: 1 to 10 of them, no nought ahead of others. -/
def numOk (l : List UInt8) : Bool := isDig l 10 && !(decide ((l.getD 0 0).toNat = 48) && decide (1 < l.length))
theorem numL_snoc (s : ByteArray) (k : Nat) (h : k < s.size) : numL (s.data.toList.take (k + 1)) = numL (s.data.toList.take k) * 10 + ((s.data.toList.getD k 0).toNat - 48) := by
  rw [List.take_succ_eq_append_getElem (by simpa using h)]
  simp [numL, List.foldl_append, List.getD_eq_getElem?_getD, h]
theorem isDig_at {l : List UInt8} {m : Nat} (h : isDig l m = true) (k : Nat) (hk : k < l.length) : 48 ≤ (l.getD k 0).toNat ∧ (l.getD k 0).toNat ≤ 57 := by
  simp only [isDig, Bool.and_eq_true, List.all_eq_true] at h
  have := h.2 (l.getD k 0) (by rw [List.getD_eq_getElem?_getD, List.getElem?_eq_getElem hk]; exact List.getElem_mem hk)
  simpa [digB] using this
theorem isDig_len {l : List UInt8} {m : Nat} (h : isDig l m = true) : 1 ≤ l.length ∧ l.length ≤ m := by
  simp only [isDig, Bool.and_eq_true, decide_eq_true_eq] at h
  exact h.1

set_option maxHeartbeats 400000 in
theorem number_no_digits (s : ByteArray) (w : World) (hs : s.size ≤ maxLen) (h : isDig s.data.toList 10 = false) :
    Calls Tryd.prog 32 #[.string s] w fun e w' => e = .returned (.tuple #[.int .i64 0, .int .i64 11]) ∧ Below w.heap.size w w' := by
  have HI : Hid (isDig s.data.toList 10 = false) := h
  clear h
  go_enter Tryd.func32, Tryd.ntmps32
  go_wp2_with (go_at_call 33; refine (isDigits_any _ 10 _ hs (by omega)).mono ?_; rintro e w' ⟨he, hb⟩; rw [HI.out] at he; subst he)
  go_ret2
  exact ⟨rfl, hb⟩

set_option maxHeartbeats 400000 in
theorem number_nought (s : ByteArray) (w : World) (hs : s.size ≤ maxLen) (h : isDig s.data.toList 10 = true) (h0 : (s.data.toList.getD 0 0).toNat = 48) (h1 : 1 < s.size) :
    Calls Tryd.prog 32 #[.string s] w fun e w' => e = .returned (.tuple #[.int .i64 0, .int .i64 11]) ∧ Below w.heap.size w w' := by
  have HI : Hid (isDig s.data.toList 10 = true) := h
  have hx : s[0].toNat = 48 := by
    have : s.data.toList.getD 0 0 = s[0] := by
      rw [List.getD_eq_getElem?_getD, List.getElem?_eq_getElem (by simpa using (show 0 < s.size by omega))]; rfl
    rw [← this]; exact h0
  have hs' := hs
  unfold maxLen at hs'
  clear h h0
  go_enter Tryd.func32, Tryd.ntmps32
  go_wp2_with (go_at_call 33; refine (isDigits_any _ 10 _ hs (by omega)).mono ?_; rintro e w' ⟨he, hb⟩; rw [HI.out] at he; subst he)
  go_ret2
  exact ⟨rfl, hb⟩

theorem numL_lt (l : List UInt8) (h : l.all digB = true) : numL l < 10 ^ l.length := by
  suffices ∀ (l : List UInt8) (v p : Nat), v < p → l.all digB = true → l.foldl (fun v c => v * 10 + (c.toNat - 48)) v < p * 10 ^ l.length by
    have := this l 0 1 (by omega) h
    simpa [numL] using this
  intro l
  induction l with
  | nil => intro v p h _; simpa using h
  | cons c l ih =>
    intro v p hv ha
    simp only [List.all_cons, Bool.and_eq_true] at ha
    have hd : 48 ≤ c.toNat ∧ c.toNat ≤ 57 := by simpa [digB] using ha.1
    have := ih (v * 10 + (c.toNat - 48)) (p * 10) (by omega) ha.2
    rw [List.foldl_cons, List.length_cons, Nat.pow_succ, Nat.mul_comm (10 ^ l.length) 10, ← Nat.mul_assoc]
    exact this
theorem all_take {l : List UInt8} (h : l.all digB = true) (k : Nat) : (l.take k).all digB = true := by
  rw [List.all_eq_true] at *
  intro x hx
  exact h x (List.mem_of_mem_take hx)
theorem isDig_all {l : List UInt8} {m : Nat} (h : isDig l m = true) : l.all digB = true := by
  simp only [isDig, Bool.and_eq_true] at h
  exact h.2
theorem numL_small {l : List UInt8} (h : isDig l 10 = true) (k : Nat) : numL (l.take k) < 10000000000 := by
  have h1 := numL_lt _ (all_take (isDig_all h) k)
  have h2 := (isDig_len h).2
  have h3 : (l.take k).length ≤ 10 := by rw [List.length_take]; omega
  have h4 : 10 ^ (l.take k).length ≤ 10 ^ 10 := Nat.pow_le_pow_right (by omega) h3
  omega
theorem numOk_dig {l : List UInt8} (h : numOk l = true) : isDig l 10 = true := by
  simp only [numOk, Bool.and_eq_true] at h
  exact h.1

set_option maxHeartbeats 600000 in
theorem number_yes (s : ByteArray) (w : World) (hs : s.size ≤ maxLen) (h : numOk s.data.toList = true) :
    Calls Tryd.prog 32 #[.string s] w fun e w' => e = .returned (.tuple #[.int .i64 (numL s.data.toList : Int), .int .i64 0]) ∧ Below w.heap.size w w' := by
  have HI : Hid (isDig s.data.toList 10 = true) := numOk_dig h
  have hlen := isDig_len HI.out
  have hsz : s.data.toList.length = s.size := by simp
  rw [hsz] at hlen
  have h0s : 0 < s.size := by omega
  have hx : (s[0]'h0s).toNat = (s.data.toList.getD 0 0).toNat := by
    have : s.data.toList.getD 0 0 = s[0]'h0s := by
      rw [List.getD_eq_getElem?_getD, List.getElem?_eq_getElem (by simpa using (show 0 < s.size by omega))]; rfl
    rw [this]
  have ht : (((s[0]'h0s).toNat : Int) == 48) = false ∨ decide ((1 : Int) < (s.size : Int)) = false := by
    simp only [numOk, Bool.and_eq_true, Bool.not_eq_true', Bool.and_eq_false_iff, decide_eq_false_iff_not] at h
    rcases h.2 with h2 | h2
    · left; rw [hx, beq_eq_false_iff_ne]; omega
    · right; simp; rw [hsz] at h2; omega
  have hs' := hs
  unfold maxLen at hs'
  clear h hx hsz
  have key : ∀ w1 : World, Below w.heap.size w w1 → ∃ (W : World) (cap : Nat), (convert 9 50 (.string s)).run Tryd.prog w1 = .ok (.slice (some ⟨w1.heap.size, 0, none⟩) s.size cap) W ∧ Below w.heap.size w W ∧
      (∀ j, j < s.size → W.cell? ⟨w1.heap.size, j, none⟩ = some (.int .u8 (s.data.toList.getD j 0).toNat)) := by
    intro w1 hb
    obtain ⟨W, cap, h1, h2, _, h4, _⟩ := conv_bytes w1 s
    exact ⟨W, cap, h1, hb.trans (h2.mono hb.size), h4⟩
  rcases ht with ht | ht
  all_goals
    go_enter Tryd.func32, Tryd.ntmps32
    go_wp2_with (go_at_call 33; refine (isDigits_any _ 10 _ hs (by omega)).mono ?_; rintro e w1 ⟨he, hb⟩; rw [HI.out] at he; subst he; obtain ⟨W, cap, hcv, hbW, hcell⟩ := key w1 hb; have HC := (show Hid _ from hcell); clear hcell hb)
    all_goals
      go_loop [4, 23] (fun v i => ∃ k : Nat, k ≤ s.size ∧ i = .int .i64 k ∧ v = .int .i64 (numL (s.data.toList.take k) : Int)) (fun _ i => s.size - (intOf i).toNat)
      case atStart => exact ⟨0, Nat.zero_le _, rfl, rfl⟩
      case round =>
        obtain ⟨k, hk, rfl, rfl⟩ := hrel
        have hsm := numL_small HI.out k
        by_cases hlt : k < s.size
        · have hc := HC.out k hlt
          have HN : Hid (numL (s.data.toList.take (k + 1)) = numL (s.data.toList.take k) * 10 + ((s.data.toList.getD k 0).toNat - 48)) := numL_snoc s k hlt
          have hcl := isDig_at HI.out k (by simpa using hlt)
          generalize s.data.toList.getD k 0 = c at *
          generalize c.toNat = n at *
          generalize numL (s.data.toList.take k) = v at *
          go_wp2
          go_round
          case rel => exact ⟨k + 1, by omega, by go_num, by rw [HN.out]; go_num⟩
          case measure => simp [intOf]; omega
        · have hkk : k = s.size := by omega
          subst hkk
          have HE : Hid (s.data.toList.take s.size = s.data.toList) := List.take_of_length_le (by simp)
          go_wp2
          go_ret2
          exact ⟨by rw [HE.out]; rfl, hbW⟩
end Go.Proofs.YtkkgfbhngoijaaaDoor
