/- The contracts of the document's own Get, Put and Sum. Conditions: the numbers' own ranges, a string's own length. -/
import Derived.Test.YtpojkaeclfgfkaaDoorPut
import Derived.Test.YtpojkaeclfgfkaaDoorLaid
namespace Go.Proofs.YtpojkaeclfgfkaaDoor
open Go.RowKit
set_option linter.unusedVariables false
set_option maxRecDepth 100000

set_option maxHeartbeats 600000 in
theorem rget_no (s : ByteArray) (w : World) (hs : s.size ≤ maxLen) (h : s.size < 1 ∨ 8 < s.size) :
    Calls Tryd.prog 39 #[.string s] w fun e w' => e = .returned (.tuple #[.int .i64 0, .int .i64 1]) ∧ w' = w := by
  unfold maxLen at hs
  rcases h with h | h
  · go_enter Tryd.func39, Tryd.ntmps39
    go_wp2
    go_ret2
    exact ⟨rfl, rfl⟩
  · have h' : decide ((s.size : Int) < 1) = false := by simp; omega
    go_enter Tryd.func39, Tryd.ntmps39
    go_wp2
    go_ret2
    exact ⟨rfl, rfl⟩
theorem getD_bytes (s : ByteArray) (k : Nat) (h : k < s.size) : s.data.toList.getD k 0 = s[k] := by
  rw [List.getD_eq_getElem?_getD, List.getElem?_eq_getElem (by simpa using h)]; rfl
theorem way_bd (l : List UInt8) (k : Nat) (hk : k ≤ 7) : -36028797018963968 ≤ foldV (signOf l) (l.take k) ∧ foldV (signOf l) (l.take k) ≤ 36028797018963967 := by
  cases l with
  | nil => simp [foldV, signOf]
  | cons c l =>
    cases k with
    | zero => simp [foldV, signOf]; split <;> omega
    | succ k =>
      have e : foldV (signOf (c :: l)) ((c :: l).take (k + 1)) = foldV (headS c) (l.take k) := by
        have := getV_cons c (l.take k)
        simpa [getV, signOf] using this
      rw [e]
      exact get_bd6 c _ (by rw [List.length_take]; omega)
set_option maxHeartbeats 1000000 in
theorem rget_yes (s : ByteArray) (w : World) (h1 : 1 ≤ s.size) (h2 : s.size ≤ 8) :
    Calls Tryd.prog 39 #[.string s] w fun e w' => e = .returned (.tuple #[.int .i64 (getV s.data.toList), .int .i64 0]) ∧ w' = w := by
  have HS : Hid (signOf s.data.toList = if 128 ≤ s[0].toNat then -1 else 0) := by rw [signOf, getD_bytes s 0 (by omega)]; rfl
  have HL : Hid (s.data.toList.length = s.size) := by simp [Hid]
  have HW : Hid (∀ k, k ≤ 7 → -36028797018963968 ≤ foldV (signOf s.data.toList) (s.data.toList.take k) ∧ foldV (signOf s.data.toList) (s.data.toList.take k) ≤ 36028797018963967) := fun k hk => way_bd _ k hk
  have HG : Hid (getV s.data.toList = foldV (signOf s.data.toList) s.data.toList) := rfl
  have HN : Hid (∀ k (hk : k < s.size), foldV (signOf s.data.toList) (s.data.toList.take (k + 1)) = foldV (signOf s.data.toList) (s.data.toList.take k) * 256 + s[k].toNat) := fun k hk => by
    rw [foldV_take _ _ k (by simpa using hk), getD_bytes s k hk]
  have hd1 : decide ((s.size : Int) < 1) = false := by simp; omega
  have hd8 : decide ((8 : Int) < (s.size : Int)) = false := by simp; omega
  have hc0 := s[0].toNat_lt
  generalize hl : s.data.toList = l at *
  generalize hs0 : signOf l = s0 at *
  have hs01 : s0 = -1 ∨ s0 = 0 := by have := HS.out; rw [this]; split <;> omega
  have hs02 : (128 ≤ s[0].toNat → s0 = -1) ∧ (s[0].toNat < 128 → s0 = 0) := by
    have := HS.out; rw [this]
    exact ⟨fun h => if_pos h, fun h => if_neg (by omega)⟩
  have HGG : Hid (getV s.data.toList = foldV s0 l) := by rw [hl]; exact HG.out
  clear hs0 HG HS
  by_cases hc : 128 ≤ s[0].toNat
  · obtain rfl := hs02.1 hc
    clear hs01 hs02
    go_enter Tryd.func39, Tryd.ntmps39
    go_wp2
    go_loop [4, 5] (fun v i => ∃ k : Nat, k ≤ s.size ∧ i = .int .i64 k ∧ v = .int .i64 (foldV (-1) (l.take k))) (fun _ i => s.size - (intOf i).toNat)
    case atStart => exact ⟨0, Nat.zero_le _, rfl, rfl⟩
    case round =>
      obtain ⟨k, hk, rfl, rfl⟩ := hrel
      by_cases hlt : k < s.size
      · have HK := HN.out k hlt
        have HK' : Hid (foldV (-1) (l.take (k + 1)) = foldV (-1) (l.take k) * 256 + s[k].toNat) := HK
        have hv := HW.out k (by omega)
        have hcl : s[k].toNat < 256 := s[k].toNat_lt
        clear HK
        generalize foldV (-1) (l.take k) = v at *
        have hor := or_byte v s[k].toNat hv.1 hv.2 hcl
        go_wp2
        go_round
        case rel => exact ⟨k + 1, by omega, by go_num, by rw [HK'.out]⟩
        case measure => simp [intOf]; omega
      · have hkk : k = s.size := by omega
        have HE : Hid (foldV (-1) (l.take k) = getV l) := by
          rw [hkk, ← HL.out, List.take_length]; rw [hl] at HGG; exact HGG.out.symm
        clear hkk
        go_wp2
        go_ret2
        exact ⟨by rw [← HE.out]; rfl, rfl⟩
  · obtain rfl := hs02.2 (by omega)
    clear hs01 hs02
    go_enter Tryd.func39, Tryd.ntmps39
    go_wp2
    go_loop [4, 5] (fun v i => ∃ k : Nat, k ≤ s.size ∧ i = .int .i64 k ∧ v = .int .i64 (foldV 0 (l.take k))) (fun _ i => s.size - (intOf i).toNat)
    case atStart => exact ⟨0, Nat.zero_le _, rfl, rfl⟩
    case round =>
      obtain ⟨k, hk, rfl, rfl⟩ := hrel
      by_cases hlt : k < s.size
      · have HK := HN.out k hlt
        have HK' : Hid (foldV 0 (l.take (k + 1)) = foldV 0 (l.take k) * 256 + s[k].toNat) := HK
        have hv := HW.out k (by omega)
        have hcl : s[k].toNat < 256 := s[k].toNat_lt
        clear HK
        generalize foldV 0 (l.take k) = v at *
        have hor := or_byte v s[k].toNat hv.1 hv.2 hcl
        go_wp2
        go_round
        case rel => exact ⟨k + 1, by omega, by go_num, by rw [HK'.out]⟩
        case measure => simp [intOf]; omega
      · have hkk : k = s.size := by omega
        have HE : Hid (foldV 0 (l.take k) = getV l) := by
          rw [hkk, ← HL.out, List.take_length]; rw [hl] at HGG; exact HGG.out.symm
        clear hkk
        go_wp2
        go_ret2
        exact ⟨by rw [← HE.out]; rfl, rfl⟩
end Go.Proofs.YtpojkaeclfgfkaaDoor
