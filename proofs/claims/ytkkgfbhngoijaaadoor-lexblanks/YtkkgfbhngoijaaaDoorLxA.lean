/- The contracts of lex's small functions: the kinds of bytes, and run. Conditions: none but a string's own length. -/
import Derived.Test.YtkkgfbhngoijaaaDoorDigs
namespace Go.Proofs.YtkkgfbhngoijaaaDoor
open Go.RowKit
set_option linter.unusedVariables false
set_option maxRecDepth 100000

def letB (c : UInt8) : Bool := (decide (65 ≤ c.toNat) && decide (c.toNat ≤ 90)) || (decide (97 ≤ c.toNat) && decide (c.toNat ≤ 122))
def nmB (c : UInt8) : Bool := letB c || digB c || decide (c.toNat = 95)
def blB (c : UInt8) : Bool := decide (c.toNat = 32) || decide (c.toNat = 9) || decide (c.toNat = 13) || decide (c.toNat = 10)
def ilB (c : UInt8) : Bool := !decide (c.toNat = 10)

theorem ret_bool {a b : Bool} (h : a = b) : Ending.returned (.bool a) = .returned (.bool b) := by rw [h]
/-- A function that tells a kind of byte. -/
def TellsB (g : Nat) (p : UInt8 → Bool) : Prop := ∀ (c : UInt8) (w : World), Calls Tryd.prog g #[.int .u8 (c.toNat : Int)] w fun e w' => e = .returned (.bool (p c)) ∧ w' = w

theorem isLetter_any : TellsB 17 letB := by
  intro c w
  have hn : c.toNat < 256 := c.toNat_lt
  unfold letB
  generalize c.toNat = n at *
  by_cases h1 : 65 ≤ n <;> by_cases h2 : n ≤ 90 <;> by_cases h3 : 97 ≤ n <;> by_cases h4 : n ≤ 122
  all_goals first
    | omega
    | (go_enter Tryd.func17, Tryd.ntmps17
       go_wp2
       go_ret
       exact ⟨ret_bool (by simp [h1, h2, h3, h4] <;> omega), rfl⟩)
theorem isDigit_any : TellsB 28 digB := by
  intro c w
  have hn : c.toNat < 256 := c.toNat_lt
  unfold digB
  generalize c.toNat = n at *
  by_cases h1 : 48 ≤ n <;> by_cases h2 : n ≤ 57
  all_goals first
    | omega
    | (go_enter Tryd.func28, Tryd.ntmps28
       go_wp2
       go_ret
       exact ⟨ret_bool (by simp [h1, h2] <;> omega), rfl⟩)
theorem isBlank_any : TellsB 22 blB := by
  intro c w
  have hn : c.toNat < 256 := c.toNat_lt
  unfold blB
  generalize c.toNat = n at *
  by_cases h1 : n = 32
  · subst h1
    go_enter Tryd.func22, Tryd.ntmps22
    go_wp2
    go_ret
    exact ⟨rfl, rfl⟩
  · have k1 : ((n : Int) == 32) = false := by simp; omega
    by_cases h2 : n = 9
    · subst h2
      go_enter Tryd.func22, Tryd.ntmps22
      go_wp2
      go_ret
      exact ⟨rfl, rfl⟩
    · have k2 : ((n : Int) == 9) = false := by simp; omega
      by_cases h3 : n = 13
      · subst h3
        go_enter Tryd.func22, Tryd.ntmps22
        go_wp2
        go_ret
        exact ⟨rfl, rfl⟩
      · have k3 : ((n : Int) == 13) = false := by simp; omega
        by_cases h4 : n = 10
        · subst h4
          go_enter Tryd.func22, Tryd.ntmps22
          go_wp2
          go_ret
          exact ⟨rfl, rfl⟩
        · have k4 : ((n : Int) == 10) = false := by simp; omega
          have HR : Hid ((decide (n = 32) || decide (n = 9) || decide (n = 13) || decide (n = 10)) = false) := by simp [Hid, h1, h2, h3, h4]
          clear h1 h2 h3 h4
          go_enter Tryd.func22, Tryd.ntmps22
          go_wp2
          go_ret
          exact ⟨ret_bool HR.out.symm, rfl⟩
theorem isInLine_any : TellsB 21 ilB := by
  intro c w
  have hn : c.toNat < 256 := c.toNat_lt
  unfold ilB
  generalize c.toNat = n at *
  by_cases h1 : n = 10
  · subst h1
    go_enter Tryd.func21, Tryd.ntmps21
    go_wp2
    go_ret
    exact ⟨rfl, rfl⟩
  · have k1 : ((n : Int) == 10) = false := by simp; omega
    have k2 : ((n : Int) != 10) = true := by simp; omega
    have HR : Hid ((!decide (n = 10)) = true) := by simp [Hid, h1]
    clear h1
    go_enter Tryd.func21, Tryd.ntmps21
    go_wp2
    go_ret
    exact ⟨ret_bool HR.out.symm, rfl⟩
theorem isInName_any : TellsB 19 nmB := by
  intro c w
  have h1 := isLetter_any c
  have h2 := isDigit_any c
  have hn : c.toNat < 256 := c.toNat_lt
  unfold nmB
  generalize letB c = x at *
  generalize digB c = y at *
  generalize c.toNat = n at *
  cases x with
  | true =>
    go_enter Tryd.func19, Tryd.ntmps19
    go_wp2_with (go_at_call 17; refine (h1 _).mono ?_; rintro e w' ⟨rfl, rfl⟩)
    go_ret
    exact ⟨rfl, rfl⟩
  | false =>
    cases y with
    | true =>
      go_enter Tryd.func19, Tryd.ntmps19
      go_wp2_with (first | (go_at_call 17; refine (h1 _).mono ?_; rintro e w' ⟨rfl, rfl⟩) | (go_at_call 28; refine (h2 _).mono ?_; rintro e w' ⟨rfl, rfl⟩))
      go_ret
      exact ⟨rfl, rfl⟩
    | false =>
      by_cases h3 : n = 95
      · subst h3
        go_enter Tryd.func19, Tryd.ntmps19
        go_wp2_with (first | (go_at_call 17; refine (h1 _).mono ?_; rintro e w' ⟨rfl, rfl⟩) | (go_at_call 28; refine (h2 _).mono ?_; rintro e w' ⟨rfl, rfl⟩))
        go_ret
        exact ⟨rfl, rfl⟩
      · have k1 : ((n : Int) == 95) = false := by simp; omega
        have HR : Hid ((false || false || decide (n = 95)) = false) := by simp [Hid, h3]
        clear h3
        go_enter Tryd.func19, Tryd.ntmps19
        go_wp2_with (first | (go_at_call 17; refine (h1 _).mono ?_; rintro e w' ⟨rfl, rfl⟩) | (go_at_call 28; refine (h2 _).mono ?_; rintro e w' ⟨rfl, rfl⟩))
        go_ret
        exact ⟨ret_bool HR.out.symm, rfl⟩

/-- How many bytes at the beginning are of a kind. -/
def runL (p : UInt8 → Bool) : List UInt8 → Nat
  | [] => 0
  | c :: l => if p c then runL p l + 1 else 0
theorem runL_le (p : UInt8 → Bool) (l : List UInt8) : runL p l ≤ l.length := by
  induction l with
  | nil => simp [runL]
  | cons c l ih => simp only [runL]; split <;> simp <;> omega
theorem runL_take (p : UInt8 → Bool) (l : List UInt8) (k : Nat) (hk : k ≤ l.length) (h : (l.take k).all p = true) : runL p l = k + runL p (l.drop k) := by
  induction l generalizing k with
  | nil => simp at hk; subst hk; simp [runL]
  | cons c l ih =>
    cases k with
    | zero => simp
    | succ k =>
      simp only [List.take_succ_cons, List.all_cons, Bool.and_eq_true] at h
      simp only [runL, h.1, if_true, List.drop_succ_cons]
      rw [ih k (by simpa using hk) h.2]; omega
theorem runL_drop_no (p : UInt8 → Bool) (l : List UInt8) (k : Nat) (hk : k < l.length) (h : p (l.getD k 0) = false) : runL p (l.drop k) = 0 := by
  rw [List.drop_eq_getElem_cons hk]
  simp only [List.getD_eq_getElem?_getD, List.getElem?_eq_getElem hk, Option.getD_some] at h
  simp [runL, h]

theorem getD_at (s : ByteArray) (k : Nat) (h : k < s.size) : s.data.toList.getD k 0 = s[k] := by
  rw [List.getD_eq_getElem?_getD, List.getElem?_eq_getElem (by simpa using h)]; rfl
theorem take_succ_all (p : UInt8 → Bool) (s : ByteArray) (k : Nat) (h : k < s.size) : (s.data.toList.take (k + 1)).all p = ((s.data.toList.take k).all p && p (s[k])) := by
  rw [List.take_succ_eq_append_getElem (by simpa using h), List.all_append]; simp; rfl
set_option maxHeartbeats 400000 in
theorem run_nm (s : ByteArray) (w : World) (hs : s.size ≤ 1000000) :
    Calls Tryd.prog 18 #[.string s, .func (.func 19) #[] #[]] w fun e w' => e = .returned (.int .i64 (runL nmB s.data.toList)) ∧ w' = w := by
  have hsz : Hid (s.data.toList.length = s.size) := by simp [Hid]
  go_enter Tryd.func18, Tryd.ntmps18
  go_wp2
  go_loop [5] (fun i => ∃ k : Nat, k ≤ s.size ∧ i = .int .i64 k ∧ (s.data.toList.take k).all nmB = true) (fun i => s.size - (intOf i).toNat)
  case atStart => exact ⟨0, Nat.zero_le _, rfl, rfl⟩
  case round =>
    obtain ⟨k, hk, rfl, hall⟩ := hrel
    have HL : Hid ((s.data.toList.take k).all nmB = true) := hall
    clear hall
    by_cases hlt : k < s.size
    · have HN : Hid ((s.data.toList.take (k + 1)).all nmB = ((s.data.toList.take k).all nmB && nmB (s[k]))) := take_succ_all nmB s k hlt
      have HF : Hid (nmB (s[k]) = false → runL nmB s.data.toList = k) := by
        intro h
        rw [runL_take nmB _ k (by rw [hsz.out]; omega) HL.out, runL_drop_no nmB _ k (by rw [hsz.out]; omega) (by rw [getD_at s k hlt]; exact h)]; rfl
      have hc := isInName_any s[k]
      cases hx : nmB s[k] with
      | true =>
        rw [hx] at hc
        have HX : Hid (nmB s[k] = true) := hx
        clear hx
        go_wp2_with (go_at_call 19; refine (hc _).mono ?_; rintro e w' ⟨rfl, rfl⟩)
        go_round
        case rel => exact ⟨k + 1, by omega, by go_num, by rw [HN.out, HL.out, HX.out]; rfl⟩
        case measure => simp [intOf]; omega
      | false =>
        rw [hx] at hc
        have HX : Hid (nmB s[k] = false) := hx
        clear hx
        go_wp2_with (go_at_call 19; refine (hc _).mono ?_; rintro e w' ⟨rfl, rfl⟩)
        go_ret
        exact ⟨ret_int (by rw [HF.out HX.out]), rfl⟩
    · have hkk : k = s.size := by omega
      have HE : Hid (runL nmB s.data.toList = k) := by
        show _ = _
        rw [runL_take nmB _ k (by rw [hsz.out]; omega) HL.out, List.drop_of_length_le (by rw [hsz.out]; omega)]; simp [runL]
      clear hkk
      go_wp2
      go_ret
      exact ⟨ret_int (by rw [HE.out]), rfl⟩
set_option maxHeartbeats 400000 in
theorem run_il (s : ByteArray) (w : World) (hs : s.size ≤ 1000000) :
    Calls Tryd.prog 18 #[.string s, .func (.func 21) #[] #[]] w fun e w' => e = .returned (.int .i64 (runL ilB s.data.toList)) ∧ w' = w := by
  have hsz : Hid (s.data.toList.length = s.size) := by simp [Hid]
  go_enter Tryd.func18, Tryd.ntmps18
  go_wp2
  go_loop [5] (fun i => ∃ k : Nat, k ≤ s.size ∧ i = .int .i64 k ∧ (s.data.toList.take k).all ilB = true) (fun i => s.size - (intOf i).toNat)
  case atStart => exact ⟨0, Nat.zero_le _, rfl, rfl⟩
  case round =>
    obtain ⟨k, hk, rfl, hall⟩ := hrel
    have HL : Hid ((s.data.toList.take k).all ilB = true) := hall
    clear hall
    by_cases hlt : k < s.size
    · have HN : Hid ((s.data.toList.take (k + 1)).all ilB = ((s.data.toList.take k).all ilB && ilB (s[k]))) := take_succ_all ilB s k hlt
      have HF : Hid (ilB (s[k]) = false → runL ilB s.data.toList = k) := by
        intro h
        rw [runL_take ilB _ k (by rw [hsz.out]; omega) HL.out, runL_drop_no ilB _ k (by rw [hsz.out]; omega) (by rw [getD_at s k hlt]; exact h)]; rfl
      have hc := isInLine_any s[k]
      cases hx : ilB s[k] with
      | true =>
        rw [hx] at hc
        have HX : Hid (ilB s[k] = true) := hx
        clear hx
        go_wp2_with (go_at_call 21; refine (hc _).mono ?_; rintro e w' ⟨rfl, rfl⟩)
        go_round
        case rel => exact ⟨k + 1, by omega, by go_num, by rw [HN.out, HL.out, HX.out]; rfl⟩
        case measure => simp [intOf]; omega
      | false =>
        rw [hx] at hc
        have HX : Hid (ilB s[k] = false) := hx
        clear hx
        go_wp2_with (go_at_call 21; refine (hc _).mono ?_; rintro e w' ⟨rfl, rfl⟩)
        go_ret
        exact ⟨ret_int (by rw [HF.out HX.out]), rfl⟩
    · have hkk : k = s.size := by omega
      have HE : Hid (runL ilB s.data.toList = k) := by
        show _ = _
        rw [runL_take ilB _ k (by rw [hsz.out]; omega) HL.out, List.drop_of_length_le (by rw [hsz.out]; omega)]; simp [runL]
      clear hkk
      go_wp2
      go_ret
      exact ⟨ret_int (by rw [HE.out]), rfl⟩
set_option maxHeartbeats 400000 in
theorem run_bl (s : ByteArray) (w : World) (hs : s.size ≤ 1000000) :
    Calls Tryd.prog 18 #[.string s, .func (.func 22) #[] #[]] w fun e w' => e = .returned (.int .i64 (runL blB s.data.toList)) ∧ w' = w := by
  have hsz : Hid (s.data.toList.length = s.size) := by simp [Hid]
  go_enter Tryd.func18, Tryd.ntmps18
  go_wp2
  go_loop [5] (fun i => ∃ k : Nat, k ≤ s.size ∧ i = .int .i64 k ∧ (s.data.toList.take k).all blB = true) (fun i => s.size - (intOf i).toNat)
  case atStart => exact ⟨0, Nat.zero_le _, rfl, rfl⟩
  case round =>
    obtain ⟨k, hk, rfl, hall⟩ := hrel
    have HL : Hid ((s.data.toList.take k).all blB = true) := hall
    clear hall
    by_cases hlt : k < s.size
    · have HN : Hid ((s.data.toList.take (k + 1)).all blB = ((s.data.toList.take k).all blB && blB (s[k]))) := take_succ_all blB s k hlt
      have HF : Hid (blB (s[k]) = false → runL blB s.data.toList = k) := by
        intro h
        rw [runL_take blB _ k (by rw [hsz.out]; omega) HL.out, runL_drop_no blB _ k (by rw [hsz.out]; omega) (by rw [getD_at s k hlt]; exact h)]; rfl
      have hc := isBlank_any s[k]
      cases hx : blB s[k] with
      | true =>
        rw [hx] at hc
        have HX : Hid (blB s[k] = true) := hx
        clear hx
        go_wp2_with (go_at_call 22; refine (hc _).mono ?_; rintro e w' ⟨rfl, rfl⟩)
        go_round
        case rel => exact ⟨k + 1, by omega, by go_num, by rw [HN.out, HL.out, HX.out]; rfl⟩
        case measure => simp [intOf]; omega
      | false =>
        rw [hx] at hc
        have HX : Hid (blB s[k] = false) := hx
        clear hx
        go_wp2_with (go_at_call 22; refine (hc _).mono ?_; rintro e w' ⟨rfl, rfl⟩)
        go_ret
        exact ⟨ret_int (by rw [HF.out HX.out]), rfl⟩
    · have hkk : k = s.size := by omega
      have HE : Hid (runL blB s.data.toList = k) := by
        show _ = _
        rw [runL_take blB _ k (by rw [hsz.out]; omega) HL.out, List.drop_of_length_le (by rw [hsz.out]; omega)]; simp [runL]
      clear hkk
      go_wp2
      go_ret
      exact ⟨ret_int (by rw [HE.out]), rfl⟩
set_option maxHeartbeats 400000 in
theorem run_dg (s : ByteArray) (w : World) (hs : s.size ≤ 1000000) :
    Calls Tryd.prog 18 #[.string s, .func (.func 28) #[] #[]] w fun e w' => e = .returned (.int .i64 (runL digB s.data.toList)) ∧ w' = w := by
  have hsz : Hid (s.data.toList.length = s.size) := by simp [Hid]
  go_enter Tryd.func18, Tryd.ntmps18
  go_wp2
  go_loop [5] (fun i => ∃ k : Nat, k ≤ s.size ∧ i = .int .i64 k ∧ (s.data.toList.take k).all digB = true) (fun i => s.size - (intOf i).toNat)
  case atStart => exact ⟨0, Nat.zero_le _, rfl, rfl⟩
  case round =>
    obtain ⟨k, hk, rfl, hall⟩ := hrel
    have HL : Hid ((s.data.toList.take k).all digB = true) := hall
    clear hall
    by_cases hlt : k < s.size
    · have HN : Hid ((s.data.toList.take (k + 1)).all digB = ((s.data.toList.take k).all digB && digB (s[k]))) := take_succ_all digB s k hlt
      have HF : Hid (digB (s[k]) = false → runL digB s.data.toList = k) := by
        intro h
        rw [runL_take digB _ k (by rw [hsz.out]; omega) HL.out, runL_drop_no digB _ k (by rw [hsz.out]; omega) (by rw [getD_at s k hlt]; exact h)]; rfl
      have hc := isDigit_any s[k]
      cases hx : digB s[k] with
      | true =>
        rw [hx] at hc
        have HX : Hid (digB s[k] = true) := hx
        clear hx
        go_wp2_with (go_at_call 28; refine (hc _).mono ?_; rintro e w' ⟨rfl, rfl⟩)
        go_round
        case rel => exact ⟨k + 1, by omega, by go_num, by rw [HN.out, HL.out, HX.out]; rfl⟩
        case measure => simp [intOf]; omega
      | false =>
        rw [hx] at hc
        have HX : Hid (digB s[k] = false) := hx
        clear hx
        go_wp2_with (go_at_call 28; refine (hc _).mono ?_; rintro e w' ⟨rfl, rfl⟩)
        go_ret
        exact ⟨ret_int (by rw [HF.out HX.out]), rfl⟩
    · have hkk : k = s.size := by omega
      have HE : Hid (runL digB s.data.toList = k) := by
        show _ = _
        rw [runL_take digB _ k (by rw [hsz.out]; omega) HL.out, List.drop_of_length_le (by rw [hsz.out]; omega)]; simp [runL]
      clear hkk
      go_wp2
      go_ret
      exact ⟨ret_int (by rw [HE.out]), rfl⟩
end Go.Proofs.YtkkgfbhngoijaaaDoor
