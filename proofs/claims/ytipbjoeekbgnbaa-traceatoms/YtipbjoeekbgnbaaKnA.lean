/- The contracts of lex's IsName and what it calls. Conditions: a text of at most 2^63 - 1 bytes. -/
import Derived.Test.YtipbjoeekbgnbaaSpanL
import Derived.Lib.Strings
namespace Go.Proofs.Ytipbjoeekbgnbaa
open Go.RowKit
set_option linter.unusedVariables false
set_option maxRecDepth 100000

def digB (c : UInt8) : Bool := decide (48 ≤ c.toNat) && decide (c.toNat ≤ 57)
def letB (c : UInt8) : Bool := (decide (65 ≤ c.toNat) && decide (c.toNat ≤ 90)) || (decide (97 ≤ c.toNat) && decide (c.toNat ≤ 122))
def nmB (c : UInt8) : Bool := letB c || digB c || decide (c.toNat = 95)
def blB (c : UInt8) : Bool := decide (c.toNat = 32) || decide (c.toNat = 9) || decide (c.toNat = 13) || decide (c.toNat = 10)
def ilB (c : UInt8) : Bool := !decide (c.toNat = 10)

theorem ret_bool {a b : Bool} (h : a = b) : Ending.returned (.bool a) = .returned (.bool b) := by rw [h]
/-- A function that tells a kind of byte. -/
def TellsB (g : Nat) (p : UInt8 → Bool) : Prop := ∀ (c : UInt8) (w : World), Calls Try.prog g #[.int .u8 (c.toNat : Int)] w fun e w' => e = .returned (.bool (p c)) ∧ w' = w

theorem isLetter_any : TellsB 69 letB := by
  intro c w
  have hn : c.toNat < 256 := c.toNat_lt
  unfold letB
  generalize c.toNat = n at *
  by_cases h1 : 65 ≤ n <;> by_cases h2 : n ≤ 90 <;> by_cases h3 : 97 ≤ n <;> by_cases h4 : n ≤ 122
  all_goals first
    | omega
    | (go_enter Try.func69, Try.ntmps69
       go_wp2
       go_ret
       exact ⟨ret_bool (by simp [h1, h2, h3, h4] <;> omega), rfl⟩)
theorem isDigit_any : TellsB 72 digB := by
  intro c w
  have hn : c.toNat < 256 := c.toNat_lt
  unfold digB
  generalize c.toNat = n at *
  by_cases h1 : 48 ≤ n <;> by_cases h2 : n ≤ 57
  all_goals first
    | omega
    | (go_enter Try.func72, Try.ntmps72
       go_wp2
       go_ret
       exact ⟨ret_bool (by simp [h1, h2] <;> omega), rfl⟩)
theorem isInName_any : TellsB 71 nmB := by
  intro c w
  have h1 := isLetter_any c
  have h2 := isDigit_any c
  have hn : c.toNat < 256 := c.toNat_lt
  unfold nmB
  generalize letB c = x at *
  generalize digB c = y at *
  generalize c.toNat = n at *
  cases x with
  | true =>
    go_enter Try.func71, Try.ntmps71
    go_wp2_with (go_at_call 69; refine (h1 _).mono ?_; rintro e w' ⟨rfl, rfl⟩)
    go_ret
    exact ⟨rfl, rfl⟩
  | false =>
    cases y with
    | true =>
      go_enter Try.func71, Try.ntmps71
      go_wp2_with (first | (go_at_call 69; refine (h1 _).mono ?_; rintro e w' ⟨rfl, rfl⟩) | (go_at_call 72; refine (h2 _).mono ?_; rintro e w' ⟨rfl, rfl⟩))
      go_ret
      exact ⟨rfl, rfl⟩
    | false =>
      by_cases h3 : n = 95
      · subst h3
        go_enter Try.func71, Try.ntmps71
        go_wp2_with (first | (go_at_call 69; refine (h1 _).mono ?_; rintro e w' ⟨rfl, rfl⟩) | (go_at_call 72; refine (h2 _).mono ?_; rintro e w' ⟨rfl, rfl⟩))
        go_ret
        exact ⟨rfl, rfl⟩
      · have k1 : ((n : Int) == 95) = false := by simp; omega
        have HR : Hid ((false || false || decide (n = 95)) = false) := by simp [Hid, h3]
        clear h3
        go_enter Try.func71, Try.ntmps71
        go_wp2_with (first | (go_at_call 69; refine (h1 _).mono ?_; rintro e w' ⟨rfl, rfl⟩) | (go_at_call 72; refine (h2 _).mono ?_; rintro e w' ⟨rfl, rfl⟩))
        go_ret
        exact ⟨ret_bool HR.out.symm, rfl⟩

/-- How many bytes at the beginning are of a kind. -/
def runL (p : UInt8 → Bool) : List UInt8 → Nat
  | [] => 0
  | c :: l => if p c then runL p l + 1 else 0
theorem runL_le (p : UInt8 → Bool) (l : List UInt8) : runL p l ≤ l.length := by
  induction l with
  | nil => simp [runL]
  | cons c l ih => simp only [runL]; split <;> simp <;> omega
theorem runL_take (p : UInt8 → Bool) (l : List UInt8) (k : Nat) (hk : k ≤ l.length) (h : (l.take k).all p = true) : runL p l = k + runL p (l.drop k) := by
  induction l generalizing k with
  | nil => simp at hk; subst hk; simp [runL]
  | cons c l ih =>
    cases k with
    | zero => simp
    | succ k =>
      simp only [List.take_succ_cons, List.all_cons, Bool.and_eq_true] at h
      simp only [runL, h.1, if_true, List.drop_succ_cons]
      rw [ih k (by simpa using hk) h.2]; omega
theorem runL_drop_no (p : UInt8 → Bool) (l : List UInt8) (k : Nat) (hk : k < l.length) (h : p (l.getD k 0) = false) : runL p (l.drop k) = 0 := by
  rw [List.drop_eq_getElem_cons hk]
  simp only [List.getD_eq_getElem?_getD, List.getElem?_eq_getElem hk, Option.getD_some] at h
  simp [runL, h]

theorem getD_at (s : ByteArray) (k : Nat) (h : k < s.size) : s.data.toList.getD k 0 = s[k] := by
  rw [List.getD_eq_getElem?_getD, List.getElem?_eq_getElem (by simpa using h)]; rfl
theorem take_succ_all (p : UInt8 → Bool) (s : ByteArray) (k : Nat) (h : k < s.size) : (s.data.toList.take (k + 1)).all p = ((s.data.toList.take k).all p && p (s[k])) := by
  rw [List.take_succ_eq_append_getElem (by simpa using h), List.all_append]; simp; rfl
set_option maxHeartbeats 400000 in
theorem run_nm (s : ByteArray) (w : World) (hs : s.size ≤ 9223372036854775807) :
    Calls Try.prog 70 #[.string s, .func (.func 71) #[] #[]] w fun e w' => e = .returned (.int .i64 (runL nmB s.data.toList)) ∧ w' = w := by
  have hsz : Hid (s.data.toList.length = s.size) := by simp [Hid]
  go_enter Try.func70, Try.ntmps70
  go_wp2
  go_loop [5] (fun i => ∃ k : Nat, k ≤ s.size ∧ i = .int .i64 k ∧ (s.data.toList.take k).all nmB = true) (fun i => s.size - (intOf i).toNat)
  case atStart => exact ⟨0, Nat.zero_le _, rfl, rfl⟩
  case round =>
    obtain ⟨k, hk, rfl, hall⟩ := hrel
    have HL : Hid ((s.data.toList.take k).all nmB = true) := hall
    clear hall
    by_cases hlt : k < s.size
    · have HN : Hid ((s.data.toList.take (k + 1)).all nmB = ((s.data.toList.take k).all nmB && nmB (s[k]))) := take_succ_all nmB s k hlt
      have HF : Hid (nmB (s[k]) = false → runL nmB s.data.toList = k) := by
        intro h
        rw [runL_take nmB _ k (by rw [hsz.out]; omega) HL.out, runL_drop_no nmB _ k (by rw [hsz.out]; omega) (by rw [getD_at s k hlt]; exact h)]; rfl
      have hc := isInName_any s[k]
      cases hx : nmB s[k] with
      | true =>
        rw [hx] at hc
        have HX : Hid (nmB s[k] = true) := hx
        clear hx
        go_wp2_with (go_at_call 71; refine (hc _).mono ?_; rintro e w' ⟨rfl, rfl⟩)
        go_round
        case rel => exact ⟨k + 1, by omega, by go_num, by rw [HN.out, HL.out, HX.out]; rfl⟩
        case measure => simp [intOf]; omega
      | false =>
        rw [hx] at hc
        have HX : Hid (nmB s[k] = false) := hx
        clear hx
        go_wp2_with (go_at_call 71; refine (hc _).mono ?_; rintro e w' ⟨rfl, rfl⟩)
        go_ret
        exact ⟨ret_int (by rw [HF.out HX.out]), rfl⟩
    · have hkk : k = s.size := by omega
      have HE : Hid (runL nmB s.data.toList = k) := by
        show _ = _
        rw [runL_take nmB _ k (by rw [hsz.out]; omega) HL.out, List.drop_of_length_le (by rw [hsz.out]; omega)]; simp [runL]
      clear hkk
      go_wp2
      go_ret
      exact ⟨ret_int (by rw [HE.out]), rfl⟩
/-- Bytes as a string. -/
def strL (l : List UInt8) : ByteArray := ⟨l.toArray⟩
theorem strL_toList (l : List UInt8) : (strL l).data.toList = l := by simp [strL]
theorem strL_size (l : List UInt8) : (strL l).size = l.length := by simp [strL, ByteArray.size]
theorem strL_of (s : ByteArray) : strL s.data.toList = s := by simp [strL]
theorem strL_from (l : List UInt8) (k : Nat) : (strL l).extract k (strL l).size = strL (l.drop k) := by
  apply ByteArray.ext; rw [ByteArray.data_extract, strL_size]; apply Array.ext'; simp [strL]; exact List.take_of_length_le (by simp)
theorem strL_to (l : List UInt8) (k : Nat) : (strL l).extract 0 k = strL (l.take k) := by
  apply ByteArray.ext; rw [ByteArray.data_extract]; apply Array.ext'; simp [strL]
theorem strL_at (l : List UInt8) (k : Nat) (h : k < l.length) : (strL l)[k]'(by rw [strL_size]; exact h) = l[k] := by
  simp [strL, ByteArray.getElem_eq_getElem_data]

theorem bytes_toList (s : ByteArray) : s.toList = s.data.toList := ByteArray.toList_eq s
/-- The name at the beginning. -/
def nameL (l : List UInt8) : Nat := if letB (l.getD 0 0) then runL nmB l else 0
def isNameL (l : List UInt8) : Bool := decide (0 < nameL l) && decide (nameL l = l.length) && decide (nameL l ≤ 24)
theorem nameL_le (l : List UInt8) : nameL l ≤ l.length := by unfold nameL; split; exact runL_le _ _; omega
theorem letB_zero : letB 0 = false := by decide
set_option maxHeartbeats 400000 in
theorem nameSize_any (l : List UInt8) (w : World) (hs : l.length ≤ 9223372036854775807) :
    Calls Try.prog 68 #[.string (strL l)] w fun e w' => e = .returned (.int .i64 (nameL l)) ∧ w' = w := by
  cases l with
  | nil =>
    have HN : Hid (nameL [] = 0) := by simp [Hid, nameL, letB_zero]
    have hb2 : strL [] = ⟨#[]⟩ := rfl
    rw [hb2]
    go_enter Try.func68, Try.ntmps68
    go_wp2
    go_ret
    exact ⟨ret_int (by rw [HN.out]; rfl), rfl⟩
  | cons c l =>
    have hsz : (strL (c :: l)).size = l.length + 1 := by rw [strL_size]; rfl
    have h0 : 0 < (strL (c :: l)).size := by omega
    have hat : (strL (c :: l))[0] = c := strL_at (c :: l) 0 (by simp)
    have hrun := run_nm (strL (c :: l))
    rw [strL_toList] at hrun
    have hle : (strL (c :: l)).size ≤ 9223372036854775807 := by rw [strL_size]; exact hs
    have hne : ¬ (strL (c :: l)).toList = [] := by
      rw [bytes_toList, strL_toList]; simp
    have hne2 : (strL (c :: l)).toList.isEmpty = false := by
      rw [bytes_toList, strL_toList]; rfl
    have hc := isLetter_any c
    rw [← hat] at hc
    have HN : Hid (nameL (c :: l) = if letB (strL (c :: l))[0] then runL nmB (c :: l) else 0) := by simp only [Hid, nameL]; rw [hat]; rfl
    clear hat hsz
    generalize strL (c :: l) = s at *
    generalize runL nmB (c :: l) = r at *
    cases hx : letB s[0] with
    | true =>
      rw [hx] at hc HN
      clear hx
      go_enter Try.func68, Try.ntmps68
      go_wp2_with (first | (go_at_call 69; refine (hc _).mono ?_; rintro e w' ⟨rfl, rfl⟩) | (go_at_call 70; refine (hrun _ hle).mono ?_; rintro e w' ⟨rfl, rfl⟩))
      go_ret
      exact ⟨ret_int (by rw [HN.out]; rfl), rfl⟩
    | false =>
      rw [hx] at hc HN
      clear hx
      go_enter Try.func68, Try.ntmps68
      go_wp2_with (first | (go_at_call 69; refine (hc _).mono ?_; rintro e w' ⟨rfl, rfl⟩) | (go_at_call 70; refine (hrun _ hle).mono ?_; rintro e w' ⟨rfl, rfl⟩))
      go_ret
      exact ⟨ret_int (by rw [HN.out]; rfl), rfl⟩

set_option maxHeartbeats 400000 in
theorem isName_any (l : List UInt8) (w : World) (hs : l.length ≤ 9223372036854775807) :
    Calls Try.prog 66 #[.string (strL l)] w fun e w' => e = .returned (.bool (isNameL l)) ∧ w' = w := by
  have h1 := nameSize_any l
  have hsz : (strL l).size = l.length := strL_size l
  have HN : Hid (isNameL l = (decide (0 < nameL l) && decide (nameL l = l.length) && decide (nameL l ≤ 24))) := rfl
  generalize strL l = s at *
  have hle := nameL_le l
  generalize nameL l = n at *
  rw [← hsz] at HN hle
  have hss : s.size ≤ 9223372036854775807 := by omega
  by_cases c1 : 0 < n
  · by_cases c2 : n = s.size
    · by_cases c3 : n ≤ 24
      · have HR : Hid (isNameL l = true) := by show _ = _; rw [HN.out]; simp [c1, c3]; exact c2
        have k3 : decide ((n : Int) ≤ 24) = true := by simp; omega
        have k2 : ((n : Int) == (s.size : Int)) = true := by simp; omega
        clear HN hsz c2 c3
        go_enter Try.func66, Try.ntmps66
        go_wp2_with (go_at_call 68; refine (h1 _ hs).mono ?_; rintro e w' ⟨rfl, rfl⟩)
        go_ret
        exact ⟨ret_bool HR.out.symm, rfl⟩
      · have HR : Hid (isNameL l = false) := by show _ = _; rw [HN.out]; simp [c3]
        have k3 : decide ((n : Int) ≤ 24) = false := by simp; omega
        have k2 : ((n : Int) == (s.size : Int)) = true := by simp; omega
        clear HN hsz c2 c3
        go_enter Try.func66, Try.ntmps66
        go_wp2_with (go_at_call 68; refine (h1 _ hs).mono ?_; rintro e w' ⟨rfl, rfl⟩)
        go_ret
        exact ⟨ret_bool HR.out.symm, rfl⟩
    · have HR : Hid (isNameL l = false) := by show _ = _; rw [HN.out]; simp [c2]
      have k2 : ((n : Int) == (s.size : Int)) = false := by simp; omega
      clear HN hsz c2
      go_enter Try.func66, Try.ntmps66
      go_wp2_with (go_at_call 68; refine (h1 _ hs).mono ?_; rintro e w' ⟨rfl, rfl⟩)
      go_ret
      exact ⟨ret_bool HR.out.symm, rfl⟩
  · have HR : Hid (isNameL l = false) := by show _ = _; rw [HN.out]; simp [c1]
    clear HN hsz
    go_enter Try.func66, Try.ntmps66
    go_wp2_with (go_at_call 68; refine (h1 _ hs).mono ?_; rintro e w' ⟨rfl, rfl⟩)
    go_ret
    exact ⟨ret_bool HR.out.symm, rfl⟩
end Go.Proofs.Ytipbjoeekbgnbaa
