/- The contracts of lex's sizes of words: nameSize, idleSize, numberSize, and IsName. Conditions: a text of at most 1000000 bytes. -/
import Derived.Test.YtkkgfbhngoijaaaDoorLxA
import Derived.Test.YtkkgfbhngoijaaaDoorParse
import Derived.Test.YtkkgfbhngoijaaaDoorShelf
namespace Go.Proofs.YtkkgfbhngoijaaaDoor
open Go.RowKit
set_option linter.unusedVariables false
set_option maxRecDepth 100000

/-- Bytes as a string. -/
def strL (l : List UInt8) : ByteArray := ⟨l.toArray⟩
theorem strL_toList (l : List UInt8) : (strL l).data.toList = l := by simp [strL]
theorem strL_size (l : List UInt8) : (strL l).size = l.length := by simp [strL, ByteArray.size]
theorem strL_of (s : ByteArray) : strL s.data.toList = s := by simp [strL]
theorem strL_from (l : List UInt8) (k : Nat) : (strL l).extract k (strL l).size = strL (l.drop k) := by
  apply ByteArray.ext; rw [ByteArray.data_extract, strL_size]; apply Array.ext'; simp [strL]; exact List.take_of_length_le (by simp)
theorem strL_to (l : List UInt8) (k : Nat) : (strL l).extract 0 k = strL (l.take k) := by
  apply ByteArray.ext; rw [ByteArray.data_extract]; apply Array.ext'; simp [strL]
theorem strL_at (l : List UInt8) (k : Nat) (h : k < l.length) : (strL l)[k]'(by rw [strL_size]; exact h) = l[k] := by
  simp [strL, ByteArray.getElem_eq_getElem_data]

theorem bytes_toList (s : ByteArray) : s.toList = s.data.toList := ByteArray.toList_eq s
/-- The name at the beginning. -/
def nameL (l : List UInt8) : Nat := if letB (l.getD 0 0) then runL nmB l else 0
def idleL (l : List UInt8) : Nat := if Lib.hasPrefix l [35] then runL ilB l else runL blB l
def numberL (l : List UInt8) : Nat :=
  if runL digB l = 0 then 0
  else if Lib.hasPrefix (l.drop (runL digB l)) [46] = false ∨ runL digB (Lib.trimPrefix (l.drop (runL digB l)) [46]) = 0 then runL digB l
  else runL digB l + 1 + runL digB (Lib.trimPrefix (l.drop (runL digB l)) [46])
def isNameL (l : List UInt8) : Bool := decide (0 < nameL l) && decide (nameL l = l.length) && decide (nameL l ≤ 24)
theorem nameL_le (l : List UInt8) : nameL l ≤ l.length := by unfold nameL; split; exact runL_le _ _; omega
theorem idleL_le (l : List UInt8) : idleL l ≤ l.length := by unfold idleL; split <;> exact runL_le _ _
theorem numberL_le (l : List UInt8) : numberL l ≤ l.length := by
  unfold numberL
  have h1 := runL_le digB l
  split
  · omega
  · split
    · omega
    · rename_i h2
      have h3 := runL_le digB (Lib.trimPrefix (l.drop (runL digB l)) [46])
      have h4 : (Lib.trimPrefix (l.drop (runL digB l)) [46]).length + 1 ≤ (l.drop (runL digB l)).length := by
        have h5 : Lib.hasPrefix (l.drop (runL digB l)) [46] = true := by
          cases h : Lib.hasPrefix (l.drop (runL digB l)) [46] with
          | true => rfl
          | false => exact absurd (Or.inl h) h2
        have h6 : 1 ≤ (l.drop (runL digB l)).length := by
          cases hd : l.drop (runL digB l) with
          | nil => rw [hd] at h5; simp [Lib.hasPrefix] at h5
          | cons c t => simp
        unfold Lib.trimPrefix
        rw [if_pos h5]
        simp only [List.length_drop] at *
        simp; omega
      simp only [List.length_drop] at h4
      omega

theorem letB_zero : letB 0 = false := by decide
set_option maxHeartbeats 400000 in
theorem nameSize_any (l : List UInt8) (w : World) (hs : l.length ≤ 1000000) :
    Calls Tryd.prog 11 #[.string (strL l)] w fun e w' => e = .returned (.int .i64 (nameL l)) ∧ w' = w := by
  cases l with
  | nil =>
    have HN : Hid (nameL [] = 0) := by simp [Hid, nameL, letB_zero]
    have hb2 : strL [] = ⟨#[]⟩ := rfl
    rw [hb2]
    go_enter Tryd.func11, Tryd.ntmps11
    go_wp2
    go_ret
    exact ⟨ret_int (by rw [HN.out]; rfl), rfl⟩
  | cons c l =>
    have hsz : (strL (c :: l)).size = l.length + 1 := by rw [strL_size]; rfl
    have h0 : 0 < (strL (c :: l)).size := by omega
    have hat : (strL (c :: l))[0] = c := strL_at (c :: l) 0 (by simp)
    have hrun := run_nm (strL (c :: l))
    rw [strL_toList] at hrun
    have hle : (strL (c :: l)).size ≤ 1000000 := by rw [strL_size]; exact hs
    have hne : ¬ (strL (c :: l)).toList = [] := by
      rw [bytes_toList, strL_toList]; simp
    have hne2 : (strL (c :: l)).toList.isEmpty = false := by
      rw [bytes_toList, strL_toList]; rfl
    have hc := isLetter_any c
    rw [← hat] at hc
    have HN : Hid (nameL (c :: l) = if letB (strL (c :: l))[0] then runL nmB (c :: l) else 0) := by simp only [Hid, nameL]; rw [hat]; rfl
    clear hat hsz
    generalize strL (c :: l) = s at *
    generalize runL nmB (c :: l) = r at *
    cases hx : letB s[0] with
    | true =>
      rw [hx] at hc HN
      clear hx
      go_enter Tryd.func11, Tryd.ntmps11
      go_wp2_with (first | (go_at_call 17; refine (hc _).mono ?_; rintro e w' ⟨rfl, rfl⟩) | (go_at_call 18; refine (hrun _ hle).mono ?_; rintro e w' ⟨rfl, rfl⟩))
      go_ret
      exact ⟨ret_int (by rw [HN.out]; rfl), rfl⟩
    | false =>
      rw [hx] at hc HN
      clear hx
      go_enter Tryd.func11, Tryd.ntmps11
      go_wp2_with (first | (go_at_call 17; refine (hc _).mono ?_; rintro e w' ⟨rfl, rfl⟩) | (go_at_call 18; refine (hrun _ hle).mono ?_; rintro e w' ⟨rfl, rfl⟩))
      go_ret
      exact ⟨ret_int (by rw [HN.out]; rfl), rfl⟩

set_option maxHeartbeats 400000 in
theorem idleSize_any (l : List UInt8) (w : World) (hs : l.length ≤ 1000000) :
    Calls Tryd.prog 12 #[.string (strL l)] w fun e w' => e = .returned (.int .i64 (idleL l)) ∧ w' = w := by
  have h1 := Tryd.strings_HasPrefix (strL l) ⟨#[35]⟩
  have h2 := run_il (strL l)
  have h3 := run_bl (strL l)
  rw [strL_toList] at h1 h2 h3
  have hle : (strL l).size ≤ 1000000 := by rw [strL_size]; exact hs
  have HN : Hid (idleL l = if Lib.hasPrefix l [35] then runL ilB l else runL blB l) := rfl
  generalize strL l = s at *
  have e1 : (⟨#[35]⟩ : ByteArray).data.toList = [35] := rfl
  rw [e1] at h1
  generalize runL ilB l = r1 at *
  generalize runL blB l = r2 at *
  cases hx : Lib.hasPrefix l [35] with
  | true =>
    rw [hx] at h1 HN
    clear hx
    go_enter Tryd.func12, Tryd.ntmps12
    go_wp2_with (first | (go_at_call 20; refine (h1 _).mono ?_; rintro e w' ⟨rfl, rfl⟩) | (go_at_call 18; refine (h2 _ hle).mono ?_; rintro e w' ⟨rfl, rfl⟩))
    go_ret
    exact ⟨ret_int (by rw [HN.out]; rfl), rfl⟩
  | false =>
    rw [hx] at h1 HN
    clear hx
    go_enter Tryd.func12, Tryd.ntmps12
    go_wp2_with (first | (go_at_call 20; refine (h1 _).mono ?_; rintro e w' ⟨rfl, rfl⟩) | (go_at_call 18; refine (h3 _ hle).mono ?_; rintro e w' ⟨rfl, rfl⟩))
    go_ret
    exact ⟨ret_int (by rw [HN.out]; rfl), rfl⟩

set_option maxHeartbeats 400000 in
theorem numberSize_any (l : List UInt8) (w : World) (hs : l.length ≤ 1000000) :
    Calls Tryd.prog 24 #[.string (strL l)] w fun e w' => e = .returned (.int .i64 (numberL l)) ∧ w' = w := by
  have h1 := run_dg (strL l)
  rw [strL_toList] at h1
  have hle : (strL l).size ≤ 1000000 := by rw [strL_size]; exact hs
  have hrl := runL_le digB l
  by_cases h0 : runL digB l = 0
  · have HN : Hid (numberL l = 0) := by simp only [Hid, numberL]; rw [if_pos h0]
    rw [h0] at h1
    clear h0 hrl
    generalize strL l = s at *
    go_enter Tryd.func24, Tryd.ntmps24
    go_wp2_with (go_at_call 18; refine (h1 _ hle).mono ?_; rintro e w' ⟨rfl, rfl⟩)
    go_ret
    exact ⟨ret_int (by rw [HN.out]; rfl), rfl⟩
  · have h2 := Tryd.strings_CutPrefix (strL (l.drop (runL digB l))) ⟨#[46]⟩
    have e1 : (⟨#[46]⟩ : ByteArray).data.toList = [46] := rfl
    rw [strL_toList, e1] at h2
    have h3 := run_dg (strL (Lib.trimPrefix (l.drop (runL digB l)) [46]))
    rw [strL_toList] at h3
    have hle3 : (strL (Lib.trimPrefix (l.drop (runL digB l)) [46])).size ≤ 1000000 := by
      rw [strL_size]; have := trimPrefix_len (l.drop (runL digB l)) [46]; simp only [List.length_drop] at this; omega
    have hsl : ∀ W, (Instr.slice 9 (.string (strL l)) (some (.int .i64 (runL digB l : Int))) none none).run Tryd.prog W = .ok (.string (strL (l.drop (runL digB l)))) W := by
      intro W
      have := run_slice_string_l (P := Tryd.prog) W 9 (strL l) Tryd.underlying9 .i64 (runL digB l : Int) (by omega) (by rw [strL_size]; omega)
      rw [this, Int.toNat_natCast, strL_from]
    have hr3 := runL_le digB (Lib.trimPrefix (l.drop (runL digB l)) [46])
    have ht3 := trimPrefix_len (l.drop (runL digB l)) [46]
    simp only [List.length_drop] at ht3
    have HN : Hid (numberL l = if Lib.hasPrefix (l.drop (runL digB l)) [46] = false ∨ runL digB (Lib.trimPrefix (l.drop (runL digB l)) [46]) = 0 then runL digB l
        else runL digB l + 1 + runL digB (Lib.trimPrefix (l.drop (runL digB l)) [46])) := by simp only [Hid, numberL]; rw [if_neg h0]
    have hb2 : ∀ W, Calls Tryd.prog 30 #[.string (strL (l.drop (runL digB l))), .string ⟨#[46]⟩] W fun e w' => e = .returned (.tuple #[.string (strL (Lib.trimPrefix (l.drop (runL digB l)) [46])), .bool (Lib.hasPrefix (l.drop (runL digB l)) [46])]) ∧ w' = W := h2
    clear h2
    generalize strL (Lib.trimPrefix (l.drop (runL digB l)) [46]) = s3 at *
    generalize runL digB (Lib.trimPrefix (l.drop (runL digB l)) [46]) = r3 at *
    generalize (Lib.trimPrefix (l.drop (runL digB l)) [46]).length = q3 at *
    generalize Lib.hasPrefix (l.drop (runL digB l)) [46] = pt at *
    generalize strL (l.drop (runL digB l)) = s2 at *
    generalize strL l = s at *
    generalize runL digB l = r at *
    have hr0 : ((r : Int) == 0) = false := by simp; omega
    clear h0
    cases pt with
    | false =>
      have HN2 : Hid (numberL l = r) := by show _ = _; rw [HN.out, if_pos (Or.inl rfl)]
      clear HN
      go_enter Tryd.func24, Tryd.ntmps24
      go_wp2_with fail
      refine Calls.mono (h1 _ hle) ?_
      rintro e w1 ⟨rfl, rfl⟩
      go_wp2_with fail
      refine Calls.mono (hb2 _) ?_
      rintro e w1 ⟨rfl, rfl⟩
      go_wp2_with fail
      refine Calls.mono (h3 _ hle3) ?_
      rintro e w1 ⟨rfl, rfl⟩
      go_wp2
      go_ret
      exact ⟨ret_int (by rw [HN2.out]), rfl⟩
    | true =>
      by_cases h30 : r3 = 0
      · subst h30
        have HN2 : Hid (numberL l = r) := by show _ = _; rw [HN.out, if_pos (Or.inr rfl)]
        clear HN
        go_enter Tryd.func24, Tryd.ntmps24
        go_wp2_with fail
        refine Calls.mono (h1 _ hle) ?_
        rintro e w1 ⟨rfl, rfl⟩
        go_wp2_with fail
        refine Calls.mono (hb2 _) ?_
        rintro e w1 ⟨rfl, rfl⟩
        go_wp2_with fail
        refine Calls.mono (h3 _ hle3) ?_
        rintro e w1 ⟨rfl, rfl⟩
        go_wp2
        go_ret
        exact ⟨ret_int (by rw [HN2.out]), rfl⟩
      · have HN2 : Hid (numberL l = r + 1 + r3) := by show _ = _; rw [HN.out, if_neg (by simp; exact h30)]
        clear HN
        have hk3 : ((r3 : Int) == 0) = false := by simp; omega
        clear h30
        go_enter Tryd.func24, Tryd.ntmps24
        go_wp2_with fail
        refine Calls.mono (h1 _ hle) ?_
        rintro e w1 ⟨rfl, rfl⟩
        go_wp2_with fail
        refine Calls.mono (hb2 _) ?_
        rintro e w1 ⟨rfl, rfl⟩
        go_wp2_with fail
        refine Calls.mono (h3 _ hle3) ?_
        rintro e w1 ⟨rfl, rfl⟩
        go_wp2
        go_ret
        exact ⟨ret_int (by rw [HN2.out]; omega), rfl⟩

set_option maxHeartbeats 400000 in
theorem isName_any (l : List UInt8) (w : World) (hs : l.length ≤ 1000000) :
    Calls Tryd.prog 8 #[.string (strL l)] w fun e w' => e = .returned (.bool (isNameL l)) ∧ w' = w := by
  have h1 := nameSize_any l
  have hsz : (strL l).size = l.length := strL_size l
  have HN : Hid (isNameL l = (decide (0 < nameL l) && decide (nameL l = l.length) && decide (nameL l ≤ 24))) := rfl
  generalize strL l = s at *
  have hle := nameL_le l
  generalize nameL l = n at *
  rw [← hsz] at HN hle
  have hss : s.size ≤ 1000000 := by omega
  by_cases c1 : 0 < n
  · by_cases c2 : n = s.size
    · by_cases c3 : n ≤ 24
      · have HR : Hid (isNameL l = true) := by show _ = _; rw [HN.out]; simp [c1, c3]; exact c2
        have k3 : decide ((n : Int) ≤ 24) = true := by simp; omega
        have k2 : ((n : Int) == (s.size : Int)) = true := by simp; omega
        clear HN hsz c2 c3
        go_enter Tryd.func8, Tryd.ntmps8
        go_wp2_with (go_at_call 11; refine (h1 _ hs).mono ?_; rintro e w' ⟨rfl, rfl⟩)
        go_ret
        exact ⟨ret_bool HR.out.symm, rfl⟩
      · have HR : Hid (isNameL l = false) := by show _ = _; rw [HN.out]; simp [c3]
        have k3 : decide ((n : Int) ≤ 24) = false := by simp; omega
        have k2 : ((n : Int) == (s.size : Int)) = true := by simp; omega
        clear HN hsz c2 c3
        go_enter Tryd.func8, Tryd.ntmps8
        go_wp2_with (go_at_call 11; refine (h1 _ hs).mono ?_; rintro e w' ⟨rfl, rfl⟩)
        go_ret
        exact ⟨ret_bool HR.out.symm, rfl⟩
    · have HR : Hid (isNameL l = false) := by show _ = _; rw [HN.out]; simp [c2]
      have k2 : ((n : Int) == (s.size : Int)) = false := by simp; omega
      clear HN hsz c2
      go_enter Tryd.func8, Tryd.ntmps8
      go_wp2_with (go_at_call 11; refine (h1 _ hs).mono ?_; rintro e w' ⟨rfl, rfl⟩)
      go_ret
      exact ⟨ret_bool HR.out.symm, rfl⟩
  · have HR : Hid (isNameL l = false) := by show _ = _; rw [HN.out]; simp [c1]
    clear HN hsz
    go_enter Tryd.func8, Tryd.ntmps8
    go_wp2_with (go_at_call 11; refine (h1 _ hs).mono ?_; rintro e w' ⟨rfl, rfl⟩)
    go_ret
    exact ⟨ret_bool HR.out.symm, rfl⟩
end Go.Proofs.YtkkgfbhngoijaaaDoor
