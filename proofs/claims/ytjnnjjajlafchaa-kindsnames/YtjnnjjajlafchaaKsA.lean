/- The contracts of the document's own IsName, Find, Names, and of the book's SameSignals. Conditions: a text's own length; at most 1000 signals. -/
import Derived.Test.YtjnnjjajlafchaaKnO
namespace Go.Proofs.Ytjnnjjajlafchaa
open Go.RowKit
set_option linter.unusedVariables false
set_option maxRecDepth 100000

theorem zletter_any : TellsB 42 letB := by
  intro c w
  have hn : c.toNat < 256 := c.toNat_lt
  unfold letB
  generalize c.toNat = n at *
  by_cases h3 : 97 ≤ n <;> by_cases h4 : n ≤ 122 <;> by_cases h1 : 65 ≤ n <;> by_cases h2 : n ≤ 90
  all_goals first
    | omega
    | (go_enter Try.func42, Try.ntmps42
       go_wp2
       go_ret
       exact ⟨ret_bool (by simp [h1, h2, h3, h4] <;> omega), rfl⟩)
theorem zdigit_any : TellsB 43 digB := by
  intro c w
  have hn : c.toNat < 256 := c.toNat_lt
  unfold digB
  generalize c.toNat = n at *
  by_cases h1 : 48 ≤ n <;> by_cases h2 : n ≤ 57
  all_goals first
    | omega
    | (go_enter Try.func43, Try.ntmps43
       go_wp2
       go_ret
       exact ⟨ret_bool (by simp [h1, h2] <;> omega), rfl⟩)
theorem runL_all (p : UInt8 → Bool) (l : List UInt8) : (runL p l = l.length) ↔ l.all p = true := by
  induction l with
  | nil => simp [runL]
  | cons c l ih =>
    simp only [runL, List.all_cons, List.length_cons]
    cases h : p c with
    | true => simp only [if_true, Bool.true_and]; rw [← ih]; omega
    | false => simp
theorem isNameL_of (l : List UInt8) : isNameL l = (decide (1 ≤ l.length) && decide (l.length ≤ 24) && letB (l.getD 0 0) && (l.drop 1).all nmB) := by
  cases l with
  | nil => rfl
  | cons c t =>
    have h0 : (c :: t).getD 0 0 = c := rfl
    unfold isNameL nameL
    rw [h0]
    cases hc : letB c with
    | false => simp
    | true =>
      have hnm : nmB c = true := by unfold nmB; rw [hc]; rfl
      have hr : runL nmB (c :: t) = runL nmB t + 1 := by simp [runL, hnm]
      have hall := runL_all nmB t
      have hle := runL_le nmB t
      simp only [if_true, hr, List.length_cons, List.drop_succ_cons, List.drop_zero, Bool.and_true]
      cases ha : t.all nmB with
      | true =>
        have := hall.2 ha
        by_cases h24 : t.length + 1 ≤ 24
        · simp [this, h24]
        · simp [this, h24]
      | false =>
        have hne : runL nmB t ≠ t.length := fun e => by rw [hall.1 e] at ha; cases ha
        simp [hne]
theorem allB_take (s : ByteArray) (k : Nat) (h1 : 1 ≤ k) (h : k < s.size) : ((s.data.toList.drop 1).take (k + 1 - 1)).all nmB = (((s.data.toList.drop 1).take (k - 1)).all nmB && nmB (s[k])) := by
  have hk : k + 1 - 1 = (k - 1) + 1 := by omega
  have hl : k - 1 < (s.data.toList.drop 1).length := by rw [List.length_drop]; simp; omega
  rw [hk, List.take_succ_eq_append_getElem hl, List.all_append]
  have e : (s.data.toList.drop 1)[k - 1]'hl = s[k] := by
    rw [List.getElem_drop]
    simp only [show 1 + (k - 1) = k by omega]
    rfl
  rw [e]; simp
theorem allB_bad (s : ByteArray) (k : Nat) (h1 : 1 ≤ k) (h : k < s.size) (hb : nmB (s[k]) = false) : (s.data.toList.drop 1).all nmB = false := by
  rw [List.all_eq_false]
  have hl : k - 1 < (s.data.toList.drop 1).length := by rw [List.length_drop]; simp; omega
  refine ⟨(s.data.toList.drop 1)[k - 1]'hl, List.getElem_mem hl, ?_⟩
  have e : (s.data.toList.drop 1)[k - 1]'hl = s[k] := by
    rw [List.getElem_drop]
    simp only [show 1 + (k - 1) = k by omega]
    rfl
  rw [e, hb]; simp
set_option maxHeartbeats 2000000 in
theorem zIsName_any (s : ByteArray) (w : World) (hs : s.size ≤ 9223372036854775807) :
    Calls Try.prog 24 #[.string s] w fun e w' => e = .returned (.bool (isNameB s)) ∧ w' = w := by
  have HM : Hid (isNameB s = (decide (1 ≤ s.size) && decide (s.size ≤ 24) && letB (s.data.toList.getD 0 0) && (s.data.toList.drop 1).all nmB)) := by
    simp only [Hid, isNameB]; rw [isNameL_of]; simp
  by_cases h1 : 1 ≤ s.size
  · by_cases h2 : s.size ≤ 24
    · have h0 : 0 < s.size := by omega
      have hat : s.data.toList.getD 0 0 = s[0] := getD_at s 0 h0
      have hc := zletter_any (s[0])
      have HM2 : Hid (isNameB s = (letB (s[0]) && (s.data.toList.drop 1).all nmB)) := by show _ = _; rw [HM.out, hat]; simp [h1, h2]
      have k1 : ¬ (s.size : Int) < 1 := by omega
      have k2 : ¬ (24 : Int) < (s.size : Int) := by omega
      clear HM hat h1
      cases hx : letB s[0] with
      | false =>
        rw [hx] at hc HM2
        clear hx
        go_enter Try.func24, Try.ntmps24
        go_wp2_with (go_at_call 42; refine (hc _).mono ?_; rintro e w' ⟨rfl, hw9⟩; subst w')
        go_ret
        exact ⟨ret_bool (by rw [HM2.out]; rfl), rfl⟩
      | true =>
        rw [hx] at hc HM2
        have HM3 : Hid (isNameB s = (s.data.toList.drop 1).all nmB) := by show _ = _; rw [HM2.out]; rfl
        clear hx HM2
        go_enter Try.func24, Try.ntmps24
        go_wp2_with (go_at_call 42; refine (hc _).mono ?_; rintro e w' ⟨rfl, hw9⟩; subst w')
        go_loop [3] (fun i => ∃ k : Nat, 1 ≤ k ∧ k ≤ s.size ∧ i = .int .i64 k ∧ ((s.data.toList.drop 1).take (k - 1)).all nmB = true) (fun i => s.size - (intOf i).toNat)
        case atStart => exact ⟨1, Nat.le_refl _, h0, rfl, rfl⟩
        case round =>
          obtain ⟨k, hk1, hk, rfl, ha⟩ := hrel
          have HA : Hid (((s.data.toList.drop 1).take (k - 1)).all nmB = true) := ha
          clear ha hc
          by_cases hlt : k < s.size
          · have HT : Hid (((s.data.toList.drop 1).take (k + 1 - 1)).all nmB = (((s.data.toList.drop 1).take (k - 1)).all nmB && nmB (s[k]))) := allB_take s k hk1 hlt
            have HTB : Hid (nmB (s[k]) = false → (s.data.toList.drop 1).all nmB = false) := allB_bad s k hk1 hlt
            have hc1 := zletter_any (s[k])
            have hc2 := zdigit_any (s[k])
            have HN : Hid (nmB (s[k]) = (letB (s[k]) || digB (s[k]) || decide ((s[k]).toNat = 95))) := rfl
            have HC1 : Hid (∀ X, Calls Try.prog 42 #[.int .u8 ((s[k]).toNat : Int)] X fun e w' => e = .returned (.bool (letB (s[k]))) ∧ w' = X) := hc1
            have HC2 : Hid (∀ X, Calls Try.prog 43 #[.int .u8 ((s[k]).toNat : Int)] X fun e w' => e = .returned (.bool (digB (s[k]))) ∧ w' = X) := hc2
            clear hc1 hc2
            generalize nmB s[k] = nm at *
            generalize letB s[k] = x at *
            generalize digB s[k] = y at *
            cases x with
            | true =>
              have HN2 : Hid (nm = true) := by show _ = _; rw [HN.out]; rfl
              go_wp2_with (go_at_call 42; refine (HC1.out _).mono ?_; rintro e w' ⟨rfl, hw9⟩; subst w')
              go_round
              case rel => exact ⟨k + 1, by omega, by omega, by go_num, by rw [HT.out, HA.out, HN2.out]; rfl⟩
              case measure => simp [intOf]; omega
            | false =>
              cases y with
              | true =>
                have HN2 : Hid (nm = true) := by show _ = _; rw [HN.out]; rfl
                go_wp2_with (first | (go_at_call 42; refine (HC1.out _).mono ?_; rintro e w' ⟨rfl, hw9⟩; subst w') | (go_at_call 43; refine (HC2.out _).mono ?_; rintro e w' ⟨rfl, hw9⟩; subst w'))
                go_round
                case rel => exact ⟨k + 1, by omega, by omega, by go_num, by rw [HT.out, HA.out, HN2.out]; rfl⟩
                case measure => simp [intOf]; omega
              | false =>
                by_cases h95 : (s[k]).toNat = 95
                · have HN2 : Hid (nm = true) := by show _ = _; rw [HN.out]; simp [h95]
                  have k3 : (((s[k]).toNat : Int) == 95) = true := by rw [h95]; rfl
                  have k4 : (((s[k]).toNat : Int) != 95) = false := by rw [h95]; rfl
                  clear h95
                  go_wp2_with (first | (go_at_call 42; refine (HC1.out _).mono ?_; rintro e w' ⟨rfl, hw9⟩; subst w') | (go_at_call 43; refine (HC2.out _).mono ?_; rintro e w' ⟨rfl, hw9⟩; subst w'))
                  go_round
                  case rel => exact ⟨k + 1, by omega, by omega, by go_num, by rw [HT.out, HA.out, HN2.out]; rfl⟩
                  case measure => simp [intOf]; omega
                · have HN2 : Hid (nm = false) := by show _ = _; rw [HN.out]; simpa using h95
                  have k3 : (((s[k]).toNat : Int) == 95) = false := by rw [beq_eq_false_iff_ne]; omega
                  have k4 : (((s[k]).toNat : Int) != 95) = true := by rw [bne_iff_ne]; omega
                  clear h95
                  go_wp2_with (first | (go_at_call 42; refine (HC1.out _).mono ?_; rintro e w' ⟨rfl, hw9⟩; subst w') | (go_at_call 43; refine (HC2.out _).mono ?_; rintro e w' ⟨rfl, hw9⟩; subst w'))
                  go_ret
                  exact ⟨ret_bool (by rw [HM3.out, HTB.out HN2.out]), rfl⟩
          · have hkk : k = s.size := by omega
            have HZ : Hid ((s.data.toList.drop 1).all nmB = true) := by
              have := HA.out
              rw [hkk, List.take_of_length_le (by rw [List.length_drop]; simp)] at this; exact this
            clear hkk
            go_wp2
            go_ret
            exact ⟨ret_bool (by rw [HM3.out, HZ.out]), rfl⟩
    · have HM2 : Hid (isNameB s = false) := by show _ = _; rw [HM.out]; simp [h2]
      have k1 : ¬ (s.size : Int) < 1 := by omega
      have k2 : (24 : Int) < (s.size : Int) := by omega
      clear HM h1 h2
      go_enter Try.func24, Try.ntmps24
      go_wp2
      go_ret
      exact ⟨ret_bool HM2.out.symm, rfl⟩
  · have HM2 : Hid (isNameB s = false) := by show _ = _; rw [HM.out]; simp [h1]
    have k1 : (s.size : Int) < 1 := by omega
    clear HM h1
    go_enter Try.func24, Try.ntmps24
    go_wp2
    go_ret
    exact ⟨ret_bool HM2.out.symm, rfl⟩
end Go.Proofs.Ytjnnjjajlafchaa
