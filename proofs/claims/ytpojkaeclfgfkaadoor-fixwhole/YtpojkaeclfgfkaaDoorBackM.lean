/- A text is read as the number it was: numbers and digits alone. -/
import Derived.Test.YtpojkaeclfgfkaaDoorOrder
namespace Go.Proofs.YtpojkaeclfgfkaaDoor
set_option linter.unusedVariables false
set_option maxRecDepth 100000

/-- The value of decimal digits. -/
def val : List Nat → Nat
  | [] => 0
  | d :: l => d * 10 ^ l.length + val l
theorem val_dbl (l : List Nat) : 2 * val l = (dbl l).1 * 10 ^ l.length + val (dbl l).2 := by
  induction l with
  | nil => simp [val, dbl]
  | cons d l ih =>
    simp only [val, dbl, List.length_cons, dbl_len, Nat.pow_succ]
    generalize (10 : Nat) ^ l.length = p at *
    generalize (dbl l).1 = c at *
    generalize val (dbl l).2 = v at *
    have e := Nat.div_add_mod (2 * d + c) 10
    generalize (2 * d + c) / 10 = q at *
    generalize (2 * d + c) % 10 = r at *
    have e2 : (10 * q + r) * p = (2 * d + c) * p := by rw [e]
    rw [Nat.add_mul, Nat.add_mul] at e2
    have e3 : 10 * q * p = q * (p * 10) := by rw [Nat.mul_comm 10 q, Nat.mul_assoc, Nat.mul_comm 10 p]
    have e4 : 2 * (d * p + val l) = 2 * d * p + 2 * val l := by rw [Nat.mul_add, Nat.mul_assoc]
    omega
theorem val_dblN (n : Nat) (l : List Nat) : 2 ^ n * val l = partN n l * 10 ^ l.length + val (dblN n l) := by
  induction n with
  | zero => simp [partN, dblN]
  | succ n ih =>
    have e := val_dbl (dblN n l)
    rw [dblN_len] at e
    have e0 : partN (n + 1) l = partN n l * 2 + (dbl (dblN n l)).1 := rfl
    have e1 : dblN (n + 1) l = (dbl (dblN n l)).2 := rfl
    rw [e0, e1, Nat.pow_succ]
    generalize (dbl (dblN n l)).1 = c at *
    generalize val (dbl (dblN n l)).2 = v at *
    generalize val (dblN n l) = u at *
    generalize partN n l = q at *
    generalize (10 : Nat) ^ l.length = p at *
    have e2 : 2 ^ n * 2 * val l = 2 * (2 ^ n * val l) := by rw [Nat.mul_comm (2 ^ n) 2, Nat.mul_assoc]
    rw [e2, ih, Nat.mul_add, Nat.add_mul]
    have e3 : q * 2 * p = 2 * (q * p) := by rw [Nat.mul_comm q 2, Nat.mul_assoc]
    omega
theorem val_lt (l : List Nat) (h : Small l) : val l < 10 ^ l.length := by
  induction l with
  | nil => simp [val]
  | cons d l ih =>
    have h0 : d ≤ 9 := by simpa using h 0
    have := ih (fun j => by simpa using h (j + 1))
    simp only [val, List.length_cons, Nat.pow_succ]
    generalize (10 : Nat) ^ l.length = p at *
    have : d * p ≤ 9 * p := Nat.mul_le_mul_right p h0
    omega
theorem val_zero (l : List Nat) (h : val l = 0) : allZero l = true := by
  induction l with
  | nil => rfl
  | cons d l ih =>
    simp only [val] at h
    have hp : 0 < 10 ^ l.length := Nat.pow_pos (by omega)
    have h1 : d * 10 ^ l.length = 0 := by omega
    have h2 : d = 0 := by
      rcases Nat.mul_eq_zero.1 h1 with h | h
      · exact h
      · omega
    have := ih (by omega)
    unfold allZero at this ⊢
    rw [List.all_cons, this, h2]; rfl
/-- Digits that say the part p. -/
def Says32 (l : List UInt8) (p : Nat) : Prop := l.all digB = true ∧ val (digVals l) * 4294967296 = p * 10 ^ l.length
theorem part_of {l : List UInt8} {p : Nat} (h : Says32 l p) : part32 (digVals l) = p ∧ allZero (dig32 (digVals l)) = true := by
  obtain ⟨h1, h2⟩ := h
  have hs := digVals_small l h1
  have e := val_dblN 32 (digVals l)
  have hb := val_lt _ (dblN_small 32 _ hs)
  rw [dblN_len] at hb
  have hl : (digVals l).length = l.length := by simp [digVals]
  rw [hl] at e hb
  have e1 : (2 : Nat) ^ 32 * val (digVals l) = p * 10 ^ l.length := by rw [← h2, Nat.mul_comm]
  rw [e1] at e
  have hp : 0 < 10 ^ l.length := Nat.pow_pos (by omega)
  unfold part32 dig32
  generalize partN 32 (digVals l) = q at *
  have hz : val (dblN 32 (digVals l)) = 0 ∧ q = p := by
    generalize val (dblN 32 (digVals l)) = v at *
    generalize 10 ^ l.length = t at *
    rcases Nat.lt_trichotomy q p with c | c | c
    · have : (q + 1) * t ≤ p * t := Nat.mul_le_mul_right t (by omega)
      rw [Nat.add_mul] at this; omega
    · subst c; omega
    · have : (p + 1) * t ≤ q * t := Nat.mul_le_mul_right t (by omega)
      rw [Nat.add_mul] at this; omega
  exact ⟨hz.2, val_zero _ hz.1⟩
theorem says_nil : Says32 [] 0 := ⟨rfl, by simp [val, digVals]⟩
theorem val_snoc (l : List Nat) (d : Nat) : val (l ++ [d]) = 10 * val l + d := by
  induction l with
  | nil => simp [val]
  | cons c l ih =>
    simp only [List.cons_append, val, ih, List.length_append, List.length_cons, List.length_nil, Nat.pow_succ, Nat.zero_add, Nat.mul_add]
    generalize (10 : Nat) ^ l.length = p
    have e : c * (p * 10) = 10 * (c * p) := by rw [← Nat.mul_assoc, Nat.mul_comm]
    omega
theorem says_nought {l : List UInt8} {p : Nat} (h : Says32 l p) : Says32 (l ++ [48]) p := by
  obtain ⟨h1, h2⟩ := h
  refine ⟨by rw [List.all_append, h1]; rfl, ?_⟩
  have e : digVals (l ++ [48]) = digVals l ++ [0] := by simp [digVals]
  rw [e, val_snoc, List.length_append, List.length_singleton, Nat.pow_succ, ← Nat.mul_assoc, ← h2]
  rw [Nat.add_zero, Nat.mul_comm 10, Nat.mul_right_comm]
theorem says_frac (r : Nat) (hr : r ≤ 32) : ∀ P, P < 4294967296 → P % 2 ^ (32 - r) = 0 → Says32 (fracN r P) P ∧ (fracN r P).length ≤ r := by
  induction r with
  | zero =>
    intro P h1 h2
    have : P = 0 := by simp at h2; omega
    subst this
    exact ⟨says_nil, Nat.le_refl _⟩
  | succ r ih =>
    intro P h1 h2
    by_cases h0 : P = 0
    · subst h0; rw [fracN_zero]; exact ⟨says_nil, Nat.zero_le _⟩
    · rw [fracN_step r P h0]
      have hm := pow_step P (32 - (r + 1)) h2 (by omega)
      rw [show 32 - (r + 1) + 1 = 32 - r by omega] at hm
      obtain ⟨⟨i1, i2⟩, i3⟩ := ih (by omega) (P * 10 % 4294967296) (by omega) hm
      have hd : P * 10 / 4294967296 < 10 := by omega
      have hb := ofNat_digit (P * 10 / 4294967296) hd
      refine ⟨⟨?_, ?_⟩, by simpa using i3⟩
      · rw [List.all_cons, i1]
        simp only [digB, hb, Bool.and_true, Bool.and_eq_true, decide_eq_true_eq]; omega
      · have e : digVals (UInt8.ofNat (48 + P * 10 / 4294967296) :: fracN r (P * 10 % 4294967296)) = (P * 10 / 4294967296) :: digVals (fracN r (P * 10 % 4294967296)) := by
          simp only [digVals, List.map_cons, hb]; congr 1; omega
        have hl : (digVals (fracN r (P * 10 % 4294967296))).length = (fracN r (P * 10 % 4294967296)).length := by simp [digVals]
        rw [e, List.length_cons, Nat.pow_succ]
        simp only [val, hl]
        generalize (10 : Nat) ^ (fracN r (P * 10 % 4294967296)).length = t at *
        generalize val (digVals (fracN r (P * 10 % 4294967296))) = v at *
        rw [Nat.add_mul, i2]
        have e1 : P * 10 / 4294967296 * t * 4294967296 + P * 10 % 4294967296 * t = (P * 10) * t := by
          have hx : P * 10 / 4294967296 * 4294967296 + P * 10 % 4294967296 = P * 10 := Nat.div_add_mod' _ _
          rw [Nat.mul_right_comm, ← Nat.add_mul, hx]
        rw [e1, Nat.mul_assoc, Nat.mul_comm 10 t]
theorem frac_says (P : Nat) (h : P < 4294967296) : Says32 (fracL P) P ∧ (fracL P).length ≤ 32 := says_frac 32 (Nat.le_refl _) P h (by rw [Nat.sub_self, Nat.pow_zero, Nat.mod_one])
theorem frac_some (P : Nat) (h0 : ¬ P = 0) : 1 ≤ (fracL P).length := by
  unfold fracL; rw [fracN_step 31 P h0]; simp

/-! The digits of a number. -/
theorem dec_head (u : Nat) : 1 ≤ (Lib.decDigits u).length ∧ (10 ≤ u → 48 < ((Lib.decDigits u).getD 0 0).toNat) ∧ (u < 10 → (Lib.decDigits u).length = 1) := by
  induction u using Nat.strongRecOn with
  | _ u ih =>
    rw [Lib.decDigits]
    by_cases h : u < 10
    · rw [dif_pos h]; exact ⟨by simp, fun h' => by omega, fun _ => rfl⟩
    · rw [dif_neg h]
      obtain ⟨i1, i2, i3⟩ := ih (u / 10) (by omega)
      refine ⟨by simp, fun _ => ?_, fun h' => by omega⟩
      by_cases h1 : u / 10 < 10
      · have e : Lib.decDigits (u / 10) = [UInt8.ofNat (48 + u / 10)] := by rw [Lib.decDigits, dif_pos h1]
        have := ofNat_digit (u / 10) h1
        rw [e]; simp only [List.singleton_append, List.getD_cons_zero]; omega
      · have := i2 (by omega)
        rw [List.getD_eq_getElem?_getD, List.getElem?_append_left (by omega), ← List.getD_eq_getElem?_getD]; exact this
theorem dec_len (u : Nat) (h : u < 10000000000) : (Lib.decDigits u).length ≤ 10 := by
  suffices ∀ (n u : Nat), 1 ≤ n → u < 10 ^ n → (Lib.decDigits u).length ≤ n from this 10 u (by omega) (by omega)
  intro n
  induction n with
  | zero => intro u h; omega
  | succ n ih =>
    intro u _ hu
    rw [Lib.decDigits]
    by_cases h10 : u < 10
    · rw [dif_pos h10]; simp
    · rw [dif_neg h10]
      have : n ≠ 0 := by intro h; subst h; simp at hu; omega
      have := ih (u / 10) (by omega) (by rw [Nat.pow_succ] at hu; omega)
      simp; omega
theorem dec_ok (u : Nat) (h : u < 10000000000) : numOk (Lib.decDigits u) = true := by
  obtain ⟨a1, a2⟩ := decDigits_num u
  obtain ⟨b1, b2, b3⟩ := dec_head u
  have b4 := dec_len u h
  unfold numOk isDig
  rw [a1]
  generalize ((Lib.decDigits u).getD 0 0).toNat = hd at *
  generalize (Lib.decDigits u).length = n at *
  by_cases h10 : u < 10
  · have := b3 h10
    subst this; simp
  · have := b2 (by omega)
    simp; omega

/-! Cutting. -/
theorem index_skip (d r : List UInt8) (h : d.all digB = true) : Lib.index (d ++ 46 :: r) [46] = d.length := by
  induction d with
  | nil => simp [Lib.index]
  | cons c d ih =>
    simp only [List.all_cons, Bool.and_eq_true] at h
    have hc : (46 == c) = false := by
      rw [beq_eq_false_iff_ne]; intro e; subst e; simp [digB] at h
    have := ih h.2
    simp only [List.cons_append, Lib.index, List.isPrefixOf, hc, this]
    simp
theorem index_none (d : List UInt8) (h : d.all digB = true) : Lib.index d [46] = -1 := by
  induction d with
  | nil => simp [Lib.index]
  | cons c d ih =>
    simp only [List.all_cons, Bool.and_eq_true] at h
    have hc : (46 == c) = false := by
      rw [beq_eq_false_iff_ne]; intro e; subst e; simp [digB] at h
    have := ih h.2
    simp [Lib.index, List.isPrefixOf, hc, this]
theorem cut_point (d r : List UInt8) (h : d.all digB = true) : Lib.cut (d ++ 46 :: r) [46] = (d, r, true) := by
  unfold Lib.cut
  rw [index_skip d r h, if_pos (by omega)]
  simp
theorem cut_whole (d : List UInt8) (h : d.all digB = true) : Lib.cut d [46] = (d, [], false) := by
  unfold Lib.cut
  rw [index_none d h, if_neg (by omega)]
/-- A sign ahead. -/
def signL (neg : Bool) : List UInt8 := if neg then [45] else []
theorem sign_cut (neg : Bool) (u : Nat) (r : List UInt8) : Lib.hasPrefix (signL neg ++ Lib.decDigits u ++ r) [45] = neg ∧ Lib.trimPrefix (signL neg ++ Lib.decDigits u ++ r) [45] = Lib.decDigits u ++ r := by
  cases neg with
  | true => simp [signL, Lib.trimPrefix, Lib.hasPrefix, List.isPrefixOf]
  | false =>
    obtain ⟨a1, _⟩ := decDigits_num u
    obtain ⟨b1, _, _⟩ := dec_head u
    have : Lib.hasPrefix (Lib.decDigits u ++ r) [45] = false := by
      cases hd : Lib.decDigits u with
      | nil => rw [hd] at b1; simp at b1
      | cons c l =>
        rw [hd] at a1
        simp only [List.all_cons, Bool.and_eq_true] at a1
        have hc : (45 == c) = false := by
          rw [beq_eq_false_iff_ne]; intro e; subst e; simp [digB] at a1
        simp [Lib.hasPrefix, List.isPrefixOf, hc]
    simp only [signL, Bool.false_eq_true, if_false, List.nil_append]
    exact ⟨this, by unfold Lib.trimPrefix; rw [this]; simp⟩
/-- A size with a sign, read. -/
theorem read_ok (neg : Bool) (u p : Nat) (b : List UInt8) (pt : Bool) (hu : u ≤ 2147483648) (hp : Says32 b p) (hb : pt = true → isDig b 32 = true)
    (hfit : u * 4294967296 + p ≤ 9223372036854775808) (hfit2 : neg = false → u * 4294967296 + p < 9223372036854775808) :
    parseOf neg (Lib.decDigits u) b pt = (if neg then -((u * 4294967296 + p : Nat) : Int) else ((u * 4294967296 + p : Nat) : Int), 0) := by
  obtain ⟨e1, e2⟩ := part_of hp
  have e3 := dec_ok u (by omega)
  have e4 := (decDigits_num u).2
  unfold parseOf
  rw [e1, e2, e3, e4, if_neg (by simp), if_neg (by rintro ⟨h1, h2⟩; rw [hb h1] at h2; cases h2), if_neg (by rintro (h | h); cases h; omega)]
  cases neg with
  | true => simp only [if_true]; rw [if_pos hfit]
  | false => simp only [Bool.false_eq_true, if_false]; rw [if_pos (hfit2 rfl)]
theorem parse_point (neg : Bool) (u : Nat) (b : List UInt8) : parseL (signL neg ++ Lib.decDigits u ++ 46 :: b) = parseOf neg (Lib.decDigits u) b true := by
  obtain ⟨h1, h2⟩ := sign_cut neg u (46 :: b)
  unfold parseL
  rw [h1, h2, cut_point _ _ (decDigits_num u).1]
theorem parse_whole (neg : Bool) (u : Nat) : parseL (signL neg ++ Lib.decDigits u) = parseOf neg (Lib.decDigits u) [] false := by
  obtain ⟨h1, h2⟩ := sign_cut neg u []
  rw [List.append_nil, List.append_nil] at *
  unfold parseL
  rw [h1, h2, cut_whole _ (decDigits_num u).1]
/-- A number's text is read as it was. -/
theorem parse_text (x : Int) (x1 : -9223372036854775808 ≤ x) (x2 : x ≤ 9223372036854775807) : parseL (textL x) = (x, 0) := by
  have e : textL x = signL (decide (x < 0)) ++ Lib.decDigits (x.natAbs / 4294967296) ++ (if x.natAbs % 4294967296 = 0 then [] else 46 :: fracL (x.natAbs % 4294967296)) := by
    unfold textL signL; simp only [decide_eq_true_eq]
  rw [e]
  have fin : ∀ (b : List UInt8) (pt : Bool), Says32 b (x.natAbs % 4294967296) → (pt = true → isDig b 32 = true) → parseOf (decide (x < 0)) (Lib.decDigits (x.natAbs / 4294967296)) b pt = (x, 0) := by
    intro b pt h1 h2
    have hs : x.natAbs / 4294967296 * 4294967296 + x.natAbs % 4294967296 = x.natAbs := by omega
    rw [read_ok (decide (x < 0)) (x.natAbs / 4294967296) (x.natAbs % 4294967296) b pt (by omega) h1 h2 (by omega) (by intro h; simp at h; omega), hs]
    by_cases hx : x < 0
    · simp only [decide_eq_true_eq, if_pos hx]; congr 1; omega
    · simp only [decide_eq_true_eq, if_neg hx]; congr 1; omega
  by_cases h0 : x.natAbs % 4294967296 = 0
  · rw [if_pos h0, List.append_nil, parse_whole]
    exact fin [] false (by rw [h0]; exact says_nil) (fun h => by cases h)
  · rw [if_neg h0, parse_point]
    have hf := frac_says (x.natAbs % 4294967296) (by omega)
    have hs := frac_some _ h0
    exact fin _ true hf.1 (fun _ => by unfold isDig; rw [hf.1.1]; simp; omega)
end Go.Proofs.YtpojkaeclfgfkaaDoor
