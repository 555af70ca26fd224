/- Texts and digits are not long; a number's text is read as it was. Conditions: the numbers' own ranges, the library's own variables as they are laid. -/
import Derived.Test.YtpojkaeclfgfkaaDoorBackM
import Derived.Test.YtpojkaeclfgfkaaDoorAlive
namespace Go.Proofs.YtpojkaeclfgfkaaDoor
open Go.RowKit
set_option linter.unusedVariables false
set_option maxRecDepth 100000

theorem dec_len_of (n u : Nat) (h1 : 1 ≤ n) (h : u < 10 ^ n) : (Lib.decDigits u).length ≤ n := by
  induction n generalizing u with
  | zero => omega
  | succ n ih =>
    rw [Lib.decDigits]
    by_cases h10 : u < 10
    · rw [dif_pos h10]; simp
    · rw [dif_neg h10]
      have : n ≠ 0 := by intro h'; subst h'; simp at h; omega
      have := ih (u / 10) (by omega) (by rw [Nat.pow_succ] at h; omega)
      simp; omega
theorem itoa_len (x : Int) (x1 : -9223372036854775808 ≤ x) (x2 : x ≤ 9223372036854775807) : (Lib.itoa x).length ≤ 20 := by
  unfold Lib.itoa
  split
  · have := dec_len_of 19 x.natAbs (by omega) (by omega)
    simp; omega
  · have := dec_len_of 19 x.toNat (by omega) (by omega)
    omega
theorem text_len (x : Int) (x1 : -9223372036854775808 ≤ x) (x2 : x ≤ 9223372036854775807) : (textL x).length ≤ 44 := by
  have h1 := dec_len (x.natAbs / 4294967296) (by omega)
  have h2 := (frac_says (x.natAbs % 4294967296) (by omega)).2
  unfold textL
  rw [List.length_append, List.length_append]
  generalize (Lib.decDigits (x.natAbs / 4294967296)).length = a at *
  split
  · split <;> simp <;> omega
  · split <;> simp <;> omega
theorem parse_back (x : Int) (x1 : -9223372036854775808 ≤ x) (x2 : x ≤ 9223372036854775807) (w : World) (hm : MaxLenIs w) :
    Calls Tryd.prog 26 #[.string ⟨(textL x).toArray⟩] w fun e w' => e = .returned (.tuple #[.int .i64 x, .int .i64 0]) ∧ Below w.heap.size w w' := by
  have h := parse_any ⟨(textL x).toArray⟩ w (by have := text_len x x1 x2; show (textL x).length ≤ 1000000; omega) hm
  have e : parseL (⟨(textL x).toArray⟩ : ByteArray).data.toList = (x, 0) := parse_text x x1 x2
  rw [e] at h; exact h
theorem whole_text (n : Int) : textL (n * 4294967296) = Lib.itoa n := by
  have e1 : (n * 4294967296).natAbs = n.natAbs * 4294967296 := by omega
  have e2 : n.natAbs * 4294967296 % 4294967296 = 0 := Nat.mul_mod_left _ _
  have e3 : n.natAbs * 4294967296 / 4294967296 = n.natAbs := Nat.mul_div_cancel _ (by omega)
  unfold textL Lib.itoa
  rw [e1, e2, e3]
  by_cases h : n < 0
  · have h' : n * 4294967296 < 0 := by omega
    simp only [if_pos h, if_pos h', if_true, List.append_nil, List.singleton_append]
  · have h' : ¬ n * 4294967296 < 0 := by omega
    simp only [if_neg h, if_neg h', if_true, List.append_nil, List.nil_append]
    rw [show n.natAbs = n.toNat by omega]
theorem other_text (x : Int) (h : 0 < x) : textL (-x) = 45 :: textL x := by
  have h1 : -x < 0 := by omega
  have h2 : ¬ x < 0 := by omega
  unfold textL
  rw [Int.natAbs_neg]
  simp only [if_pos h1, if_neg h2, List.nil_append, List.cons_append]
theorem nought_text (x : Int) (h : 0 < x) (x2 : x ≤ 9223372036854775807) (hp : ¬ x % 4294967296 = 0) : parseL (textL x ++ [48]) = (x, 0) ∨ parseL (textL x ++ [48]) = (0, 11) := by
  have h0 : ¬ x.natAbs % 4294967296 = 0 := by omega
  have e : textL x ++ [48] = signL false ++ Lib.decDigits (x.natAbs / 4294967296) ++ 46 :: (fracL (x.natAbs % 4294967296) ++ [48]) := by
    unfold textL signL
    rw [if_neg (by omega), if_neg h0]; simp
  have hf := frac_says (x.natAbs % 4294967296) (by omega)
  have hn := says_nought hf.1
  rw [e, parse_point]
  by_cases hl : (fracL (x.natAbs % 4294967296)).length = 32
  · refine .inr ?_
    have hd : isDig (fracL (x.natAbs % 4294967296) ++ [48]) 32 = false := by
      unfold isDig; rw [List.length_append, hl]; rfl
    unfold parseOf
    rw [dec_ok _ (by omega), if_neg (by simp), if_pos ⟨rfl, hd⟩]
  · refine .inl ?_
    have hs : x.natAbs / 4294967296 * 4294967296 + x.natAbs % 4294967296 = x.natAbs := by omega
    have hd : isDig (fracL (x.natAbs % 4294967296) ++ [48]) 32 = true := by
      unfold isDig; rw [hn.1, List.length_append, List.length_singleton]
      have := hf.2
      generalize (fracL (x.natAbs % 4294967296)).length = k at *
      simp; omega
    rw [read_ok false _ _ _ true (by omega) hn (fun _ => hd) (by omega) (fun _ => by omega), hs]
    simp only [Bool.false_eq_true, if_false]
    congr 1; omega
/-- What Parse tells of a text with a nought more. -/
theorem parse_more (x : Int) (h : 0 < x) (x2 : x ≤ 9223372036854775807) : ∃ G H, (∀ w, MaxLenIs w → Calls Tryd.prog 26 #[.string ⟨(textL x ++ [48]).toArray⟩] w fun e w' => e = .returned (.tuple #[.int .i64 G, .int .i64 H]) ∧ Below w.heap.size w w') ∧ (¬ x % 4294967296 = 0 → (G = x ∧ H = 0) ∨ H = 11) := by
  obtain ⟨⟨G, H⟩, hr⟩ : ∃ r, parseL (textL x ++ [48]) = r := ⟨_, rfl⟩
  have hn := nought_text x h x2
  have hl : (⟨(textL x ++ [48]).toArray⟩ : ByteArray).size ≤ 1000000 := by
    have := text_len x (by omega) x2
    show (textL x ++ [48]).length ≤ 1000000
    rw [List.length_append, List.length_singleton]; omega
  rw [hr] at hn
  refine ⟨G, H, fun w hm => ?_, fun hp => ?_⟩
  · have hp := parse_any ⟨(textL x ++ [48]).toArray⟩ w hl hm
    have e : parseL (⟨(textL x ++ [48]).toArray⟩ : ByteArray).data.toList = (G, H) := hr
    rw [e] at hp; exact hp
  · rcases hn hp with e | e
    · cases e; exact .inl ⟨rfl, rfl⟩
    · cases e; exact .inr rfl
end Go.Proofs.YtpojkaeclfgfkaaDoor
