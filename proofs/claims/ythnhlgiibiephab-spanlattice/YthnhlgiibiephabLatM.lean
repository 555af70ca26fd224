/- Joins and meets of spans: numbers. -/
import Derived.Test.YthnhlgiibiephabLoc2
namespace Go.Proofs.Ythnhlgiibiephab
open Go.RowKit
set_option linter.unusedVariables false
set_option maxRecDepth 100000

/-- The join of two, the meet of two. -/
def jnLo (a b c d : Int) : Int := if b < a then (if d < c then 0 else c) else (if d < c then a else min a c)
def jnHi (a b c d : Int) : Int := if b < a then (if d < c then -1 else d) else (if d < c then b else max b d)
def mtLo (a b c d : Int) : Int := toldLo (max a c) (min b d)
def mtHi (a b c d : Int) : Int := toldHi (max a c) (min b d)
theorem join_two (a b c d : Int) : ofLo (endsL [(a, b), (c, d)]) = jnLo a b c d ∧ ofHi (endsL [(a, b), (c, d)]) = jnHi a b c d := by
  unfold jnLo jnHi
  by_cases h1 : b < a <;> by_cases h2 : d < c <;> simp [endsL, h1, h2, ofLo, ofHi, Lib.minOf, Lib.maxOf] <;> omega
theorem join_one (a b : Int) : ofLo (endsL [(a, b)]) = toldLo a b ∧ ofHi (endsL [(a, b)]) = toldHi a b := by
  unfold toldLo toldHi
  by_cases h1 : b < a <;> simp [endsL, h1, ofLo, ofHi, Lib.minOf, Lib.maxOf] <;> omega
theorem join_three (a b c d e f : Int) : ofLo (endsL [(a, b), (c, d), (e, f)]) = jnLo a b (jnLo c d e f) (jnHi c d e f) ∧ ofHi (endsL [(a, b), (c, d), (e, f)]) = jnHi a b (jnLo c d e f) (jnHi c d e f) := by
  unfold jnLo jnHi
  by_cases h1 : b < a <;> by_cases h2 : d < c <;> by_cases h3 : f < e <;> simp [endsL, h1, h2, h3, ofLo, ofHi, Lib.minOf, Lib.maxOf] <;> (repeat' split) <;> omega
theorem meet_lo2 (a c : Int) (x y : Int) (ha : B64 a) (hc : B64 c) : meetLo [(a, x), (c, y)] = max a c := by
  unfold B64 at *; simp [meetLo, Lib.maxOf]; omega
theorem meet_hi2 (b d : Int) (x y : Int) (hb : B64 b) (hd : B64 d) : meetHi [(x, b), (y, d)] = min b d := by
  unfold B64 at *; simp [meetHi, Lib.minOf]; omega
theorem meet_lo1 (a : Int) (x : Int) (ha : B64 a) : meetLo [(a, x)] = a := by
  unfold B64 at *; simp [meetLo, Lib.maxOf]; omega
theorem meet_hi1 (b : Int) (x : Int) (hb : B64 b) : meetHi [(x, b)] = b := by
  unfold B64 at *; simp [meetHi, Lib.minOf]; omega
theorem meet_lo3 (a c e : Int) (x y z : Int) (ha : B64 a) (hc : B64 c) (he : B64 e) : meetLo [(a, x), (c, y), (e, z)] = max a (max c e) := by
  unfold B64 at *; simp [meetLo, Lib.maxOf]; omega
theorem meet_hi3 (b d f : Int) (x y z : Int) (hb : B64 b) (hd : B64 d) (hf : B64 f) : meetHi [(x, b), (y, d), (z, f)] = min b (min d f) := by
  unfold B64 at *; simp [meetHi, Lib.minOf]; omega
theorem meet_nest (a b c d e f : Int) : toldLo (max a (max c e)) (min b (min d f)) = mtLo a b (mtLo c d e f) (mtHi c d e f) ∧ toldHi (max a (max c e)) (min b (min d f)) = mtHi a b (mtLo c d e f) (mtHi c d e f) := by
  unfold mtLo mtHi toldLo toldHi
  by_cases h : min d f < max c e
  · rw [if_pos h, if_pos h]
    have h1 : min b (min d f) < max a (max c e) := by omega
    have h2 : min b (-1) < max a 0 := by omega
    rw [if_pos h1, if_pos h1, if_pos h2, if_pos h2]
    exact ⟨rfl, rfl⟩
  · rw [if_neg h, if_neg h]
    exact ⟨rfl, rfl⟩
theorem jn_bd {a b c d : Int} (ha : B64 a) (hb : B64 b) (hc : B64 c) (hd : B64 d) : B64 (jnLo a b c d) ∧ B64 (jnHi a b c d) := by
  unfold B64 jnLo jnHi at *; refine ⟨?_, ?_⟩ <;> (repeat' split) <;> omega
theorem mt_bd {a b c d : Int} (ha : B64 a) (hb : B64 b) (hc : B64 c) (hd : B64 d) : B64 (mtLo a b c d) ∧ B64 (mtHi a b c d) := by
  unfold B64 mtLo mtHi toldLo toldHi at *; refine ⟨?_, ?_⟩ <;> (repeat' split) <;> omega
/-- One within another. -/
def inB (a b c d : Int) : Bool := decide (b < a) || (decide (c ≤ a) && decide (b ≤ d))
theorem in_join1 (a b c d : Int) : inB a b (jnLo a b c d) (jnHi a b c d) = true := by
  unfold inB jnLo jnHi; by_cases h1 : b < a <;> by_cases h2 : d < c <;> simp [h1, h2] <;> omega
theorem in_join2 (a b c d : Int) : inB c d (jnLo a b c d) (jnHi a b c d) = true := by
  unfold inB jnLo jnHi; by_cases h1 : b < a <;> by_cases h2 : d < c <;> simp [h1, h2] <;> omega
theorem in_meet1 (a b c d : Int) : inB (mtLo a b c d) (mtHi a b c d) a b = true := by
  unfold inB mtLo mtHi toldLo toldHi; by_cases h : min b d < max a c <;> simp [h] <;> omega
theorem in_meet2 (a b c d : Int) : inB (mtLo a b c d) (mtHi a b c d) c d = true := by
  unfold inB mtLo mtHi toldLo toldHi; by_cases h : min b d < max a c <;> simp [h] <;> omega
theorem in_least {a b c d e f : Int} (h1 : inB a b e f = true) (h2 : inB c d e f = true) : inB (jnLo a b c d) (jnHi a b c d) e f = true := by
  unfold inB jnLo jnHi at *
  by_cases g1 : b < a <;> by_cases g2 : d < c <;> simp [g1, g2] at h1 h2 ⊢ <;> omega
theorem in_greatest {a b c d e f : Int} (h1 : inB e f a b = true) (h2 : inB e f c d = true) : inB e f (mtLo a b c d) (mtHi a b c d) = true := by
  unfold inB mtLo mtHi toldLo toldHi at *
  by_cases g1 : f < e <;> by_cases g2 : min b d < max a c <;> simp [g1, g2] at h1 h2 ⊢ <;> omega
def hasB (a b n : Int) : Bool := decide (a ≤ n) && decide (n ≤ b)
theorem has_meet (a b c d n : Int) : hasB (mtLo a b c d) (mtHi a b c d) n = (hasB a b n && hasB c d n) := by
  unfold hasB mtLo mtHi toldLo toldHi
  by_cases g2 : min b d < max a c
  · rw [if_pos g2, if_pos g2, Bool.eq_iff_iff]; simp; omega
  · rw [if_neg g2, if_neg g2, Bool.eq_iff_iff]; simp; omega
/-- A slot that held something ahead of its operation. -/
def sel2 (b : Bool) (v u : Value) : Value := if b = true then v else u
theorem sel2_true (v u : Value) : sel2 true v u = v := rfl
theorem sel2_false (v u : Value) : sel2 false v u = u := rfl
theorem join_at2 (W : World) (g : Nat) (a b c d x y : Int) (hx : jnLo a b c d = x) (hy : jnHi a b c d = y) (hr : SpanRow W (some ⟨g, 0, none⟩) [(a, b), (c, d)]) :
    Calls Try.prog 22 #[.slice (some ⟨g, 0, none⟩) 2 2] W fun e w' => e = .returned ((.agg #[.int .i64 x, .int .i64 y])) ∧ Below W.heap.size W w' := by
  have t := sjoin_any (some ⟨g, 0, none⟩) [(a, b), (c, d)] 2 W hr (by simp)
  rw [(join_two a b c d).1, (join_two a b c d).2, hx, hy] at t; exact t
theorem join_at3 (W : World) (g : Nat) (a b c d e f x y : Int) (hx : jnLo a b (jnLo c d e f) (jnHi c d e f) = x) (hy : jnHi a b (jnLo c d e f) (jnHi c d e f) = y) (hr : SpanRow W (some ⟨g, 0, none⟩) [(a, b), (c, d), (e, f)]) :
    Calls Try.prog 22 #[.slice (some ⟨g, 0, none⟩) 3 3] W fun e w' => e = .returned ((.agg #[.int .i64 x, .int .i64 y])) ∧ Below W.heap.size W w' := by
  have t := sjoin_any (some ⟨g, 0, none⟩) [(a, b), (c, d), (e, f)] 3 W hr (by simp)
  rw [(join_three a b c d e f).1, (join_three a b c d e f).2, hx, hy] at t; exact t
theorem join_at1 (W : World) (g : Nat) (a b x y : Int) (hx : toldLo a b = x) (hy : toldHi a b = y) (hr : SpanRow W (some ⟨g, 0, none⟩) [(a, b)]) :
    Calls Try.prog 22 #[.slice (some ⟨g, 0, none⟩) 1 1] W fun e w' => e = .returned ((.agg #[.int .i64 x, .int .i64 y])) ∧ Below W.heap.size W w' := by
  have t := sjoin_any (some ⟨g, 0, none⟩) [(a, b)] 1 W hr (by simp)
  rw [(join_one a b).1, (join_one a b).2, hx, hy] at t; exact t
theorem meet_at2 (W : World) (g : Nat) (a b c d x y : Int) (ha : B64 a) (hb : B64 b) (hc : B64 c) (hd : B64 d) (hx : mtLo a b c d = x) (hy : mtHi a b c d = y) (hr : SpanRow W (some ⟨g, 0, none⟩) [(a, b), (c, d)]) :
    Calls Try.prog 23 #[.slice (some ⟨g, 0, none⟩) 2 2] W fun e w' => e = .returned ((.agg #[.int .i64 x, .int .i64 y])) ∧ Below W.heap.size W w' := by
  have t := smeet_any (some ⟨g, 0, none⟩) [(a, b), (c, d)] 2 W hr (by simp)
  rw [meet_lo2 a c b d ha hc, meet_hi2 b d a c hb hd] at t
  rw [← hx, ← hy]; exact t
theorem meet_at3 (W : World) (g : Nat) (a b c d e f x y : Int) (ha : B64 a) (hb : B64 b) (hc : B64 c) (hd : B64 d) (he : B64 e) (hf : B64 f) (hx : mtLo a b (mtLo c d e f) (mtHi c d e f) = x) (hy : mtHi a b (mtLo c d e f) (mtHi c d e f) = y) (hr : SpanRow W (some ⟨g, 0, none⟩) [(a, b), (c, d), (e, f)]) :
    Calls Try.prog 23 #[.slice (some ⟨g, 0, none⟩) 3 3] W fun e w' => e = .returned ((.agg #[.int .i64 x, .int .i64 y])) ∧ Below W.heap.size W w' := by
  have t := smeet_any (some ⟨g, 0, none⟩) [(a, b), (c, d), (e, f)] 3 W hr (by simp)
  rw [meet_lo3 a c e b d f ha hc he, meet_hi3 b d f a c e hb hd hf, (meet_nest a b c d e f).1, (meet_nest a b c d e f).2, hx, hy] at t
  exact t
theorem meet_at1 (W : World) (g : Nat) (a b x y : Int) (ha : B64 a) (hb : B64 b) (hx : toldLo a b = x) (hy : toldHi a b = y) (hr : SpanRow W (some ⟨g, 0, none⟩) [(a, b)]) :
    Calls Try.prog 23 #[.slice (some ⟨g, 0, none⟩) 1 1] W fun e w' => e = .returned ((.agg #[.int .i64 x, .int .i64 y])) ∧ Below W.heap.size W w' := by
  have t := smeet_any (some ⟨g, 0, none⟩) [(a, b)] 1 W hr (by simp)
  rw [meet_lo1 a b ha, meet_hi1 b a hb, hx, hy] at t
  exact t
theorem kept2_below {w W0 X : World} {z : Nat} (hB : Below w.heap.size w W0) (k : Kept2 z z W0 X) (hz : W0.heap.size = z) : Below w.heap.size w X :=
  hB.trans ⟨k.os, k.tape, k.output, k.size, fun i hi => k.block i (by have := hB.size; omega) (by have := hB.size; omega) (by have := hB.size; omega)⟩
theorem has_meetP (a b c d n : Int) : (mtLo a b c d ≤ n ∧ n ≤ mtHi a b c d) ↔ ((a ≤ n ∧ n ≤ b) ∧ (c ≤ n ∧ n ≤ d)) := by
  unfold mtLo mtHi toldLo toldHi
  by_cases g2 : min b d < max a c
  · rw [if_pos g2, if_pos g2]; omega
  · rw [if_neg g2, if_neg g2]; omega
end Go.Proofs.Ythnhlgiibiephab
