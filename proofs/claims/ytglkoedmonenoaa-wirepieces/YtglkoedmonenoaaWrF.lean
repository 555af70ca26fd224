/- Wire's read: the frame with which some bytes begin, or the error. Conditions: a list's own length. -/
import Derived.Test.YtglkoedmonenoaaWrE
namespace Go.Proofs.Ytglkoedmonenoaa
open Go.RowKit
set_option linter.unusedVariables false
set_option maxRecDepth 100000

@[reducible] def zeroFr : Value := .agg #[.int .i64 0, .int .i64 0, .int .i64 0, .slice none 0 0, .string ⟨#[]⟩]
@[reducible] def frOf (f : FrV) (v : Value) : Value := .agg #[.int .i64 f.k, .int .i64 f.fr, .int .i64 f.t, v, .string ⟨f.d.toArray⟩]
/-- A frame that was got, or none. -/
def GotIs (w w' : World) (l : List UInt8) (v : Value) : Prop :=
  (readE l ≠ 0 ∧ v = .tuple #[zeroFr, .int .i64 0, .int .i64 (readE l)]) ∨
  (readE l = 0 ∧ ∃ g, v = .tuple #[frOf (readF l) (.slice (some ⟨g, 0, none⟩) (readF l).zs.length (readF l).zs.length), .int .i64 (readN l), .int .i64 0] ∧ IntRow w' (some ⟨g, 0, none⟩) (readF l).zs ∧ ZeroRow w' g (readF l).zs.length ∧ w.heap.size ≤ g)

set_option maxHeartbeats 1000000 in
theorem read_lens {w : World} {a : Option Addr} {cap : Nat} {l : List UInt8} (h : BS w a cap l) (n : Nat) (hn : n = l.length) (hl : l.length ≤ maxLen) (h0 : lensE l ≠ 0) :
    Calls Try.prog 18 #[.slice a n cap] w fun e w' => ∃ v, e = .returned v ∧ GotIs w w' l v ∧ Below w.heap.size w w' := by
  have HE : Hid (readE l = lensE l ∧ readE l ≠ 0) := by unfold readE; rw [if_neg h0]; exact ⟨rfl, h0⟩
  have hne : (lensE l != 0) = true := by simpa using h0
  have HL : Hid (∀ X, Below w.heap.size w X → Calls Try.prog 22 #[.slice a n cap] X fun e w' => e = .returned (.tuple #[.int .i64 (lensC l), .int .i64 (lensD l), .int .i64 (lensE l)]) ∧ Below X.heap.size X w') :=
    fun X hX => lengths_any (h.below hX (Nat.le_refl _)) n hn hl
  clear h hn hl h0
  generalize lensE l = E at *
  generalize lensC l = C at *
  generalize lensD l = D at *
  go_enter Try.func18, Try.ntmps18
  go_wp2_with fail
  obtain ⟨W1, hW1⟩ : ∃ Z, w.alloc (.cells #[.int .i64 0, .int .i64 0, .int .i64 0, .slice none 0 0, .string ⟨#[]⟩] 26) = Z := ⟨_, rfl⟩
  rw [hW1]
  have hB : Below w.heap.size w W1 := by rw [← hW1]; exact (Below.refl _ w).alloc (Nat.le_refl _) _
  have hF : FrAt W1 w.heap.size 0 0 0 (.slice none 0 0) (.string ⟨#[]⟩) := by rw [← hW1]; exact frAt_new _ _ _ _ _ _
  clear hW1
  refine Calls.mono (HL.out _ hB) ?_
  rintro e W2 ⟨rfl, hb⟩
  have HB : Hid (Below w.heap.size w W2) := hB.trans (hb.mono hB.size)
  have hF := hF.below hb
  have u0 := hF.c0
  have u1 := hF.c1
  have u2 := hF.c2
  have u3 := hF.c3
  have u4 := hF.c4
  have uf := hF.f
  have HF : Hid (FrAt W2 w.heap.size 0 0 0 (.slice none 0 0) (.string ⟨#[]⟩)) := hF
  clear hB hb hF HL
  go_wp2
  have hs := HF.out.stored 0 0 0 (.slice none 0 0) (.string ⟨#[]⟩)
  unfold frSet at hs
  have r0 := hs.c0
  have r1 := hs.c1
  have r2 := hs.c2
  have r3 := hs.c3
  have r4 := hs.c4
  refine bodyPost_ret (v := .tuple #[zeroFr, .int .i64 0, .int .i64 E]) (by simp [results, Try.results18, go_sem, r0, r1, r2, r3, r4]) rfl ⟨_, rfl, Or.inl ⟨HE.out.2, by rw [HE.out.1]⟩, ?_⟩
  exact frSet_below HB.out (Nat.le_refl _)
theorem lens_ok {l : List UInt8} (h : lensE l = 0) : cntL l ≤ 100 ∧ longL l ≤ 60000 ∧ longAt l + 2 ≤ l.length ∧ 12 ≤ l.length := by
  unfold lensE at h
  split at h; · omega
  rename_i hb
  simp only [badHead, noBegin, above, Bool.or_eq_true, Bool.and_eq_true, decide_eq_true_eq, not_or, not_and, bne_iff_ne, ne_eq, Classical.not_not, Nat.not_lt] at hb
  split at h; · omega
  have := hb.2 (by omega)
  split at h; · omega
  split at h; · omega
  split at h; · omega
  have hat : longAt l = 10 + cntL l * 8 := rfl
  exact ⟨this, by omega, by omega, by omega⟩

set_option maxHeartbeats 1000000 in
theorem read_sum {w : World} {a : Option Addr} {cap : Nat} {l : List UInt8} (h : BS w a cap l) (n : Nat) (hn : n = l.length) (hl : l.length ≤ maxLen) (h0 : lensE l = 0) (h1 : sumE l (sumAt l) ≠ 0) :
    Calls Try.prog 18 #[.slice a n cap] w fun e w' => ∃ v, e = .returned v ∧ GotIs w w' l v ∧ Below w.heap.size w w' := by
  have HE : Hid (readE l = sumE l (sumAt l) ∧ readE l ≠ 0) := by unfold readE; rw [if_pos h0]; exact ⟨rfl, h1⟩
  have hne : (sumE l (sumAt l) != 0) = true := by simpa using h1
  obtain ⟨hc, hd, hx, _⟩ := lens_ok h0
  have HL : Hid (∀ X, Below w.heap.size w X → Calls Try.prog 22 #[.slice a n cap] X fun e w' => e = .returned (.tuple #[.int .i64 (cntL l), .int .i64 (longL l), .int .i64 0]) ∧ Below X.heap.size X w') := fun X hX => by
    have := lengths_any (h.below hX (Nat.le_refl _)) n hn hl
    unfold lensC lensD at this
    rw [h0, if_pos rfl, if_pos rfl] at this; exact this
  have HS : Hid (∀ X, Below w.heap.size w X → Calls Try.prog 23 #[.slice a n cap, .int .i64 (10 + (cntL l : Int) * 8 + 2 + (longL l : Int))] X fun e w' => e = .returned (.int .i64 (sumE l (sumAt l))) ∧ Below X.heap.size X w') := fun X hX => by
    have := checkSum_any (h.below hX (Nat.le_refl _)) (sumAt l) n hn (by have : sumAt l = 10 + cntL l * 8 + 2 + longL l := rfl; omega) hl
    rw [show ((sumAt l : Nat) : Int) = 10 + (cntL l : Int) * 8 + 2 + (longL l : Int) by have : sumAt l = 10 + cntL l * 8 + 2 + longL l := rfl; omega] at this
    exact this
  clear h hn hl h0 h1 hx
  generalize sumE l (sumAt l) = E at *
  generalize cntL l = C at *
  generalize longL l = D at *
  go_enter Try.func18, Try.ntmps18
  go_wp2_with fail
  obtain ⟨W1, hW1⟩ : ∃ Z, w.alloc (.cells #[.int .i64 0, .int .i64 0, .int .i64 0, .slice none 0 0, .string ⟨#[]⟩] 26) = Z := ⟨_, rfl⟩
  rw [hW1]
  have hB : Below w.heap.size w W1 := by rw [← hW1]; exact (Below.refl _ w).alloc (Nat.le_refl _) _
  have hF : FrAt W1 w.heap.size 0 0 0 (.slice none 0 0) (.string ⟨#[]⟩) := by rw [← hW1]; exact frAt_new _ _ _ _ _ _
  clear hW1
  refine Calls.mono (HL.out _ hB) ?_
  rintro e W2 ⟨rfl, hb⟩
  have HB2 : Hid (Below w.heap.size w W2) := hB.trans (hb.mono hB.size)
  have HF2 : Hid (FrAt W2 w.heap.size 0 0 0 (.slice none 0 0) (.string ⟨#[]⟩)) := hF.below hb
  clear hB hb hF HL
  go_wp2_with fail
  refine Calls.mono (HS.out _ HB2.out) ?_
  rintro e W3 ⟨rfl, hb⟩
  have HB : Hid (Below w.heap.size w W3) := HB2.out.trans (hb.mono HB2.out.size)
  have hF := HF2.out.below hb
  have u0 := hF.c0
  have u1 := hF.c1
  have u2 := hF.c2
  have u3 := hF.c3
  have u4 := hF.c4
  have uf := hF.f
  have HF : Hid (FrAt W3 w.heap.size 0 0 0 (.slice none 0 0) (.string ⟨#[]⟩)) := hF
  clear hb hF HS HB2 HF2
  go_wp2
  have hs := HF.out.stored 0 0 0 (.slice none 0 0) (.string ⟨#[]⟩)
  unfold frSet at hs
  have r0 := hs.c0
  have r1 := hs.c1
  have r2 := hs.c2
  have r3 := hs.c3
  have r4 := hs.c4
  refine bodyPost_ret (v := .tuple #[zeroFr, .int .i64 0, .int .i64 E]) (by simp [results, Try.results18, go_sem, r0, r1, r2, r3, r4]) rfl ⟨_, rfl, Or.inl ⟨HE.out.2, by rw [HE.out.1]⟩, ?_⟩
  exact frSet_below HB.out (Nat.le_refl _)
end Go.Proofs.Ytglkoedmonenoaa
