/- What is got of a frame's bytes; the laws' first call. Conditions: none. -/
import Derived.Test.YtglkoedmonenoaaWrK
namespace Go.Proofs.Ytglkoedmonenoaa
open Go.RowKit
set_option linter.unusedVariables false
set_option maxRecDepth 100000

/-- Numbers of 64 bits. -/
def All64 (zs : List Int) : Prop := ∀ z ∈ zs, -9223372036854775808 ≤ z ∧ z ≤ 9223372036854775807
theorem got_frame {w w' : World} {v : Value} (f : FrV) (hf : f.Ok) (hz : All64 f.zs) (r : List UInt8) (h : GotIs w w' (frameL f ++ r) v) :
    ∃ g, v = .tuple #[frOf f (.slice (some ⟨g, 0, none⟩) f.zs.length f.zs.length), .int .i64 ((frameL f).length : Int), .int .i64 0] ∧ IntRow w' (some ⟨g, 0, none⟩) f.zs ∧ ZeroRow w' g f.zs.length ∧ w.heap.size ≤ g := by
  obtain ⟨h1, h2, h3⟩ := read_whole f hf hz r
  rcases h with ⟨h4, _⟩ | ⟨_, g, h5⟩
  · exact absurd h1 h4
  · rw [h2, h3] at h5; exact ⟨g, h5⟩
theorem got_part {w w' : World} {v : Value} (f : FrV) (hf : f.Ok) (hz : All64 f.zs) (k : Nat) (hk : k < (frameL f).length) (h : GotIs w w' ((frameL f).take k) v) : v = .tuple #[zeroFr, .int .i64 0, .int .i64 5] := by
  have h1 := read_part f hf hz k hk
  rcases h with ⟨_, h5⟩ | ⟨h4, _⟩
  · rw [h1] at h5; exact h5
  · rw [h1] at h4; exact absurd h4 (by decide)
def frA : FrV := ⟨1, 2, 3, [5], []⟩
theorem frA_err : frA.err = 0 := by decide
theorem frA_64 : All64 frA.zs := by intro z hz; simp [frA] at hz; omega
theorem frA_len : (frameL frA).length = 25 := by rw [frameL_len]; rfl
set_option maxHeartbeats 1000000 in
theorem alive_any (w : World) : Calls Try.prog 7 #[] w fun e w' => e = .returned (.bool true) ∧ Below w.heap.size w w' := by
  have HP : Hid (∀ X a cap, IntRow X a [5] → Calls Try.prog 8 #[.agg #[.int .i64 1, .int .i64 2, .int .i64 3, .slice a 1 cap, .string ⟨#[]⟩]] X fun e w' => e = .returned (.tuple #[.string ⟨(frameL frA).toArray⟩, .int .i64 0]) ∧ Below X.heap.size X w') := fun X a cap h =>
    put_good frA frA_err h frA_64
  have HG : Hid (∀ X, Calls Try.prog 10 #[.string ⟨(frameL frA).toArray⟩] X fun e w' => ∃ g, e = .returned (.tuple #[.agg #[.int .i64 1, .int .i64 2, .int .i64 3, .slice (some ⟨g, 0, none⟩) 1 1, .string ⟨#[]⟩], .int .i64 25, .int .i64 0]) ∧ IntRow w' (some ⟨g, 0, none⟩) [5] ∧ X.heap.size ≤ g ∧ Below X.heap.size X w') := fun X => by
    refine Calls.mono (get_any ⟨(frameL frA).toArray⟩ X (by rw [size_text, frA_len]; unfold maxLen; omega)) ?_
    rintro e w' ⟨v, rfl, hG, hb⟩
    have hG : GotIs X w' (frameL frA ++ []) v := by rw [List.append_nil]; exact hG
    obtain ⟨g, rfl, h1, h2, h3⟩ := got_frame frA (FrV.err_ok frA_err) frA_64 [] hG
    refine ⟨g, ?_, h1, h3, hb⟩
    rw [frA_len]; rfl
  have HS : Hid (∀ X a cap g, IntRow X a [5] → IntRow X (some ⟨g, 0, none⟩) [5] → Calls Try.prog 9 #[.agg #[.int .i64 1, .int .i64 2, .int .i64 3, .slice a 1 cap, .string ⟨#[]⟩], .agg #[.int .i64 1, .int .i64 2, .int .i64 3, .slice (some ⟨g, 0, none⟩) 1 1, .string ⟨#[]⟩]] X fun e w' => e = .returned (.bool true) ∧ Below X.heap.size X w') := fun X a cap g h1 h2 => by
    have := same_any frA frA (cap := cap) (cap2 := 1) h1 h2 (by decide) (by decide)
    rw [(FrV.same_iff frA frA).2 rfl] at this
    exact this
  have hsz : (⟨(frameL frA).toArray⟩ : ByteArray).size = 25 := by rw [size_text, frA_len]
  generalize (⟨(frameL frA).toArray⟩ : ByteArray) = s at *
  go_enter Try.func7, Try.ntmps7
  go_wp2_with fail
  obtain ⟨W1, hW1⟩ : ∃ Z, (w.alloc (.cells #[.int .i64 5] 3)).alloc (.cells #[.int .i64 1, .int .i64 2, .int .i64 3, .slice (some ⟨w.heap.size, 0, none⟩) 1 1, .string ⟨#[]⟩] 26) = Z := ⟨_, rfl⟩
  rw [hW1]
  have HB1 : Hid (Below w.heap.size w W1 ∧ FrAt W1 (w.heap.size + 1) 1 2 3 (.slice (some ⟨w.heap.size, 0, none⟩) 1 1) (.string ⟨#[]⟩) ∧ IntRow W1 (some ⟨w.heap.size, 0, none⟩) [5]) := by
    subst hW1
    refine ⟨((Below.refl _ w).alloc (Nat.le_refl _) _).alloc (by simp) _, ?_, ?_⟩
    · have := frAt_new (w.alloc (.cells #[.int .i64 5] 3)) 1 2 3 (.slice (some ⟨w.heap.size, 0, none⟩) 1 1) (.string ⟨#[]⟩)
      rw [show (w.alloc (.cells #[.int .i64 5] 3)).heap.size = w.heap.size + 1 by simp] at this; exact this
    · intro i hi
      have h0 : i = 0 := by simpa using hi
      subst h0
      exact ⟨w.heap.size, 0, rfl, by simp [go_sem]⟩
  clear hW1
  refine Calls.mono (HP.out _ _ _ HB1.out.2.2) ?_
  rintro e W2 ⟨rfl, hb⟩
  have HB2 : Hid (Below w.heap.size w W2 ∧ FrAt W2 (w.heap.size + 1) 1 2 3 (.slice (some ⟨w.heap.size, 0, none⟩) 1 1) (.string ⟨#[]⟩) ∧ IntRow W2 (some ⟨w.heap.size, 0, none⟩) [5]) :=
    ⟨HB1.out.1.trans (hb.mono HB1.out.1.size), HB1.out.2.1.below hb, HB1.out.2.2.grow hb⟩
  clear hb HB1 HP
  go_wp2_with fail
  refine Calls.mono (HG.out _) ?_
  rintro e W3 ⟨g, rfl, hin, hg, hb⟩
  have HB3 : Hid (Below w.heap.size w W3 ∧ FrAt W3 (w.heap.size + 1) 1 2 3 (.slice (some ⟨w.heap.size, 0, none⟩) 1 1) (.string ⟨#[]⟩) ∧ IntRow W3 (some ⟨w.heap.size, 0, none⟩) [5] ∧ IntRow W3 (some ⟨g, 0, none⟩) [5]) :=
    ⟨HB2.out.1.trans (hb.mono HB2.out.1.size), HB2.out.2.1.below hb, HB2.out.2.2.grow hb, hin⟩
  have k0 : W3.cell? ⟨g, 0, none⟩ = some (.int .i64 5) := by
    obtain ⟨b, off, e, hc⟩ := hin 0 (by simp)
    cases e; exact hc
  have hgl : g < W3.heap.size := World.block_lt_of_cell? W3 _ k0
  have hxl : w.heap.size + 1 < W3.heap.size := HB3.out.2.1.lt
  have u0 := HB3.out.2.1.c0
  have u1 := HB3.out.2.1.c1
  have u2 := HB3.out.2.1.c2
  have u3 := HB3.out.2.1.c3
  have u4 := HB3.out.2.1.c4
  clear hin hg hb HB2 HG
  go_wp2_with fail
  have hb4 : Below W3.heap.size W3 (W3.alloc (.cells #[.int .i64 1, .int .i64 2, .int .i64 3, .slice (some ⟨g, 0, none⟩) 1 1, .string ⟨#[]⟩] 26)) := (Below.refl _ _).alloc (Nat.le_refl _) _
  refine Calls.mono (HS.out _ _ _ _ (HB3.out.2.2.1.grow hb4) (HB3.out.2.2.2.grow hb4)) ?_
  rintro e W5 ⟨rfl, hb⟩
  have HB5 : Hid (Below w.heap.size w W5) := HB3.out.1.trans ((hb4.trans (hb.mono hb4.size)).mono HB3.out.1.size)
  clear hb hb4
  go_wp2
  go_ret
  exact ⟨rfl, HB5.out⟩
end Go.Proofs.Ytglkoedmonenoaa
