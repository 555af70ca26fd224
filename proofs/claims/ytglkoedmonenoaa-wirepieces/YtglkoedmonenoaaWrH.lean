/- Wire's Get: what some bytes begin with. Bytes of a text. Conditions: a text's own length. -/
import Derived.Test.YtglkoedmonenoaaWrG
import Derived.Lib.ConvBytes
namespace Go.Proofs.Ytglkoedmonenoaa
open Go.RowKit
set_option linter.unusedVariables false
set_option maxRecDepth 100000

/-- '[]byte(s)'. -/
theorem conv_row (w : World) (s : ByteArray) (hs : s.size ≤ maxLen) : ∃ (W : World) (cap : Nat), (convert 9 35 (.string s)).run Try.prog w = .ok (.slice (some ⟨w.heap.size, 0, none⟩) s.size cap) W ∧ Below w.heap.size w W ∧ BS W (some ⟨w.heap.size, 0, none⟩) cap s.data.toList ∧ W.heap.size = w.heap.size + 1 ∧ (∀ j, j < s.size → W.frozen? ⟨w.heap.size, j, none⟩ = false) := by
  refine ⟨_, _, Lib.run_convert_string_bytes w 9 35 5 s Try.underlying9 Try.underlying35 Try.underlying5, ?_, ⟨fun j hj => ⟨w.heap.size, 0, rfl, ?_⟩, ?_, fun e => (by cases e), ?_⟩, Lib.bytesWorld_size _ _ _, fun j hj => ?_⟩
  · refine ⟨rfl, rfl, rfl, by rw [Lib.bytesWorld_size]; omega, fun k hk => Lib.bytesWorld_at_old w _ s k hk⟩
  · rw [Nat.zero_add]; exact Lib.bytesWorld_cell w _ s j (by simpa using hj)
  · have := grownCap_ge w s.size 0 5
    simpa using this
  · have := grownCap_le_maxLen w s.size 0 5 hs
    unfold maxLen at this; omega
  · have hc : s.size ≤ (Lib.bytesCells w 5 s).size := by simp [Lib.bytesCells]
    simp [World.frozen?, Lib.bytesWorld_at_new]; omega
set_option maxHeartbeats 1000000 in
theorem get_whole (s : ByteArray) (w : World) (hs : s.size ≤ maxLen) (c : s.size ≤ 60817) :
    Calls Try.prog 10 #[.string s] w fun e w' => ∃ v, e = .returned v ∧ GotIs w w' (s.data.toList) v ∧ Below w.heap.size w w' := by
  have hle : (s).size ≤ maxLen := by exact hs
  obtain ⟨W, cap, hcv, hb, hr, _, _⟩ := conv_row (w.alloc (.cells #[.int .i64 0, .int .i64 0, .int .i64 0, .slice none 0 0, .string ⟨#[]⟩] 26)) (s) hle
  have hB : Below w.heap.size w W := ((Below.refl _ w).alloc (Nat.le_refl _) _).trans (hb.mono (by simp))
  have hF : FrAt W w.heap.size 0 0 0 (.slice none 0 0) (.string ⟨#[]⟩) := (frAt_new w 0 0 0 (.slice none 0 0) (.string ⟨#[]⟩)).below hb
  have HR := read_any hr (s).size (by simp) (by have := hle; simpa using this)
  rw [show (w.alloc (.cells #[.int .i64 0, .int .i64 0, .int .i64 0, .slice none 0 0, .string ⟨#[]⟩] 26)).heap.size = w.heap.size + 1 by simp] at HR hcv
  have HR : Hid (Calls Try.prog 18 #[.slice (some ⟨w.heap.size + 1, 0, none⟩) (s).size cap] W fun e w' => ∃ v, e = .returned v ∧ GotIs W w' (s).data.toList v ∧ Below W.heap.size W w') := HR
  have HB : Hid (Below w.heap.size w W ∧ FrAt W w.heap.size 0 0 0 (.slice none 0 0) (.string ⟨#[]⟩)) := ⟨hB, hF⟩
  clear hb hr hB hF hle
  unfold maxLen at hs
  go_enter Try.func10, Try.ntmps10
  go_wp2_with fail
  refine Calls.mono HR.out ?_
  rintro e W2 ⟨v, rfl, hG, hb⟩
  have hF := HB.out.2.below hb
  have u0 := hF.c0
  have u1 := hF.c1
  have u2 := hF.c2
  have u3 := hF.c3
  have u4 := hF.c4
  have uf := hF.f
  have HF : Hid (FrAt W2 w.heap.size 0 0 0 (.slice none 0 0) (.string ⟨#[]⟩)) := hF
  have HB2 : Hid (Below w.heap.size w W2) := HB.out.1.trans (hb.mono HB.out.1.size)
  have HL : Hid (w.heap.size < W.heap.size) := HB.out.2.lt
  rcases hG with ⟨hE, rfl⟩ | ⟨hE, g, rfl, hin, hz, hg⟩
  · clear HR HB hb hF hcv
    have HE : Hid (readE (s).data.toList ≠ 0) := hE
    clear hE
    generalize hX : readE (s).data.toList = E at *
    have HX : Hid (readE (s).data.toList = E) := hX
    clear hX
    go_wp2
    have hs := HF.out.stored 0 0 0 (.slice none 0 0) (.string ⟨#[]⟩)
    unfold frSet at hs
    have r0 := hs.c0
    have r1 := hs.c1
    have r2 := hs.c2
    have r3 := hs.c3
    have r4 := hs.c4
    refine bodyPost_ret (v := .tuple #[zeroFr, .int .i64 0, .int .i64 E]) (by simp [results, Try.results10, go_sem, r0, r1, r2, r3, r4]) rfl ⟨_, rfl, Or.inl ⟨?_, ?_⟩, frSet_below HB2.out (Nat.le_refl _)⟩
    · rw [HX.out]; exact HE.out
    · rw [HX.out]
  · clear HR HB hb hF hcv
    have HE : Hid (readE (s).data.toList = 0 ∧ IntRow W2 (some ⟨g, 0, none⟩) (readF (s).data.toList).zs ∧ ZeroRow W2 g (readF (s).data.toList).zs.length ∧ w.heap.size < g) := ⟨hE, hin, hz, by have := HL.out; omega⟩
    clear hE hin hz hg
    generalize hX : readF (s).data.toList = f at *
    generalize hN : readN (s).data.toList = N at *
    obtain ⟨k, fr, t, zs, d⟩ := f
    have HX : Hid (readF (s).data.toList = ⟨k, fr, t, zs, d⟩ ∧ readN (s).data.toList = N) := ⟨hX, hN⟩
    clear hX hN
    simp only [frOf] at *
    go_wp2
    have hs := HF.out.stored k fr t (.slice (some ⟨g, 0, none⟩) zs.length zs.length) (.string ⟨d.toArray⟩)
    have hm := frSet_mod W2 w.heap.size k fr t (.slice (some ⟨g, 0, none⟩) zs.length zs.length) (.string ⟨d.toArray⟩)
    have hg := HE.out.2.2.2
    have hrow := HE.out.2.2.1.mod hm (by simp; omega)
    have hin := HE.out.2.1.mod hm (by intro x hx; cases hx; simp; omega)
    have hbel := frSet_below (k := k) (fr := fr) (t := t) (v := .slice (some ⟨g, 0, none⟩) zs.length zs.length) (s := .string ⟨d.toArray⟩) HB2.out (Nat.le_refl _)
    unfold frSet at hs hrow hbel hin
    have r0 := hs.c0
    have r1 := hs.c1
    have r2 := hs.c2
    have r3 := hs.c3
    have r4 := hs.c4
    exact bodyPost_ret (v := .tuple #[.agg #[.int .i64 k, .int .i64 fr, .int .i64 t, .slice (some ⟨g, 0, none⟩) zs.length zs.length, .string ⟨d.toArray⟩], .int .i64 N, .int .i64 0]) (by simp [results, Try.results10, go_sem, r0, r1, r2, r3, r4]) rfl ⟨_, rfl, Or.inr ⟨HE.out.1, g, by rw [HX.out.1, HX.out.2], by rw [HX.out.1]; exact hin, by rw [HX.out.1]; exact hrow, by omega⟩, hbel⟩
set_option maxHeartbeats 1000000 in
theorem get_long (s : ByteArray) (w : World) (hs : s.size ≤ maxLen) (c : 60817 < s.size) :
    Calls Try.prog 10 #[.string s] w fun e w' => ∃ v, e = .returned v ∧ GotIs w w' (s.extract 0 60817).data.toList v ∧ Below w.heap.size w w' := by
  have hle : (s.extract 0 60817).size ≤ maxLen := by simp; unfold maxLen; omega
  obtain ⟨W, cap, hcv, hb, hr, _, _⟩ := conv_row (w.alloc (.cells #[.int .i64 0, .int .i64 0, .int .i64 0, .slice none 0 0, .string ⟨#[]⟩] 26)) (s.extract 0 60817) hle
  have hB : Below w.heap.size w W := ((Below.refl _ w).alloc (Nat.le_refl _) _).trans (hb.mono (by simp))
  have hF : FrAt W w.heap.size 0 0 0 (.slice none 0 0) (.string ⟨#[]⟩) := (frAt_new w 0 0 0 (.slice none 0 0) (.string ⟨#[]⟩)).below hb
  have HR := read_any hr (s.extract 0 60817).size (by simp) (by have := hle; simpa using this)
  rw [show (w.alloc (.cells #[.int .i64 0, .int .i64 0, .int .i64 0, .slice none 0 0, .string ⟨#[]⟩] 26)).heap.size = w.heap.size + 1 by simp] at HR hcv
  have hsz : (s.extract 0 60817).size = 60817 := by simp; omega
  rw [hsz] at HR hcv
  clear hsz
  have HR : Hid (Calls Try.prog 18 #[.slice (some ⟨w.heap.size + 1, 0, none⟩) 60817 cap] W fun e w' => ∃ v, e = .returned v ∧ GotIs W w' (s.extract 0 60817).data.toList v ∧ Below W.heap.size W w') := HR
  have HB : Hid (Below w.heap.size w W ∧ FrAt W w.heap.size 0 0 0 (.slice none 0 0) (.string ⟨#[]⟩)) := ⟨hB, hF⟩
  clear hb hr hB hF hle
  unfold maxLen at hs
  go_enter Try.func10, Try.ntmps10
  go_wp2_with fail
  refine Calls.mono HR.out ?_
  rintro e W2 ⟨v, rfl, hG, hb⟩
  have hF := HB.out.2.below hb
  have u0 := hF.c0
  have u1 := hF.c1
  have u2 := hF.c2
  have u3 := hF.c3
  have u4 := hF.c4
  have uf := hF.f
  have HF : Hid (FrAt W2 w.heap.size 0 0 0 (.slice none 0 0) (.string ⟨#[]⟩)) := hF
  have HB2 : Hid (Below w.heap.size w W2) := HB.out.1.trans (hb.mono HB.out.1.size)
  have HL : Hid (w.heap.size < W.heap.size) := HB.out.2.lt
  rcases hG with ⟨hE, rfl⟩ | ⟨hE, g, rfl, hin, hz, hg⟩
  · clear HR HB hb hF hcv
    have HE : Hid (readE (s.extract 0 60817).data.toList ≠ 0) := hE
    clear hE
    generalize hX : readE (s.extract 0 60817).data.toList = E at *
    have HX : Hid (readE (s.extract 0 60817).data.toList = E) := hX
    clear hX
    go_wp2
    have hs := HF.out.stored 0 0 0 (.slice none 0 0) (.string ⟨#[]⟩)
    unfold frSet at hs
    have r0 := hs.c0
    have r1 := hs.c1
    have r2 := hs.c2
    have r3 := hs.c3
    have r4 := hs.c4
    refine bodyPost_ret (v := .tuple #[zeroFr, .int .i64 0, .int .i64 E]) (by simp [results, Try.results10, go_sem, r0, r1, r2, r3, r4]) rfl ⟨_, rfl, Or.inl ⟨?_, ?_⟩, frSet_below HB2.out (Nat.le_refl _)⟩
    · rw [HX.out]; exact HE.out
    · rw [HX.out]
  · clear HR HB hb hF hcv
    have HE : Hid (readE (s.extract 0 60817).data.toList = 0 ∧ IntRow W2 (some ⟨g, 0, none⟩) (readF (s.extract 0 60817).data.toList).zs ∧ ZeroRow W2 g (readF (s.extract 0 60817).data.toList).zs.length ∧ w.heap.size < g) := ⟨hE, hin, hz, by have := HL.out; omega⟩
    clear hE hin hz hg
    generalize hX : readF (s.extract 0 60817).data.toList = f at *
    generalize hN : readN (s.extract 0 60817).data.toList = N at *
    obtain ⟨k, fr, t, zs, d⟩ := f
    have HX : Hid (readF (s.extract 0 60817).data.toList = ⟨k, fr, t, zs, d⟩ ∧ readN (s.extract 0 60817).data.toList = N) := ⟨hX, hN⟩
    clear hX hN
    simp only [frOf] at *
    go_wp2
    have hs := HF.out.stored k fr t (.slice (some ⟨g, 0, none⟩) zs.length zs.length) (.string ⟨d.toArray⟩)
    have hm := frSet_mod W2 w.heap.size k fr t (.slice (some ⟨g, 0, none⟩) zs.length zs.length) (.string ⟨d.toArray⟩)
    have hg := HE.out.2.2.2
    have hrow := HE.out.2.2.1.mod hm (by simp; omega)
    have hin := HE.out.2.1.mod hm (by intro x hx; cases hx; simp; omega)
    have hbel := frSet_below (k := k) (fr := fr) (t := t) (v := .slice (some ⟨g, 0, none⟩) zs.length zs.length) (s := .string ⟨d.toArray⟩) HB2.out (Nat.le_refl _)
    unfold frSet at hs hrow hbel hin
    have r0 := hs.c0
    have r1 := hs.c1
    have r2 := hs.c2
    have r3 := hs.c3
    have r4 := hs.c4
    exact bodyPost_ret (v := .tuple #[.agg #[.int .i64 k, .int .i64 fr, .int .i64 t, .slice (some ⟨g, 0, none⟩) zs.length zs.length, .string ⟨d.toArray⟩], .int .i64 N, .int .i64 0]) (by simp [results, Try.results10, go_sem, r0, r1, r2, r3, r4]) rfl ⟨_, rfl, Or.inr ⟨HE.out.1, g, by rw [HX.out.1, HX.out.2], by rw [HX.out.1]; exact hin, by rw [HX.out.1]; exact hrow, by omega⟩, hbel⟩
theorem get_any (s : ByteArray) (w : World) (hs : s.size ≤ maxLen) :
    Calls Try.prog 10 #[.string s] w fun e w' => ∃ v, e = .returned v ∧ GotIs w w' s.data.toList v ∧ Below w.heap.size w w' := by
  by_cases c : s.size ≤ 60817
  · exact get_whole s w hs c
  · refine Calls.mono (get_long s w hs (by omega)) ?_
    rintro e w' ⟨v, rfl, hG, hb⟩
    refine ⟨v, rfl, ?_, hb⟩
    have e : (s.extract 0 60817).data.toList = s.data.toList.take 60817 := by simp
    rw [e] at hG
    have h := read_cut s.data.toList 60817 (by omega)
    rcases hG with ⟨h1, h2⟩ | ⟨h1, h2⟩
    · exact Or.inl ⟨by rw [← h.1]; exact h1, by rw [← h.1]; exact h2⟩
    · have h0 : readE s.data.toList = 0 := by rw [← h.1]; exact h1
      have h3 := h.2 h0
      rw [h3.1, h3.2] at h2
      exact Or.inr ⟨h0, h2⟩
end Go.Proofs.Ytglkoedmonenoaa
