/- WireApart: the law's walk. Conditions: numbers and lengths of 64 bits. -/
import Derived.Test.YtglkoedmonenoaaWrIn
namespace Go.Proofs.Ytglkoedmonenoaa
open Go.RowKit
set_option linter.unusedVariables false
set_option maxRecDepth 100000

theorem frameL_inj (f g : FrV) (hf : f.Ok) (hg : g.Ok) (h1 : All64 f.zs) (h2 : All64 g.zs) (h : frameL f = frameL g) : f = g := by
  have q1 := (read_whole f hf h1 []).2.1
  have q2 := (read_whole g hg h2 []).2.1
  rw [h, q2] at q1; exact q1.symm
theorem wrap_next (t : Int) (h : B64 t) : wrap64 (t + 1) ≠ t := by
  unfold B64 at h
  unfold wrap64; omega
set_option maxHeartbeats 1000000 in
theorem apart_long (f g : FrV) (a a2 : Option Addr) (cap cap2 : Nat) (w : World) (h : 200 < f.zs.length ∨ 200 < g.zs.length ∨ 6000 < f.d.length + g.d.length) (l1 : f.d.length ≤ 140737488351232) (l2 : g.d.length ≤ 140737488351232) :
    Calls Try.prog 3 #[frOf f (.slice a f.zs.length cap), frOf g (.slice a2 g.zs.length cap2)] w fun e w' => e = .returned (.bool true) ∧ Below w.heap.size w w' := by
  have hsz := size_text f.d
  have hsz2 := size_text g.d
  unfold frOf
  generalize (⟨f.d.toArray⟩ : ByteArray) = s at *
  generalize (⟨g.d.toArray⟩ : ByteArray) = s2 at *
  rw [← hsz, ← hsz2] at h
  rw [← hsz] at l1
  rw [← hsz2] at l2
  clear hsz hsz2
  have HB : Hid (Below w.heap.size w ((w.alloc (.cells #[.int .i64 f.k, .int .i64 f.fr, .int .i64 f.t, .slice a f.zs.length cap, .string s] 26)).alloc (.cells #[.int .i64 g.k, .int .i64 g.fr, .int .i64 g.t, .slice a2 g.zs.length cap2, .string s2] 26))) := ((Below.refl _ w).alloc (Nat.le_refl _) _).alloc (by simp) _
  generalize f.zs.length = n at *
  generalize g.zs.length = n2 at *
  by_cases c1 : 200 < n
  · have c1' : decide ((200 : Int) < (n : Int)) = true := by simp; omega
    clear h
    go_enter Try.func3, Try.ntmps3
    go_wp2_with fail
    refine Calls.mono (alive_any _) ?_
    rintro e W2 ⟨rfl, hb⟩
    have HB2 : Hid (Below w.heap.size w W2) := HB.out.trans (hb.mono HB.out.size)
    clear hb
    go_wp2
    go_ret
    exact ⟨rfl, HB2.out⟩
  have c1' : decide ((200 : Int) < (n : Int)) = false := by simp; omega
  by_cases c2 : 200 < n2
  · have c2' : decide ((200 : Int) < (n2 : Int)) = true := by simp; omega
    clear h
    go_enter Try.func3, Try.ntmps3
    go_wp2_with fail
    refine Calls.mono (alive_any _) ?_
    rintro e W2 ⟨rfl, hb⟩
    have HB2 : Hid (Below w.heap.size w W2) := HB.out.trans (hb.mono HB.out.size)
    clear hb
    go_wp2
    go_ret
    exact ⟨rfl, HB2.out⟩
  have c2' : decide ((200 : Int) < (n2 : Int)) = false := by simp; omega
  have c3 : 6000 < s.size + s2.size := by omega
  have c3' : decide ((6000 : Int) < (s.size : Int) + (s2.size : Int)) = true := by simp; omega
  clear h
  go_enter Try.func3, Try.ntmps3
  go_wp2_with fail
  refine Calls.mono (alive_any _) ?_
  rintro e W2 ⟨rfl, hb⟩
  have HB2 : Hid (Below w.heap.size w W2) := HB.out.trans (hb.mono HB.out.size)
  clear hb
  go_wp2
  go_ret
  exact ⟨rfl, HB2.out⟩

set_option maxHeartbeats 4000000 in
theorem apart_short (f g : FrV) (a a2 : Option Addr) (cap cap2 : Nat) (w : World) (hz : IntRow w a f.zs) (hz2 : IntRow w a2 g.zs) (h64 : All64 f.zs) (h642 : All64 g.zs) (ht : B64 f.t) (h1 : f.zs.length ≤ 200) (h2 : g.zs.length ≤ 200) (h3 : f.d.length + g.d.length ≤ 6000) :
    Calls Try.prog 3 #[frOf f (.slice a f.zs.length cap), frOf g (.slice a2 g.zs.length cap2)] w fun e w' => e = .returned (.bool true) ∧ Below w.heap.size w w' := by
  have hsz := size_text f.d
  have hsz2 := size_text g.d
  have HP : Hid (∀ X, Below w.heap.size w X → Calls Try.prog 8 #[frOf f (.slice a f.zs.length cap)] X fun e w' => e = .returned (.tuple #[.string ⟨(if f.err = 0 then frameL f else []).toArray⟩, .int .i64 f.err]) ∧ Below X.heap.size X w') := fun X h => put_any f (hz.grow h) h64
  have HP2 : Hid (∀ X, Below w.heap.size w X → Calls Try.prog 8 #[frOf g (.slice a2 g.zs.length cap2)] X fun e w' => e = .returned (.tuple #[.string ⟨(if g.err = 0 then frameL g else []).toArray⟩, .int .i64 g.err]) ∧ Below X.heap.size X w') := fun X h => put_any g (hz2.grow h) h642
  have HS1 : Hid (∀ X, Below w.heap.size w X → Calls Try.prog 9 #[frOf f (.slice a f.zs.length cap), frOf f (.slice a f.zs.length cap)] X fun e w' => e = .returned (.bool true) ∧ Below X.heap.size X w') := fun X hb => by
    have := same_any f f (cap := cap) (cap2 := cap) (hz.grow hb) (hz.grow hb) (by omega) (by omega)
    rw [(FrV.same_iff f f).2 rfl] at this
    exact this
  have HS2 : Hid (∀ X, Below w.heap.size w X → Calls Try.prog 9 #[frOf f (.slice a f.zs.length cap), frOf g (.slice a2 g.zs.length cap2)] X fun e w' => e = .returned (.bool (f.same g)) ∧ Below X.heap.size X w') := fun X hb =>
    same_any f g (hz.grow hb) (hz2.grow hb) (by omega) (by omega)
  have HS3 : Hid (∀ X, Below w.heap.size w X → Calls Try.prog 9 #[.agg #[.int .i64 f.k, .int .i64 f.fr, .int .i64 (wrap64 (f.t + 1)), .slice a f.zs.length cap, .string ⟨f.d.toArray⟩], frOf f (.slice a f.zs.length cap)] X fun e w' => e = .returned (.bool false) ∧ Below X.heap.size X w') := fun X hb => by
    have := same_any ⟨f.k, f.fr, wrap64 (f.t + 1), f.zs, f.d⟩ f (cap := cap) (cap2 := cap) (hz.grow hb) (hz.grow hb) (by show f.zs.length ≤ _; omega) (by omega)
    have e : (⟨f.k, f.fr, wrap64 (f.t + 1), f.zs, f.d⟩ : FrV).same f = false := by
      rw [Bool.eq_false_iff, ne_eq, FrV.same_iff]
      intro e
      exact wrap_next f.t ht (congrArg FrV.t e)
    rw [e] at this
    exact this
  have HQ : Hid (f.err = 0 → g.err = 0 → ((⟨(if f.err = 0 then frameL f else []).toArray⟩ : ByteArray).toList == (⟨(if g.err = 0 then frameL g else []).toArray⟩ : ByteArray).toList) = f.same g) := fun e1 e2 => by
    rw [toList_text, toList_text, if_pos e1, if_pos e2, Bool.eq_iff_iff, beq_iff_eq, FrV.same_iff]
    exact ⟨frameL_inj f g (FrV.err_ok e1) (FrV.err_ok e2) h64 h642, fun e => by rw [e]⟩
  unfold frOf at *
  generalize (⟨f.d.toArray⟩ : ByteArray) = s at *
  generalize (⟨g.d.toArray⟩ : ByteArray) = s2 at *
  generalize (⟨(if f.err = 0 then frameL f else []).toArray⟩ : ByteArray) = b at *
  generalize (⟨(if g.err = 0 then frameL g else []).toArray⟩ : ByteArray) = b2 at *
  rw [← hsz, ← hsz2] at h3
  generalize f.same g = sm at *
  generalize f.err = E at *
  generalize g.err = E2 at *
  generalize f.zs.length = n at *
  generalize g.zs.length = n2 at *
  generalize f.k = k at *
  generalize f.fr = fr at *
  generalize f.t = t at *
  generalize g.k = k2 at *
  generalize g.fr = fr2 at *
  generalize g.t = t2 at *
  clear hsz hsz2 hz hz2 h64 h642 ht
  have c1' : decide ((200 : Int) < (n : Int)) = false := by simp; omega
  have c2' : decide ((200 : Int) < (n2 : Int)) = false := by simp; omega
  have c3' : decide ((6000 : Int) < (s.size : Int) + (s2.size : Int)) = false := by simp; omega
  go_enter Try.func3, Try.ntmps3
  go_wp2_with fail
  obtain ⟨W1, hW1⟩ : ∃ Z, (w.alloc (.cells #[.int .i64 k, .int .i64 fr, .int .i64 t, .slice a n cap, .string s] 26)).alloc (.cells #[.int .i64 k2, .int .i64 fr2, .int .i64 t2, .slice a2 n2 cap2, .string s2] 26) = Z := ⟨_, rfl⟩
  rw [hW1]
  have HB1 : Hid (Below w.heap.size w W1 ∧ FrAt W1 w.heap.size k fr t (.slice a n cap) (.string s) ∧ FrAt W1 (w.heap.size + 1) k2 fr2 t2 (.slice a2 n2 cap2) (.string s2)) := by
    subst hW1
    refine ⟨((Below.refl _ w).alloc (Nat.le_refl _) _).alloc (by simp) _, (frAt_new _ _ _ _ _ _).below ((Below.refl _ _).alloc (Nat.le_refl _) _), ?_⟩
    have := frAt_new (w.alloc (.cells #[.int .i64 k, .int .i64 fr, .int .i64 t, .slice a n cap, .string s] 26)) k2 fr2 t2 (.slice a2 n2 cap2) (.string s2)
    rw [show (w.alloc (.cells #[.int .i64 k, .int .i64 fr, .int .i64 t, .slice a n cap, .string s] 26)).heap.size = w.heap.size + 1 by simp] at this; exact this
  clear hW1
  refine Calls.mono (HP.out _ HB1.out.1) ?_
  rintro e W2 ⟨rfl, hb⟩
  have HB2 : Hid (Below w.heap.size w W2 ∧ FrAt W2 w.heap.size k fr t (.slice a n cap) (.string s) ∧ FrAt W2 (w.heap.size + 1) k2 fr2 t2 (.slice a2 n2 cap2) (.string s2)) := ⟨HB1.out.1.trans (hb.mono HB1.out.1.size), HB1.out.2.1.below hb, HB1.out.2.2.below hb⟩
  have v0 := HB2.out.2.2.c0
  have v1 := HB2.out.2.2.c1
  have v2 := HB2.out.2.2.c2
  have v3 := HB2.out.2.2.c3
  have v4 := HB2.out.2.2.c4
  clear hb HB1 HP
  go_wp2_with fail
  refine Calls.mono (HP2.out _ HB2.out.1) ?_
  rintro e W3 ⟨rfl, hb⟩
  have HB3 : Hid (Below w.heap.size w W3 ∧ FrAt W3 w.heap.size k fr t (.slice a n cap) (.string s) ∧ FrAt W3 (w.heap.size + 1) k2 fr2 t2 (.slice a2 n2 cap2) (.string s2)) := ⟨HB2.out.1.trans (hb.mono HB2.out.1.size), HB2.out.2.1.below hb, HB2.out.2.2.below hb⟩
  have u0 := HB3.out.2.1.c0
  have u1 := HB3.out.2.1.c1
  have u2 := HB3.out.2.1.c2
  have u3 := HB3.out.2.1.c3
  have u4 := HB3.out.2.1.c4
  have hxl : w.heap.size < W3.heap.size := HB3.out.2.1.lt
  clear hb HB2 HP2 v0 v1 v2 v3 v4
  go_wp2_with fail
  have hb4 : Below W3.heap.size W3 (W3.alloc (.cells #[.int .i64 k, .int .i64 fr, .int .i64 t, .slice a n cap, .string s] 26)) := (Below.refl _ _).alloc (Nat.le_refl _) _
  have hF4 := frAt_new W3 k fr t (.slice a n cap) (.string s)
  refine Calls.mono (HS1.out _ (HB3.out.1.trans (hb4.mono HB3.out.1.size))) ?_
  rintro e W5 ⟨rfl, hb⟩
  have HB5 : Hid (Below w.heap.size w W5 ∧ FrAt W5 w.heap.size k fr t (.slice a n cap) (.string s) ∧ FrAt W5 (w.heap.size + 1) k2 fr2 t2 (.slice a2 n2 cap2) (.string s2) ∧ FrAt W5 W3.heap.size k fr t (.slice a n cap) (.string s)) :=
    ⟨HB3.out.1.trans ((hb4.trans (hb.mono hb4.size)).mono HB3.out.1.size), (HB3.out.2.1.below hb4).below hb, (HB3.out.2.2.below hb4).below hb, hF4.below hb⟩
  have HNE : Hid (w.heap.size < W3.heap.size ∧ w.heap.size + 1 < W3.heap.size) := ⟨HB3.out.2.1.lt, HB3.out.2.2.lt⟩
  have y2 := HB5.out.2.2.2.c2
  have yf := HB5.out.2.2.2.f
  clear hb hb4 hF4 HB3 HS1 u0 u1 u2 u3 u4
  go_wp2_with fail
  obtain ⟨t1, ht1⟩ : ∃ z, wrap64 (t + 1) = z := ⟨_, rfl⟩
  rw [ht1] at HS3
  have hm : Mod [W3.heap.size] W5 (W5.setCell ⟨W3.heap.size, 2, none⟩ (.int .i64 t1)) := (Mod.refl _ _).setCell _ _ _ (by simp)
  have HB6 : Hid (Below w.heap.size w (W5.setCell ⟨W3.heap.size, 2, none⟩ (.int .i64 t1)) ∧ FrAt (W5.setCell ⟨W3.heap.size, 2, none⟩ (.int .i64 t1)) w.heap.size k fr t (.slice a n cap) (.string s) ∧ FrAt (W5.setCell ⟨W3.heap.size, 2, none⟩ (.int .i64 t1)) (w.heap.size + 1) k2 fr2 t2 (.slice a2 n2 cap2) (.string s2) ∧ FrAt (W5.setCell ⟨W3.heap.size, 2, none⟩ (.int .i64 t1)) W3.heap.size k fr t1 (.slice a n cap) (.string s)) := by
    have q := HB5.out.2.2.2
    have hne := HNE.out
    refine ⟨hm.below HB5.out.1 (by simp; omega), HB5.out.2.1.mod hm (by simp; omega), HB5.out.2.2.1.mod hm (by simp; omega), ⟨?_, ?_, ?_, ?_, ?_, fun i => by simp [q.f]⟩⟩
    · rw [cell_oo _ _ _ _ _ _ (by omega)]; exact q.c0
    · rw [cell_oo _ _ _ _ _ _ (by omega)]; exact q.c1
    · exact World.cell?_setCell_same _ _ _ q.c2
    · rw [cell_oo _ _ _ _ _ _ (by omega)]; exact q.c3
    · rw [cell_oo _ _ _ _ _ _ (by omega)]; exact q.c4
  try rw [ht1]
  clear hm y2 yf ht1 hxl
  generalize W5.setCell ⟨W3.heap.size, 2, none⟩ (.int .i64 t1) = W6 at *
  refine Calls.mono (alive_any _) ?_
  rintro e W7 ⟨rfl, hb⟩
  have HB7 : Hid (Below w.heap.size w W7) := HB6.out.1.trans (hb.mono HB6.out.1.size)
  have q0 := (HB6.out.2.1.below hb).c0
  have q1 := (HB6.out.2.1.below hb).c1
  have q2 := (HB6.out.2.1.below hb).c2
  have q3 := (HB6.out.2.1.below hb).c3
  have q4 := (HB6.out.2.1.below hb).c4
  have x0 := (HB6.out.2.2.2.below hb).c0
  have x1 := (HB6.out.2.2.2.below hb).c1
  have x2 := (HB6.out.2.2.2.below hb).c2
  have x3 := (HB6.out.2.2.2.below hb).c3
  have x4 := (HB6.out.2.2.2.below hb).c4
  by_cases e1 : E = 0
  case neg =>
    have e1' : (E != 0) = true := by simpa using e1
    clear hb HB6 HQ
    go_wp2_with fail
    refine Calls.mono (HS3.out _ HB7.out) ?_
    rintro e W9 ⟨rfl, hb⟩
    have HB9 : Hid (Below w.heap.size w W9) := HB7.out.trans (hb.mono HB7.out.size)
    clear hb
    go_wp2
    go_ret
    exact ⟨rfl, HB9.out⟩
  subst e1
  by_cases e2 : E2 = 0
  case neg =>
    have e2' : (E2 != 0) = true := by simpa using e2
    clear hb HB6 HQ
    go_wp2_with fail
    refine Calls.mono (HS3.out _ HB7.out) ?_
    rintro e W9 ⟨rfl, hb⟩
    have HB9 : Hid (Below w.heap.size w W9) := HB7.out.trans (hb.mono HB7.out.size)
    clear hb
    go_wp2
    go_ret
    exact ⟨rfl, HB9.out⟩
  subst e2
  have z0 := (HB6.out.2.2.1.below hb).c0
  have z1 := (HB6.out.2.2.1.below hb).c1
  have z2 := (HB6.out.2.2.1.below hb).c2
  have z3 := (HB6.out.2.2.1.below hb).c3
  have z4 := (HB6.out.2.2.1.below hb).c4
  have HF7 : Hid (FrAt W7 w.heap.size k fr t (.slice a n cap) (.string s) ∧ FrAt W7 W3.heap.size k fr t1 (.slice a n cap) (.string s)) := ⟨HB6.out.2.1.below hb, HB6.out.2.2.2.below hb⟩
  have hq := HQ.out rfl rfl
  clear hb HB6 HQ x0 x1 x2 x3 x4
  cases sm with
  | false =>
    go_wp2_with fail
    refine Calls.mono (HS2.out _ HB7.out) ?_
    rintro e W8 ⟨rfl, hb⟩
    have HB8 : Hid (Below w.heap.size w W8) := HB7.out.trans (hb.mono HB7.out.size)
    clear q0 q1 q2 q3 q4 z0 z1 z2 z3 z4
    have q0 := (HF7.out.1.below hb).c0
    have q1 := (HF7.out.1.below hb).c1
    have q2 := (HF7.out.1.below hb).c2
    have q3 := (HF7.out.1.below hb).c3
    have q4 := (HF7.out.1.below hb).c4
    have x0 := (HF7.out.2.below hb).c0
    have x1 := (HF7.out.2.below hb).c1
    have x2 := (HF7.out.2.below hb).c2
    have x3 := (HF7.out.2.below hb).c3
    have x4 := (HF7.out.2.below hb).c4
    clear hb HB7 HS2
    go_wp2_with fail
    refine Calls.mono (HS3.out _ HB8.out) ?_
    rintro e W9 ⟨rfl, hb⟩
    have HB9 : Hid (Below w.heap.size w W9) := HB8.out.trans (hb.mono HB8.out.size)
    clear hb
    go_wp2
    go_ret
    exact ⟨rfl, HB9.out⟩
  | true =>
    go_wp2_with fail
    refine Calls.mono (HS2.out _ HB7.out) ?_
    rintro e W8 ⟨rfl, hb⟩
    have HB8 : Hid (Below w.heap.size w W8) := HB7.out.trans (hb.mono HB7.out.size)
    clear q0 q1 q2 q3 q4 z0 z1 z2 z3 z4
    have q0 := (HF7.out.1.below hb).c0
    have q1 := (HF7.out.1.below hb).c1
    have q2 := (HF7.out.1.below hb).c2
    have q3 := (HF7.out.1.below hb).c3
    have q4 := (HF7.out.1.below hb).c4
    have x0 := (HF7.out.2.below hb).c0
    have x1 := (HF7.out.2.below hb).c1
    have x2 := (HF7.out.2.below hb).c2
    have x3 := (HF7.out.2.below hb).c3
    have x4 := (HF7.out.2.below hb).c4
    clear hb HB7 HS2
    go_wp2_with fail
    refine Calls.mono (HS3.out _ HB8.out) ?_
    rintro e W9 ⟨rfl, hb⟩
    have HB9 : Hid (Below w.heap.size w W9) := HB8.out.trans (hb.mono HB8.out.size)
    clear hb
    go_wp2
    go_ret
    exact ⟨rfl, HB9.out⟩

theorem apart_any (f : FrV) (a : Option Addr) (cap : Nat) (g : FrV) (a2 : Option Addr) (cap2 : Nat) (w : World) (hz : IntRow w a f.zs) (h64 : All64 f.zs) (hl : f.zs.length ≤ cap ∧ cap ≤ maxLen) (hd : f.d.length ≤ 140737488351232) (hh : B64 f.k ∧ B64 f.fr ∧ B64 f.t)
    (hz2 : IntRow w a2 g.zs) (h642 : All64 g.zs) (hl2 : g.zs.length ≤ cap2 ∧ cap2 ≤ maxLen) (hd2 : g.d.length ≤ 140737488351232) (hh2 : B64 g.k ∧ B64 g.fr ∧ B64 g.t) :
    Calls Try.prog 3 #[frOf f (.slice a f.zs.length cap), frOf g (.slice a2 g.zs.length cap2)] w fun e w' => e = .returned (.bool true) ∧ Below w.heap.size w w' := by
  by_cases h : 200 < f.zs.length ∨ 200 < g.zs.length ∨ 6000 < f.d.length + g.d.length
  · exact apart_long f g a a2 cap cap2 w h hd hd2
  · exact apart_short f g a a2 cap cap2 w hz hz2 h64 h642 hh.2.2 (by omega) (by omega) (by omega)
end Go.Proofs.Ytglkoedmonenoaa
