/- WireBack: the law's walk. Conditions: numbers and lengths of 64 bits. -/
import Derived.Test.YtglkoedmonenoaaWrIn
namespace Go.Proofs.Ytglkoedmonenoaa
open Go.RowKit
set_option linter.unusedVariables false
set_option maxRecDepth 100000

theorem tmod_bd (a : Int) (n : Nat) (hn : 1 ≤ n) : -(n : Int) < a.tmod n ∧ a.tmod n < n := by
  by_cases h : 0 ≤ a
  · rw [Int.tmod_eq_emod_of_nonneg h]
    have h1 := Int.emod_nonneg a (show (n : Int) ≠ 0 by omega)
    have h2 := Int.emod_lt_of_pos a (show (0 : Int) < n by omega)
    omega
  · have : a = -(-a) := by omega
    rw [this, Int.neg_tmod, Int.tmod_eq_emod_of_nonneg (show 0 ≤ -a by omega)]
    have h1 := Int.emod_nonneg (-a) (show (n : Int) ≠ 0 by omega)
    have h2 := Int.emod_lt_of_pos (-a) (show (0 : Int) < n by omega)
    omega
/-- A frame in a box of its own. -/
@[reducible] def boxed (w : World) (f : FrV) (v : Value) (s : ByteArray) : World := w.alloc (.cells #[.int .i64 f.k, .int .i64 f.fr, .int .i64 f.t, v, .string s] 26)
set_option maxHeartbeats 1000000 in
theorem back_long (f : FrV) (a : Option Addr) (cap : Nat) (more : ByteArray) (cut : Int) (w : World) (h : 200 < f.zs.length ∨ 3000 < f.d.length ∨ 300 < more.size) (hm : more.size ≤ maxLen) :
    Calls Try.prog 4 #[frOf f (.slice a f.zs.length cap), .string more, .int .i64 cut] w fun e w' => e = .returned (.bool true) ∧ Below w.heap.size w w' := by
  have hsz := size_text f.d
  unfold frOf
  generalize (⟨f.d.toArray⟩ : ByteArray) = s at *
  rw [← hsz] at h
  clear hsz
  have HB : Hid (Below w.heap.size w (w.alloc (.cells #[.int .i64 f.k, .int .i64 f.fr, .int .i64 f.t, .slice a f.zs.length cap, .string s] 26))) := (Below.refl _ w).alloc (Nat.le_refl _) _
  generalize f.zs.length = n at *
  unfold maxLen at hm
  by_cases c1 : 200 < n
  · have c1' : decide ((200 : Int) < (n : Int)) = true := by simp; omega
    clear h
    go_enter Try.func4, Try.ntmps4
    go_wp2_with fail
    refine Calls.mono (alive_any _) ?_
    rintro e W2 ⟨rfl, hb⟩
    have HB2 : Hid (Below w.heap.size w W2) := HB.out.trans (hb.mono HB.out.size)
    clear hb
    go_wp2
    go_ret
    exact ⟨rfl, HB2.out⟩
  have c1' : decide ((200 : Int) < (n : Int)) = false := by simp; omega
  by_cases c2 : 3000 < s.size
  · have c2' : decide ((3000 : Int) < (s.size : Int)) = true := by simp; omega
    clear h
    go_enter Try.func4, Try.ntmps4
    go_wp2_with fail
    refine Calls.mono (alive_any _) ?_
    rintro e W2 ⟨rfl, hb⟩
    have HB2 : Hid (Below w.heap.size w W2) := HB.out.trans (hb.mono HB.out.size)
    clear hb
    go_wp2
    go_ret
    exact ⟨rfl, HB2.out⟩
  have c2' : decide ((3000 : Int) < (s.size : Int)) = false := by simp; omega
  have c3 : 300 < more.size := by omega
  have c3' : decide ((300 : Int) < (more.size : Int)) = true := by simp; omega
  clear h
  go_enter Try.func4, Try.ntmps4
  go_wp2_with fail
  refine Calls.mono (alive_any _) ?_
  rintro e W2 ⟨rfl, hb⟩
  have HB2 : Hid (Below w.heap.size w W2) := HB.out.trans (hb.mono HB.out.size)
  clear hb
  go_wp2
  go_ret
  exact ⟨rfl, HB2.out⟩

set_option maxHeartbeats 1000000 in
theorem back_not (f : FrV) (a : Option Addr) (cap : Nat) (more : ByteArray) (cut : Int) (w : World) (h1 : f.zs.length ≤ 200) (h2 : f.d.length ≤ 3000) (h3 : more.size ≤ 300) (h0 : f.err ≠ 0) :
    Calls Try.prog 4 #[frOf f (.slice a f.zs.length cap), .string more, .int .i64 cut] w fun e w' => e = .returned (.bool true) ∧ Below w.heap.size w w' := by
  have hsz := size_text f.d
  have HP : Hid (∀ X, Calls Try.prog 8 #[frOf f (.slice a f.zs.length cap)] X fun e w' => e = .returned (.tuple #[.string ⟨#[]⟩, .int .i64 f.err]) ∧ Below X.heap.size X w') := fun X => put_not f h0
  have hne : (f.err != 0) = true := by simpa using h0
  unfold frOf at *
  generalize (⟨f.d.toArray⟩ : ByteArray) = s at *
  rw [← hsz] at h2
  clear hsz h0
  generalize f.err = E at *
  have HB : Hid (Below w.heap.size w (w.alloc (.cells #[.int .i64 f.k, .int .i64 f.fr, .int .i64 f.t, .slice a f.zs.length cap, .string s] 26))) := (Below.refl _ w).alloc (Nat.le_refl _) _
  have c1' : decide ((200 : Int) < (f.zs.length : Int)) = false := by simp; omega
  have c2' : decide ((3000 : Int) < (s.size : Int)) = false := by simp; omega
  have c3' : decide ((300 : Int) < (more.size : Int)) = false := by simp; omega
  go_enter Try.func4, Try.ntmps4
  go_wp2_with fail
  refine Calls.mono (HP.out _) ?_
  rintro e W2 ⟨rfl, hb⟩
  have HB2 : Hid (Below w.heap.size w W2) := HB.out.trans (hb.mono HB.out.size)
  clear hb HP HB
  go_wp2_with fail
  refine Calls.mono (alive_any _) ?_
  rintro e W3 ⟨rfl, hb⟩
  have HB3 : Hid (Below w.heap.size w W3) := HB2.out.trans (hb.mono HB2.out.size)
  clear hb
  go_wp2
  go_ret
  exact ⟨rfl, HB3.out⟩

set_option maxHeartbeats 4000000 in
theorem back_good (f : FrV) (a : Option Addr) (cap : Nat) (more : ByteArray) (cut : Int) (w : World) (hz : IntRow w a f.zs) (h64 : All64 f.zs) (h1 : f.zs.length ≤ 200) (h2 : f.d.length ≤ 3000) (h3 : more.size ≤ 300) (h0 : f.err = 0) (b1 : -9223372036854775808 ≤ cut) (b2 : cut ≤ 9223372036854775807)
    (K : Nat) (hK : K < (frameL f).length) (hkk : (cut.tmod (frameL f).length = K) ∨ (cut.tmod (frameL f).length < 0 ∧ cut.tmod (frameL f).length + (frameL f).length = K)) :
    Calls Try.prog 4 #[frOf f (.slice a f.zs.length cap), .string more, .int .i64 cut] w fun e w' => e = .returned (.bool true) ∧ Below w.heap.size w w' := by
  have hsz := size_text f.d
  have ok := FrV.err_ok h0
  have HP : Hid (∀ X, Below w.heap.size w X → Calls Try.prog 8 #[frOf f (.slice a f.zs.length cap)] X fun e w' => e = .returned (.tuple #[.string ⟨(frameL f).toArray⟩, .int .i64 0]) ∧ Below X.heap.size X w') := fun X h => put_good f h0 (hz.grow h) h64
  have hfl := frameL_len f
  have hok4 := ok.n
  have HG : Hid (∀ X, Calls Try.prog 10 #[.string (⟨(frameL f).toArray⟩ ++ more)] X fun e w' => ∃ g, e = .returned (.tuple #[frOf f (.slice (some ⟨g, 0, none⟩) f.zs.length f.zs.length), .int .i64 ((frameL f).length : Int), .int .i64 0]) ∧ IntRow w' (some ⟨g, 0, none⟩) f.zs ∧ X.heap.size ≤ g ∧ Below X.heap.size X w') := fun X => by
    refine Calls.mono (get_any _ X (by rw [ByteArray.size_append, size_text]; unfold maxLen; omega)) ?_
    rintro e w' ⟨v, rfl, hG, hb⟩
    have hG : GotIs X w' (frameL f ++ more.data.toList) v := by
      have e : ((⟨(frameL f).toArray⟩ : ByteArray) ++ more).data.toList = frameL f ++ more.data.toList := by simp
      rw [e] at hG; exact hG
    obtain ⟨g, rfl, q1, q2, q3⟩ := got_frame f ok h64 _ hG
    exact ⟨g, rfl, q1, q3, hb⟩
  have HG2 : Hid (∀ X, Calls Try.prog 10 #[.string ((⟨(frameL f).toArray⟩ : ByteArray).extract 0 K)] X fun e w' => e = .returned (.tuple #[zeroFr, .int .i64 0, .int .i64 5]) ∧ Below X.heap.size X w') := fun X => by
    refine Calls.mono (get_any _ X (by rw [ByteArray.size_extract, size_text]; unfold maxLen; omega)) ?_
    rintro e w' ⟨v, rfl, hG, hb⟩
    have hG : GotIs X w' ((frameL f).take K) v := by
      have e : ((⟨(frameL f).toArray⟩ : ByteArray).extract 0 K).data.toList = (frameL f).take K := by simp
      rw [e] at hG; exact hG
    rw [got_part f ok h64 K hK hG]
    exact ⟨rfl, hb⟩
  have HS : Hid (∀ X g, Below w.heap.size w X → IntRow X (some ⟨g, 0, none⟩) f.zs → Calls Try.prog 9 #[frOf f (.slice a f.zs.length cap), frOf f (.slice (some ⟨g, 0, none⟩) f.zs.length f.zs.length)] X fun e w' => e = .returned (.bool true) ∧ Below X.heap.size X w') := fun X g hb hg => by
    have := same_any f f (cap := cap) (cap2 := f.zs.length) (hz.grow hb) hg (by omega) (by omega)
    rw [(FrV.same_iff f f).2 rfl] at this
    exact this
  have hss := size_text (frameL f)
  have hb9 : (frameL f).length ≤ 100000 := by omega
  unfold frOf at *
  generalize (⟨f.d.toArray⟩ : ByteArray) = s at *
  generalize (⟨(frameL f).toArray⟩ : ByteArray) = b at *
  rw [← hsz] at h2
  rw [← hss] at hK hkk hfl HG hb9
  clear hsz h0 hz h64 ok hss
  have hb17 : 17 ≤ b.size := by omega
  generalize f.zs.length = n at *
  generalize f.k = k at *
  generalize f.fr = fr at *
  generalize f.t = t at *
  clear hfl hok4
  have c1' : decide ((200 : Int) < (n : Int)) = false := by simp; omega
  have c2' : decide ((3000 : Int) < (s.size : Int)) = false := by simp; omega
  have c3' : decide ((300 : Int) < (more.size : Int)) = false := by simp; omega
  have c4' : ((b.size : Int) == 0) = false := by rw [beq_eq_false_iff_ne]; omega
  go_enter Try.func4, Try.ntmps4
  go_wp2_with fail
  obtain ⟨W1, hW1⟩ : ∃ Z, w.alloc (.cells #[.int .i64 k, .int .i64 fr, .int .i64 t, .slice a n cap, .string s] 26) = Z := ⟨_, rfl⟩
  rw [hW1]
  have HB1 : Hid (Below w.heap.size w W1 ∧ FrAt W1 w.heap.size k fr t (.slice a n cap) (.string s)) := by
    subst hW1; exact ⟨(Below.refl _ w).alloc (Nat.le_refl _) _, frAt_new _ _ _ _ _ _⟩
  clear hW1
  refine Calls.mono (HP.out _ HB1.out.1) ?_
  rintro e W2 ⟨rfl, hb⟩
  have HB2 : Hid (Below w.heap.size w W2 ∧ FrAt W2 w.heap.size k fr t (.slice a n cap) (.string s)) := ⟨HB1.out.1.trans (hb.mono HB1.out.1.size), HB1.out.2.below hb⟩
  clear hb HB1 HP
  go_wp2_with fail
  refine Calls.mono (HG.out _) ?_
  rintro e W3 ⟨g, rfl, hin, hg, hb⟩
  have HB3 : Hid (Below w.heap.size w W3 ∧ FrAt W3 w.heap.size k fr t (.slice a n cap) (.string s) ∧ IntRow W3 (some ⟨g, 0, none⟩) f.zs) := ⟨HB2.out.1.trans (hb.mono HB2.out.1.size), HB2.out.2.below hb, hin⟩
  have hxl : w.heap.size < W3.heap.size := HB3.out.2.1.lt
  have u0 := HB3.out.2.1.c0
  have u1 := HB3.out.2.1.c1
  have u2 := HB3.out.2.1.c2
  have u3 := HB3.out.2.1.c3
  have u4 := HB3.out.2.1.c4
  clear hin hg hb HB2 HG
  go_wp2_with fail
  have hb4 : Below W3.heap.size W3 (W3.alloc (.cells #[.int .i64 k, .int .i64 fr, .int .i64 t, .slice (some ⟨g, 0, none⟩) n n, .string s] 26)) := (Below.refl _ _).alloc (Nat.le_refl _) _
  refine Calls.mono (HS.out _ g (HB3.out.1.trans (hb4.mono HB3.out.1.size)) (HB3.out.2.2.grow hb4)) ?_
  rintro e W5 ⟨rfl, hb⟩
  have HB5 : Hid (Below w.heap.size w W5) := HB3.out.1.trans ((hb4.trans (hb.mono hb4.size)).mono HB3.out.1.size)
  clear hb hb4 HS HB3 u0 u1 u2 u3 u4 hxl
  rcases hkk with hkk | ⟨hk0, hkk⟩
  all_goals
    go_wp2_with fail
    refine Calls.mono (HG2.out _) ?_
    rintro e W6 ⟨rfl, hb⟩
    have HB6 : Hid (Below w.heap.size w W6) := HB5.out.trans (hb.mono HB5.out.size)
    clear hb
    go_wp2_with fail
    have hb7 : Below W6.heap.size W6 (W6.alloc (.cells #[.int .i64 0, .int .i64 0, .int .i64 0, .slice none 0 0, .string ⟨#[]⟩] 26)) := (Below.refl _ _).alloc (Nat.le_refl _) _
    refine Calls.mono (alive_any _) ?_
    rintro e W8 ⟨rfl, hb⟩
    have HB8 : Hid (Below w.heap.size w W8) := HB6.out.trans ((hb7.trans (hb.mono hb7.size)).mono HB6.out.size)
    clear hb hb7
    go_wp2
    go_ret
    exact ⟨rfl, HB8.out⟩
theorem back_any (f : FrV) (a : Option Addr) (cap : Nat) (more : ByteArray) (cut : Int) (w : World) (hz : IntRow w a f.zs) (h64 : All64 f.zs) (hl : f.zs.length ≤ cap ∧ cap ≤ maxLen) (hd : f.d.length ≤ maxLen) (hh : B64 f.k ∧ B64 f.fr ∧ B64 f.t) (hm : more.size ≤ 140737488351232) (hc : -9223372036854775808 ≤ cut ∧ cut ≤ 9223372036854775807) :
    Calls Try.prog 4 #[frOf f (.slice a f.zs.length cap), .string more, .int .i64 cut] w fun e w' => e = .returned (.bool true) ∧ Below w.heap.size w w' := by
  by_cases h : 200 < f.zs.length ∨ 3000 < f.d.length ∨ 300 < more.size
  · exact back_long f a cap more cut w h (by unfold maxLen; omega)
  by_cases h0 : f.err = 0
  · have hb := tmod_bd cut (frameL f).length (by rw [frameL_len]; omega)
    by_cases hk : cut.tmod (frameL f).length < 0
    · exact back_good f a cap more cut w hz h64 (by omega) (by omega) (by omega) h0 hc.1 hc.2 (cut.tmod (frameL f).length + (frameL f).length).toNat (by omega) (.inr ⟨hk, by omega⟩)
    · exact back_good f a cap more cut w hz h64 (by omega) (by omega) (by omega) h0 hc.1 hc.2 (cut.tmod (frameL f).length).toNat (by omega) (.inl (by omega))
  · exact back_not f a cap more cut w (by omega) (by omega) (by omega) h0
end Go.Proofs.Ytglkoedmonenoaa
