/- WireChanged: the law's walk. Conditions: numbers and lengths of 64 bits. -/
import Derived.Test.YtglkoedmonenoaaWrIn
namespace Go.Proofs.Ytglkoedmonenoaa
open Go.RowKit
set_option linter.unusedVariables false
set_option maxRecDepth 100000

theorem u8_xor_byte (c d : UInt8) : bits .xor .u8 (c.toNat : Int) (d.toNat : Int) = ((c ^^^ d).toNat : Int) := by
  rw [u8_xor_nat c.toNat d.toNat c.toNat_lt d.toNat_lt, UInt8.toNat_xor]
theorem tmod_bd (a : Int) (n : Nat) (hn : 1 ≤ n) : -(n : Int) < a.tmod n ∧ a.tmod n < n := by
  by_cases h : 0 ≤ a
  · rw [Int.tmod_eq_emod_of_nonneg h]
    have h1 := Int.emod_nonneg a (show (n : Int) ≠ 0 by omega)
    have h2 := Int.emod_lt_of_pos a (show (0 : Int) < n by omega)
    omega
  · have : a = -(-a) := by omega
    rw [this, Int.neg_tmod, Int.tmod_eq_emod_of_nonneg (show 0 ≤ -a by omega)]
    have h1 := Int.emod_nonneg (-a) (show (n : Int) ≠ 0 by omega)
    have h2 := Int.emod_lt_of_pos (-a) (show (0 : Int) < n by omega)
    omega
theorem getD_setB (l : List UInt8) (k j : Nat) (v : UInt8) (hk : k < l.length) : (l.set k v).getD j 0 = if k = j then v else l.getD j 0 := by
  rw [List.getD_eq_getElem?_getD, List.getD_eq_getElem?_getD, List.getElem?_set]
  by_cases e : k = j
  · subst e; simp [hk]
  · simp [e]
theorem xor_ne (c d : UInt8) (h : d ≠ 0) : c ^^^ d ≠ c := by
  intro e
  have : c ^^^ (c ^^^ d) = c ^^^ c := by rw [e]
  rw [← UInt8.xor_assoc, UInt8.xor_self, UInt8.zero_xor] at this
  exact h this
/-- What a changed frame's bytes are read as is another frame, or none of that length. -/
theorem changed_other (f : FrV) (K : Nat) (c : UInt8) (hK : K < (frameL f).length) (hc : c ≠ (frameL f).getD K 0) (h0 : readE ((frameL f).set K c) = 0) (hn : readN ((frameL f).set K c) = (frameL f).length) : readF ((frameL f).set K c) ≠ f := by
  intro e
  have h1 := (read_back _ h0).1
  rw [e, hn, List.take_of_length_le (by simp)] at h1
  have h2 : ((frameL f).set K c).getD K 0 = c := by rw [getD_setB _ _ _ _ hK, if_pos rfl]
  rw [← h1] at h2
  exact hc h2.symm

set_option maxHeartbeats 1000000 in
theorem chg_none (f : FrV) (a : Option Addr) (cap : Nat) (at' by' : Int) (w : World) (hz : IntRow w a f.zs) (h64 : All64 f.zs) (hd : f.d.length ≤ 140737488351232) (h : 3000 < f.d.length ∨ f.err ≠ 0 ∨ by' % 256 = 0) :
    Calls Try.prog 5 #[frOf f (.slice a f.zs.length cap), .int .i64 at', .int .i64 by'] w fun e w' => e = .returned (.bool true) ∧ Below w.heap.size w w' := by
  have hsz := size_text f.d
  have HP : Hid (∀ X, Below w.heap.size w X → Calls Try.prog 8 #[frOf f (.slice a f.zs.length cap)] X fun e w' => e = .returned (.tuple #[.string ⟨(if f.err = 0 then frameL f else []).toArray⟩, .int .i64 f.err]) ∧ Below X.heap.size X w') := fun X h => put_any f (hz.grow h) h64
  have hw8 : IntKind.u8.wrap by' = by' % 256 := by simp [IntKind.wrap, IntKind.bits, IntKind.signed]
  unfold frOf at *
  generalize (⟨f.d.toArray⟩ : ByteArray) = s at *
  generalize (⟨(if f.err = 0 then frameL f else []).toArray⟩ : ByteArray) = b at *
  rw [← hsz] at h hd
  generalize f.err = E at *
  generalize f.zs.length = n at *
  generalize f.k = k at *
  generalize f.fr = fr at *
  generalize f.t = t at *
  clear hsz hz h64
  generalize by' % 256 = B at *
  have HB1 : Hid (Below w.heap.size w (w.alloc (.cells #[.int .i64 k, .int .i64 fr, .int .i64 t, .slice a n cap, .string s] 26)) ∧ FrAt (w.alloc (.cells #[.int .i64 k, .int .i64 fr, .int .i64 t, .slice a n cap, .string s] 26)) w.heap.size k fr t (.slice a n cap) (.string s)) := ⟨(Below.refl _ w).alloc (Nat.le_refl _) _, frAt_new _ _ _ _ _ _⟩
  by_cases c1 : 3000 < s.size
  · have c1' : decide ((3000 : Int) < (s.size : Int)) = true := by simp; omega
    clear h
    go_enter Try.func5, Try.ntmps5
    go_wp2_with fail
    refine Calls.mono (HP.out _ HB1.out.1) ?_
    rintro e W2 ⟨rfl, hb⟩
    have HB2 : Hid (Below w.heap.size w W2) := HB1.out.1.trans (hb.mono HB1.out.1.size)
    have u4 := (HB1.out.2.below hb).c4
    clear hb HP
    go_wp2_with fail
    refine Calls.mono (alive_any _) ?_
    rintro e W3 ⟨rfl, hb⟩
    have HB3 : Hid (Below w.heap.size w W3) := HB2.out.trans (hb.mono HB2.out.size)
    clear hb
    go_wp2
    go_ret
    exact ⟨rfl, HB3.out⟩
  have c1' : decide ((3000 : Int) < (s.size : Int)) = false := by simp; omega
  by_cases c2 : E = 0
  case neg =>
    have c2' : (E != 0) = true := by simpa using c2
    clear h
    go_enter Try.func5, Try.ntmps5
    go_wp2_with fail
    refine Calls.mono (HP.out _ HB1.out.1) ?_
    rintro e W2 ⟨rfl, hb⟩
    have HB2 : Hid (Below w.heap.size w W2) := HB1.out.1.trans (hb.mono HB1.out.1.size)
    have u4 := (HB1.out.2.below hb).c4
    clear hb HP
    go_wp2_with fail
    refine Calls.mono (alive_any _) ?_
    rintro e W3 ⟨rfl, hb⟩
    have HB3 : Hid (Below w.heap.size w W3) := HB2.out.trans (hb.mono HB2.out.size)
    clear hb
    go_wp2
    go_ret
    exact ⟨rfl, HB3.out⟩
  subst c2
  have c3 : B = 0 := by rcases h with h | h | h; omega; exact absurd rfl h; exact h
  subst c3
  clear h
  go_enter Try.func5, Try.ntmps5
  go_wp2_with fail
  refine Calls.mono (HP.out _ HB1.out.1) ?_
  rintro e W2 ⟨rfl, hb⟩
  have HB2 : Hid (Below w.heap.size w W2) := HB1.out.1.trans (hb.mono HB1.out.1.size)
  have u4 := (HB1.out.2.below hb).c4
  clear hb HP
  go_wp2_with fail
  refine Calls.mono (alive_any _) ?_
  rintro e W3 ⟨rfl, hb⟩
  have HB3 : Hid (Below w.heap.size w W3) := HB2.out.trans (hb.mono HB2.out.size)
  clear hb
  go_wp2
  go_ret
  exact ⟨rfl, HB3.out⟩

theorem BS.changed {W : World} {g cap : Nat} {l : List UInt8} (h : BS W (some ⟨g, 0, none⟩) cap l) (K : Nat) (c : UInt8) (hK : K < l.length) : BS (W.setCell ⟨g, K, none⟩ (.int .u8 (c.toNat : Int))) (some ⟨g, 0, none⟩) cap (l.set K c) := by
  refine ⟨fun i hi => ⟨g, 0, rfl, ?_⟩, by simpa using h.le, h.nil, h.most⟩
  rw [List.length_set] at hi
  obtain ⟨b, off, e, hc⟩ := h.row i hi
  cases e
  rw [Nat.zero_add] at hc ⊢
  by_cases e : K = i
  · subst e
    rw [World.cell?_setCell_same _ _ _ hc, getD_setB _ _ _ _ hK, if_pos rfl]
  · rw [cell_oo _ _ _ _ _ _ (fun h => e h.symm), hc, getD_setB _ _ _ _ hK, if_neg e]
set_option maxHeartbeats 4000000 in
theorem chg_in (f : FrV) (a : Option Addr) (cap : Nat) (at' by' : Int) (w : World) (hz : IntRow w a f.zs) (h64 : All64 f.zs) (hd : f.d.length ≤ 3000) (h0 : f.err = 0) (d : UInt8) (hd1 : by' % 256 = (d.toNat : Int)) (hd0 : d ≠ 0) (b1 : -9223372036854775808 ≤ at') (b2 : at' ≤ 9223372036854775807)
    (K : Nat) (hK : K < (frameL f).length) (hkk : (at'.tmod (frameL f).length = K) ∨ (at'.tmod (frameL f).length < 0 ∧ at'.tmod (frameL f).length + (frameL f).length = K)) :
    Calls Try.prog 5 #[frOf f (.slice a f.zs.length cap), .int .i64 at', .int .i64 by'] w fun e w' => e = .returned (.bool true) ∧ Below w.heap.size w w' := by
  have hsz := size_text f.d
  have ok := FrV.err_ok h0
  have HP : Hid (∀ X, Below w.heap.size w X → Calls Try.prog 8 #[frOf f (.slice a f.zs.length cap)] X fun e w' => e = .returned (.tuple #[.string ⟨(frameL f).toArray⟩, .int .i64 0]) ∧ Below X.heap.size X w') := fun X h => put_good f h0 (hz.grow h) h64
  have hw8 : IntKind.u8.wrap by' = (d.toNat : Int) := by rw [← hd1]; simp [IntKind.wrap, IntKind.bits, IntKind.signed]
  have hd8 : ((d.toNat : Int) == 0) = false := by
    rw [beq_eq_false_iff_ne]; intro e
    exact hd0 (UInt8.toNat_inj.1 (by simp; omega))
  have hfl := frameL_len f
  have hok4 := ok.n
  obtain ⟨L, hL⟩ : ∃ L, (frameL f).set K ((frameL f).getD K 0 ^^^ d) = L := ⟨_, rfl⟩
  have HO : Hid (readE L = 0 → readN L = (frameL f).length → readF L ≠ f) := by
    rw [← hL]; exact changed_other f K _ hK (xor_ne _ _ hd0)
  have hLl : L.length = (frameL f).length := by rw [← hL]; simp
  have HG : Hid (∀ X, Calls Try.prog 10 #[.string ⟨L.toArray⟩] X fun e w' => ∃ v, e = .returned v ∧ GotIs X w' L v ∧ Below X.heap.size X w') := fun X => get_any _ X (by rw [size_text, hLl]; unfold maxLen; omega)
  have HS : Hid (∀ X F g c2, Below w.heap.size w X → F ≠ f → IntRow X (some ⟨g, 0, none⟩) F.zs → F.zs.length ≤ 1000000 → Calls Try.prog 9 #[frOf f (.slice a f.zs.length cap), frOf F (.slice (some ⟨g, 0, none⟩) F.zs.length c2)] X fun e w' => e = .returned (.bool false) ∧ Below X.heap.size X w') := fun X F g c2 hb hne hg hl => by
    have := same_any f F (cap := cap) (cap2 := c2) (hz.grow hb) hg (by omega) (by omega)
    have e : f.same F = false := by
      rw [Bool.eq_false_iff, ne_eq, FrV.same_iff]; intro e; exact hne e.symm
    rw [e] at this
    exact this
  have HZL : Hid (readE L = 0 → (readF L).zs.length ≤ 1000000) := fun h => by
    have := (read_back L h).2.2.2.n; omega
  have hx := u8_xor_byte ((frameL f).getD K 0) d
  have hss := size_text (frameL f)
  have hb9 : (frameL f).length ≤ 100000 := by omega
  have HCV : Hid (∀ X : World, ∃ (X3 : World) (c3 : Nat), (convert 9 35 (.string ⟨(frameL f).toArray⟩)).run Try.prog X = .ok (.slice (some ⟨X.heap.size, 0, none⟩) (frameL f).length c3) X3 ∧ Below X.heap.size X X3 ∧ X3.heap.size = X.heap.size + 1 ∧ X3.cell? ⟨X.heap.size, K, none⟩ = some (.int .u8 ((frameL f).getD K 0).toNat) ∧ X3.frozen? ⟨X.heap.size, K, none⟩ = false ∧ (frameL f).length ≤ c3 ∧ c3 ≤ 9223372036854775807 ∧
      (convert 35 9 (.slice (some ⟨X.heap.size, 0, none⟩) (frameL f).length c3)).run Try.prog (X3.setCell ⟨X.heap.size, K, none⟩ (.int .u8 (((frameL f).getD K 0 ^^^ d).toNat : Int))) = .ok (.string ⟨L.toArray⟩) (X3.setCell ⟨X.heap.size, K, none⟩ (.int .u8 (((frameL f).getD K 0 ^^^ d).toNat : Int)))) := fun X => by
    obtain ⟨X3, c3, q1, q2, q3, q4, q5⟩ := conv_row X ⟨(frameL f).toArray⟩ (by rw [size_text]; unfold maxLen; omega)
    rw [size_text] at q1 q5
    have q3 : BS X3 (some ⟨X.heap.size, 0, none⟩) c3 (frameL f) := q3
    refine ⟨X3, c3, q1, q2, q4, ?_, q5 K hK, q3.le, q3.most, ?_⟩
    · obtain ⟨b', off, e, hc⟩ := q3.row K hK
      cases e
      rw [Nat.zero_add] at hc; exact hc
    · have := (q3.changed K ((frameL f).getD K 0 ^^^ d) hK).back (frameL f).length (by simp)
      rw [hL] at this; exact this
  unfold frOf at *
  generalize (⟨f.d.toArray⟩ : ByteArray) = s at *
  generalize (⟨(frameL f).toArray⟩ : ByteArray) = b at *
  generalize (⟨L.toArray⟩ : ByteArray) = b' at *
  rw [← hss] at hK hkk hfl hb9 HCV HO
  have hb17 : 17 ≤ b.size := by omega
  rw [← hsz] at hd
  clear hsz hz h64 ok hss hok4 hfl hLl hL h0 hd1 hd0
  generalize (frameL f).getD K 0 = c at *
  have hxl := (c ^^^ d).toNat_lt
  generalize hcx : (c ^^^ d).toNat = cx at *
  clear hcx
  generalize f.zs.length = n at *
  generalize hk : f.k = k at *
  generalize hfr : f.fr = fr at *
  generalize ht : f.t = t at *
  clear hk hfr ht
  have c1' : decide ((3000 : Int) < (s.size : Int)) = false := by simp; omega
  have c4' : ((b.size : Int) == 0) = false := by rw [beq_eq_false_iff_ne]; omega
  rcases hkk with hkk | ⟨hk0, hkk⟩
  all_goals
    go_enter Try.func5, Try.ntmps5
    go_wp2_with fail
    obtain ⟨W1, hW1⟩ : ∃ Z, w.alloc (.cells #[.int .i64 k, .int .i64 fr, .int .i64 t, .slice a n cap, .string s] 26) = Z := ⟨_, rfl⟩
    rw [hW1]
    have HB1 : Hid (Below w.heap.size w W1 ∧ FrAt W1 w.heap.size k fr t (.slice a n cap) (.string s)) := by
      subst hW1; exact ⟨(Below.refl _ w).alloc (Nat.le_refl _) _, frAt_new _ _ _ _ _ _⟩
    clear hW1
    refine Calls.mono (HP.out _ HB1.out.1) ?_
    rintro e W2 ⟨rfl, hb⟩
    have HB2 : Hid (Below w.heap.size w W2 ∧ FrAt W2 w.heap.size k fr t (.slice a n cap) (.string s)) := ⟨HB1.out.1.trans (hb.mono HB1.out.1.size), HB1.out.2.below hb⟩
    clear hb HB1 HP
    have u4 := HB2.out.2.c4
    obtain ⟨W3, c3, hcv, hb3, hs3, hc3, hf3, hl3, hm3, hcv4⟩ := HCV.out W2
    have HB4 : Hid (Below w.heap.size w (W3.setCell ⟨W2.heap.size, K, none⟩ (.int .u8 (cx : Int))) ∧ FrAt (W3.setCell ⟨W2.heap.size, K, none⟩ (.int .u8 (cx : Int))) w.heap.size k fr t (.slice a n cap) (.string s)) := by
      have hm : Mod [W2.heap.size] W3 (W3.setCell ⟨W2.heap.size, K, none⟩ (.int .u8 (cx : Int))) := (Mod.refl _ _).setCell _ _ _ (by simp)
      have l := HB2.out.2.lt
      have q := HB2.out.1.trans (hb3.mono HB2.out.1.size)
      exact ⟨hm.below q (by simp; omega), (HB2.out.2.below hb3).mod hm (by simp; omega)⟩
    clear hb3 hs3 HCV HB2
    go_wp2_with fail
    refine Calls.mono (HG.out _) ?_
    rintro e W5 ⟨v, rfl, hG, hb⟩
    have HB5 : Hid (Below w.heap.size w W5 ∧ FrAt W5 w.heap.size k fr t (.slice a n cap) (.string s)) := ⟨HB4.out.1.trans (hb.mono HB4.out.1.size), HB4.out.2.below hb⟩
    clear hb HB4 HG hcv hcv4 hc3 hf3 u4 hx
    rcases hG with ⟨hE, rfl⟩ | ⟨hE, g, rfl, hin, _, hg⟩
    · have hE' : (readE L != 0) = true := by simpa using hE
      clear hE HO HZL
      generalize readE L = E at *
      go_wp2_with fail
      refine Calls.mono (alive_any _) ?_
      rintro e W7 ⟨rfl, hb⟩
      have HB7 : Hid (Below w.heap.size w W7) := HB5.out.1.trans ((((Below.refl _ W5).alloc (Nat.le_refl _) _).trans (hb.mono (by simp))).mono HB5.out.1.size)
      clear hb
      go_wp2
      go_ret
      exact ⟨rfl, HB7.out⟩
    · have HO2 := HO.out hE
      have HZ2 := HZL.out hE
      have HIN : Hid (IntRow W5 (some ⟨g, 0, none⟩) (readF L).zs) := hin
      clear hE HO HZL hin hg
      generalize readN L = N at *
      generalize readF L = F at *
      have hS := HS.out
      by_cases hN : N = b.size
      · have HNE : Hid (F ≠ f) := HO2 hN
        subst hN
        have HZ3 : Hid (F.zs.length ≤ 1000000) := HZ2
        clear HO2 HZ2 hS
        go_wp2_with fail
        refine Calls.mono (alive_any _) ?_
        rintro e W7 ⟨rfl, hb⟩
        have hb6 := ((Below.refl _ W5).alloc (Nat.le_refl _) (.cells #[.int .i64 F.k, .int .i64 F.fr, .int .i64 F.t, .slice (some ⟨g, 0, none⟩) F.zs.length F.zs.length, .string ⟨F.d.toArray⟩] 26)).trans (hb.mono (by simp))
        have HB7 : Hid (Below w.heap.size w W7 ∧ IntRow W7 (some ⟨g, 0, none⟩) F.zs) := ⟨HB5.out.1.trans (hb6.mono HB5.out.1.size), HIN.out.grow hb6⟩
        have hF7 := HB5.out.2.below hb6
        have u0 := hF7.c0
        have u1 := hF7.c1
        have u2 := hF7.c2
        have u3 := hF7.c3
        have u4 := hF7.c4
        have hF8 := (frAt_new W5 F.k F.fr F.t (.slice (some ⟨g, 0, none⟩) F.zs.length F.zs.length) (.string ⟨F.d.toArray⟩)).below hb
        have x0 := hF8.c0
        have x1 := hF8.c1
        have x2 := hF8.c2
        have x3 := hF8.c3
        have x4 := hF8.c4
        clear hb hb6 hF7 hF8 HB5 HIN
        go_wp2_with fail
        refine Calls.mono (HS.out _ F g F.zs.length HB7.out.1 HNE.out HB7.out.2 HZ3.out) ?_
        rintro e W9 ⟨rfl, hb⟩
        have HB9 : Hid (Below w.heap.size w W9) := HB7.out.1.trans (hb.mono HB7.out.1.size)
        clear hb
        go_wp2
        go_ret
        exact ⟨rfl, HB9.out⟩
      · have hN' : ((N : Int) != (b.size : Int)) = true := by simp; omega
        clear HO2 HZ2 hS hN
        go_wp2_with fail
        refine Calls.mono (alive_any _) ?_
        rintro e W7 ⟨rfl, hb⟩
        have HB7 : Hid (Below w.heap.size w W7) := HB5.out.1.trans ((((Below.refl _ W5).alloc (Nat.le_refl _) _).trans (hb.mono (by simp))).mono HB5.out.1.size)
        clear hb
        go_wp2
        go_ret
        exact ⟨rfl, HB7.out⟩
theorem chg_any (f : FrV) (a : Option Addr) (cap : Nat) (at' by' : Int) (w : World) (hz : IntRow w a f.zs) (h64 : All64 f.zs) (hl : f.zs.length ≤ cap ∧ cap ≤ maxLen) (hd : f.d.length ≤ 140737488351232) (hh : B64 f.k ∧ B64 f.fr ∧ B64 f.t) (ha : -9223372036854775808 ≤ at' ∧ at' ≤ 9223372036854775807) (hb : -9223372036854775808 ≤ by' ∧ by' ≤ 9223372036854775807) :
    Calls Try.prog 5 #[frOf f (.slice a f.zs.length cap), .int .i64 at', .int .i64 by'] w fun e w' => e = .returned (.bool true) ∧ Below w.heap.size w w' := by
  by_cases h : 3000 < f.d.length ∨ f.err ≠ 0 ∨ by' % 256 = 0
  · exact chg_none f a cap at' by' w hz h64 hd h
  have h0 : f.err = 0 := Classical.byContradiction fun e => h (.inr (.inl e))
  have h3 : by' % 256 ≠ 0 := fun e => h (.inr (.inr e))
  have hbd := tmod_bd at' (frameL f).length (by rw [frameL_len]; omega)
  have hd1 : by' % 256 = ((UInt8.ofNat (by' % 256).toNat).toNat : Int) := by
    rw [UInt8.toNat_ofNat_of_lt' (show (by' % 256).toNat < 256 by omega)]; omega
  have hd0 : UInt8.ofNat (by' % 256).toNat ≠ 0 := fun e => by
    rw [e] at hd1; exact h3 hd1
  by_cases hk : at'.tmod (frameL f).length < 0
  · exact chg_in f a cap at' by' w hz h64 (by omega) h0 _ hd1 hd0 ha.1 ha.2 (at'.tmod (frameL f).length + (frameL f).length).toNat (by omega) (.inr ⟨hk, by omega⟩)
  · exact chg_in f a cap at' by' w hz h64 (by omega) h0 _ hd1 hd0 ha.1 ha.2 (at'.tmod (frameL f).length).toNat (by omega) (.inl (by omega))
end Go.Proofs.Ytglkoedmonenoaa
