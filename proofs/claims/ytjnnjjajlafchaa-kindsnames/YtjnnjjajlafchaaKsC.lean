/- KindsNames' walk. Conditions: names of at most 2^63 - 1 bytes. -/
import Derived.Test.YtjnnjjajlafchaaKsB
import Derived.Test.YtjnnjjajlafchaaOwnR
import Derived.Test.YtjnnjjajlafchaaKnIn
namespace Go.Proofs.Ytjnnjjajlafchaa
open Go.RowKit
set_option linter.unusedVariables false
set_option maxRecDepth 100000

def markS : Sig := ⟨⟨#[109, 97, 114, 107]⟩, ⟨#[]⟩, 0, 0⟩
theorem SigRow.rowOf {W : World} {a : Option Addr} {l : List Sig} (h : SigRow W a l) : RowOf sigC 4 W a l := by
  intro i hi
  obtain ⟨b, off, e, h0, h1, h2, h3⟩ := h i hi
  refine ⟨b, off, e, fun j hj => ?_⟩
  rw [show (default : Sig) = sig0 from rfl]
  have : j = 0 ∨ j = 1 ∨ j = 2 ∨ j = 3 := by omega
  rcases this with rfl | rfl | rfl | rfl
  · simpa [sigC] using h0
  · simpa [sigC] using h1
  · simpa [sigC] using h2
  · simpa [sigC] using h3
/-- 'append(append([]api.Signal(nil), l...), mark)': a row of its own. -/
theorem marked (W : World) (a : Option Addr) (l : List Sig) (cap : Nat) (h : SigRow W a l) (ha : a = none → cap = 0) (hl : l.length ≤ 1000) :
    ∃ v1 W1 a2 c2 W2, (Builtin.append_ #[22, 22] 22 #[.slice none 0 0, .slice a l.length cap]).run Try.prog W = .ok v1 W1 ∧
      (Builtin.append_ #[22, 22] 22 #[v1, .slice (some ⟨W1.heap.size, 0, none⟩) 1 1]).run Try.prog (W1.alloc (.cells #[.string ⟨#[109, 97, 114, 107]⟩, .string ⟨#[]⟩, .int .i64 0, .int .i64 0] 27)) = .ok (.slice a2 (l.length + 1) c2) W2 ∧
      SigRow W2 a2 (l ++ [markS]) ∧ Below W.heap.size W W2 ∧ l.length + 1 ≤ c2 := by
  obtain ⟨v1, W1, k1, o1, g1, p1⟩ := Own.appendRow sigC_len sigC_one Try.underlying22 infoSig rfl (by omega) W W.heap.size (.slice none 0 0) [] (Own.nil _ _ _ _ _) a l cap ha h.rowOf (by unfold maxLen; simp; omega) (by simp; omega) (Nat.le_refl _)
  have m1 : Mod [] W W1 := Mod.grown g1
  obtain ⟨Y, hY⟩ : ∃ Y, W1.alloc (.cells #[.string ⟨#[109, 97, 114, 107]⟩, .string ⟨#[]⟩, .int .i64 0, .int .i64 0] 27) = Y := ⟨_, rfl⟩
  have mY : Mod [] W1 Y := by rw [← hY]; exact (Mod.refl _ _).alloc _
  obtain ⟨v2, W2, k2, o2, g2, p2⟩ := Own.append sigC_len sigC_one Try.underlying22 infoSig rfl (by omega) Y W.heap.size v1 _ (o1.mod mY (by simp)) markS W1.heap.size
    (by intro j hj; rw [← hY]; have : j = 0 ∨ j = 1 ∨ j = 2 ∨ j = 3 := by omega
        rcases this with rfl | rfl | rfl | rfl <;> simp [go_sem, sigC, markS]) (by unfold maxLen; simp; omega) (by simp; omega) (by have := m1.size; have := mY.size; omega)
  obtain ⟨a2, c2, hv, hrow, _⟩ := OSig.row o2
  have hlen : ([] ++ l ++ [markS]).length = l.length + 1 := by simp
  rw [hlen] at hv
  have hcap : l.length + 1 ≤ c2 := by
    rcases o2.2 with ⟨e, _⟩ | ⟨g, cap', cur, e, _, _, q, _⟩
    · rw [e] at hv; cases hv
    · rw [hv, hlen] at e; cases e; rw [hlen] at q; exact q
  subst hv
  refine ⟨v1, W1, a2, c2, W2, k1, by rw [hY]; exact k2, by simpa using hrow, ?_, hcap⟩
  refine ((m1.belowOf (Nat.le_refl _) (by simp)).trans (mY.belowOf m1.size (by simp))).trans ((Mod.grown g2).belowOf (by have := m1.size; have := mY.size; omega) fun g hg => ?_)
  exact (Own.lt o1 g (by simpa using hg)).1
theorem mark_at {W : World} {a : Option Addr} {l : List Sig} (h : SigRow W a (l ++ [markS])) : ∃ b off, a = some ⟨b, off, none⟩ ∧ W.cell? ⟨b, off + l.length * 4, none⟩ = some (.string ⟨#[109, 97, 114, 107]⟩) := by
  obtain ⟨b, off, e, h0, _⟩ := h l.length (by simp)
  refine ⟨b, off, e, ?_⟩
  have : (l ++ [markS]).getD l.length sig0 = markS := by simp [List.getD_eq_getElem?_getD]
  rw [this] at h0; exact h0
theorem newE_ok (l : List Sig) : ∀ acc, (newE acc l).1 = 0 → (newE acc l).2 = ⟨#[]⟩ := by
  induction l with
  | nil => intro acc _; rfl
  | cons x r ih =>
    intro acc h
    simp only [newE] at h ⊢
    split
    · rename_i h0; rw [if_pos h0] at h; exact ih _ h
    · rename_i h0; rw [if_neg h0] at h; exact absurd h h0
set_option maxHeartbeats 8000000 in
theorem kindsNames_any (a : Option Addr) (cap : Nat) (l : List Sig) (s : ByteArray) (i : Int) (W : World) (h : SigRow W a l) (hl : l.length ≤ 9223372036854775807) (hc : l.length ≤ cap) (ha : a = none → cap = 0) (hs : ∀ x ∈ l, x.name.size ≤ 9223372036854775807) (hss : s.size ≤ 9223372036854775807) :
    Calls Try.prog 3 #[.slice a l.length cap, .string s, .int .i64 i] W fun e W' => e = .returned (.bool true) ∧ Below W.heap.size W W' := by
  have HAL : Hid (∀ X, Calls Try.prog 7 #[] X fun e W' => e = .returned (.bool true) ∧ Below X.heap.size X W') := fun X => alive_any X
  by_cases hbig : 60 < l.length
  · clear h hs
    go_enter Try.func3, Try.ntmps3
    go_wp2_with fail
    refine Calls.mono (HAL.out _) ?_
    rintro e W1 ⟨rfl, hb⟩
    go_wp2
    go_ret
    exact ⟨rfl, hb⟩
  · by_cases hbs : 300 < s.size
    · clear h hs
      go_enter Try.func3, Try.ntmps3
      go_wp2_with fail
      refine Calls.mono (HAL.out _) ?_
      rintro e W1 ⟨rfl, hb⟩
      go_wp2
      go_ret
      exact ⟨rfl, hb⟩
    · obtain ⟨v1, W1, a2, c2, W2, hr1, hr2, hrow2, hb2, hc2⟩ := marked W a l cap h ha (by omega)
      have HR1 : Hid ((Builtin.append_ #[22, 22] 22 #[.slice none 0 0, .slice a l.length cap]).run Try.prog W = .ok v1 W1) := hr1
      have HR2 : Hid ((Builtin.append_ #[22, 22] 22 #[v1, .slice (some ⟨W1.heap.size, 0, none⟩) 1 1]).run Try.prog (W1.alloc (.cells #[.string ⟨#[109, 97, 114, 107]⟩, .string ⟨#[]⟩, .int .i64 0, .int .i64 0] 27)) = .ok (.slice a2 (l.length + 1) c2) W2) := hr2
      have hsl := sigs_hi a2 (l.length + 1) c2 l.length (by omega)
      have hsl2 := sigs_hi a2 l.length c2 (l.length + 1) (by omega)
      have HROW2 : Hid (SigRow W2 a2 (l ++ [markS])) := hrow2
      have HROWL : Hid (SigRow W2 a2 l) := by have := hrow2.take l.length; rw [List.take_left] at this; exact this
      have HROW : Hid (SigRow W a l) := h
      have HB2 : Hid (Below W.heap.size W W2) := hb2
      have HS : Hid (∀ x ∈ l, x.name.size ≤ 9223372036854775807) := hs
      have hl60 : l.length ≤ 60 := by omega
      have HNN := newNames_any a2 c2 l W2 HROWL.out (by omega) hs
      have HRN : Hid (∀ X, Below W2.heap.size W2 X → Calls Try.prog 9 #[.slice a l.length cap] X fun e W' => e = .returned (.tuple #[.int .i64 (namesE l).1, .string (namesE l).2]) ∧ Below X.heap.size X W') := fun X hX => rNames_any a cap l X (HROW.out.below (HB2.out.trans (hX.mono HB2.out.size))) (by omega) hc hs
      have HSS : Hid (∀ X, Below W2.heap.size W2 X → Calls Try.prog 10 #[.slice a2 l.length c2, .slice a l.length cap] X fun e W' => e = .returned (.bool true) ∧ Below X.heap.size X W') := fun X hX => sameSigs_any a2 a c2 cap l X (HROWL.out.below hX) (HROW.out.below (HB2.out.trans (hX.mono HB2.out.size))) (by omega)
      have HMK : Hid (∀ X, Below W2.heap.size W2 X → ∃ b off, a2 = some ⟨b, off, none⟩ ∧ X.cell? ⟨b, off + l.length * 4, none⟩ = some (.string ⟨#[109, 97, 114, 107]⟩)) := fun X hX => mark_at (HROW2.out.below hX)
      clear h hs hr1 hr2 hrow2 hb2 hbig
      go_enter Try.func3, Try.ntmps3
      go_wp2_with (first
        | (at_builtin; refine append_runO (by rfl) _ _ (by rfl) (by rfl) _ _ _ _ (by rfl) (by rfl) HR1.out ?_)
        | (at_builtin; refine append_runO (by rfl) _ _ (by rfl) (by rfl) _ _ _ _ (by rfl) (by rfl) HR2.out ?_))
      refine Calls.mono HNN ?_
      rintro e W3 ⟨hb3, h3⟩
      have HB3 : Hid (Below W2.heap.size W2 W3) := hb3
      clear hb3 HNN
      rcases h3 with ⟨hz, rfl⟩ | ⟨hz, p, v, rfl, ho⟩
      · have k1 : ((namesE l).1 == 0) = false := by simpa using hz
        have k2 : ((namesE l).1 != 0) = true := by simpa using hz
        clear hz
        generalize (namesE l).1 = ne at *
        generalize (namesE l).2 = nw at *
        go_wp2_with fail
        refine Calls.mono (HRN.out _ HB3.out) ?_
        rintro e W4 ⟨rfl, hb4⟩
        have HB4 : Hid (Below W2.heap.size W2 W4) := HB3.out.trans (hb4.mono HB3.out.size)
        clear hb4
        go_wp2_with fail
        refine Calls.mono (HSS.out _ HB4.out) ?_
        rintro e W5 ⟨rfl, hb5⟩
        have HB5 : Hid (Below W2.heap.size W2 W5) := HB4.out.trans (hb5.mono HB4.out.size)
        obtain ⟨b2, off2, rfl, hmk⟩ := HMK.out _ HB5.out
        clear hb5
        go_wp2_with fail
        refine Calls.mono (HAL.out _) ?_
        rintro e W6 ⟨rfl, hb6⟩
        have HB6 : Hid (Below W.heap.size W W6) := HB2.out.trans ((HB5.out.trans (hb6.mono HB5.out.size)).mono HB2.out.size)
        clear hb6
        go_wp2
        go_ret
        exact ⟨rfl, HB6.out⟩
      · have HZ : Hid ((namesE l).1 = 0 ∧ (namesE l).2 = ⟨#[]⟩) := ⟨hz, by
          have : namesE l = newE [] l := by unfold namesE; rw [if_neg (by have := (names_ok hz).1; omega)]
          rw [this] at hz ⊢; exact newE_ok l [] hz⟩
        have HNM : Hid (NmAt W3 p l) := ho.at
        have HRN2 : Hid (∀ X, Below W2.heap.size W2 X → Calls Try.prog 9 #[.slice a l.length cap] X fun e W' => e = .returned (.tuple #[.int .i64 0, .string ⟨#[]⟩]) ∧ Below X.heap.size X W') := fun X hX => by have := HRN.out X hX; rw [HZ.out.1, HZ.out.2] at this; exact this
        clear hz ho HRN
        go_wp2_with fail
        refine Calls.mono (HRN2.out _ HB3.out) ?_
        rintro e W4 ⟨rfl, hb4⟩
        have HB4 : Hid (Below W2.heap.size W2 W4) := HB3.out.trans (hb4.mono HB3.out.size)
        have HNM4 : Hid (NmAt W4 p l) := HNM.out.below hb4
        clear hb4
        go_wp2_with fail
        refine Calls.mono (HSS.out _ HB4.out) ?_
        rintro e W5 ⟨rfl, hb5⟩
        have HB5 : Hid (Below W2.heap.size W2 W5) := HB4.out.trans (hb5.mono HB4.out.size)
        have HNM5 : Hid (NmAt W5 p l) := HNM4.out.below hb5
        obtain ⟨b2, off2, rfl, hmk⟩ := HMK.out _ HB5.out
        have HNew := new_none ⟨#[]⟩ 0 0 a cap l W5 (HROW.out.below (HB2.out.trans (HB5.out.mono HB2.out.size))) (by omega) HS.out
        clear hb5
        go_wp2_with fail
        refine Calls.mono HNew ?_
        rintro e W6 ⟨hb6, h6⟩
        have HB6 : Hid (Below W2.heap.size W2 W6) := HB5.out.trans (hb6.mono HB5.out.size)
        have HNM6 : Hid (NmAt W6 p l) := HNM5.out.below hb6
        clear hb6 HNew hmk
        rcases h6 with ⟨hz, _⟩ | ⟨_, q, p2, rfl, hsh⟩
        · exact absurd HZ.out.1 hz
        · have HSH : Hid (ShAt W6 q p2 l) := hsh
          clear hsh
          have HFS : Hid (∃ (n f : Int) (ok : Bool), (∀ X r, NmAt X r l → Calls Try.prog 12 #[.pointer (some ⟨r, 0, none⟩), .string s] X fun e W' => e = .returned (.tuple #[.int .i64 n, .int .i64 f]) ∧ Below X.heap.size X W') ∧ (∀ X, SigRow X a l → Calls Try.prog 13 #[.slice a l.length cap, .string s] X fun e W' => e = .returned (.tuple #[.int .i64 n, .bool ok]) ∧ W' = X) ∧ ((f = 0 ∧ ok = true) ∨ (f = 40 ∧ ok = false))) := by
            by_cases hi : idxN l s < l.length
            · refine ⟨idxN l s, 0, true, fun X r hr => find_yes r l s X hr (by omega) hi, fun X hX => ?_, .inl ⟨rfl, rfl⟩⟩
              have := rFind_any a cap l s X hX (by omega)
              rw [show fIdx l s = idxN l s by unfold fIdx; rw [if_pos hi], show hasB l s = true by simp [hasB, hi]] at this; exact this
            · refine ⟨0, 40, false, fun X r hr => find_no r l s X hr (by omega) hi, fun X hX => ?_, .inr ⟨rfl, rfl⟩⟩
              have := rFind_any a cap l s X hX (by omega)
              rw [show fIdx l s = 0 by unfold fIdx; rw [if_neg hi], show hasB l s = false by simpa [hasB] using hi] at this; exact this
          obtain ⟨n, f, ok, hf1, hf2, hcase⟩ := HFS.out
          have HF1 : Hid (∀ X r, NmAt X r l → Calls Try.prog 12 #[.pointer (some ⟨r, 0, none⟩), .string s] X fun e W' => e = .returned (.tuple #[.int .i64 n, .int .i64 f]) ∧ Below X.heap.size X W') := hf1
          have HF2 : Hid (∀ X, SigRow X a l → Calls Try.prog 13 #[.slice a l.length cap, .string s] X fun e W' => e = .returned (.tuple #[.int .i64 n, .bool ok]) ∧ W' = X) := hf2
          have HLN : Hid (∀ X r, NmAt X r l → Calls Try.prog 14 #[.pointer (some ⟨r, 0, none⟩)] X fun e W' => e = .returned (.int .i64 l.length) ∧ W' = X) := fun X r hr => by
            obtain ⟨a3, c3, h1, _⟩ := hr
            exact len_any r a3 l.length c3 X h1
          have HRX : Hid (∀ X, Below W2.heap.size W2 X → SigRow X a l) := fun X hX => HROW.out.below (HB2.out.trans (hX.mono HB2.out.size))
          clear hf1 hf2 HFS HSS HMK HRN2
          go_wp2_with fail
          refine Calls.mono (HF1.out _ p HNM6.out) ?_
          rintro e W7 ⟨rfl, hb7⟩
          have HB7 : Hid (Below W2.heap.size W2 W7) := HB6.out.trans (hb7.mono HB6.out.size)
          have HNM7 : Hid (NmAt W7 p l) := HNM6.out.below hb7
          have HSH7 : Hid (ShAt W7 q p2 l) := HSH.out.below hb7
          have hq7 := HSH7.out.1
          clear hb7
          go_wp2_with fail
          refine Calls.mono (HF2.out _ (HRX.out _ HB7.out)) ?_
          rintro e W8 ⟨rfl, hw8⟩
          subst W8
          go_wp2_with fail
          refine Calls.mono (HF1.out _ p2 HSH7.out.2) ?_
          rintro e W9 ⟨rfl, hb9⟩
          have HB9 : Hid (Below W2.heap.size W2 W9) := HB7.out.trans (hb9.mono HB7.out.size)
          have HNM9 : Hid (NmAt W9 p l) := HNM7.out.below hb9
          have HSH9 : Hid (ShAt W9 q p2 l) := HSH7.out.below hb9
          have hq9 := HSH9.out.1
          clear hb9 hq7
          have HSX : Hid ((i < 0 ∨ (l.length : Int) ≤ i) ∨ ∃ k : Nat, k < l.length ∧ i = k) := by
            by_cases h1 : i < 0
            · exact .inl (.inl h1)
            · by_cases h2 : (l.length : Int) ≤ i
              · exact .inl (.inr h2)
              · exact .inr ⟨i.toNat, by omega, by omega⟩
          have HC2 : Hid ((f = 0 ∧ ok = true) ∨ (f = 40 ∧ ok = false)) := hcase
          have HGO : Hid (∀ P : Prop, (f = 0 → ok = true → P) → (f = 40 → ok = false → P) → P) := fun P h1 h2 => by
            rcases HC2.out with ⟨e1, e2⟩ | ⟨e1, e2⟩
            · exact h1 e1 e2
            · exact h2 e1 e2
          clear hcase HC2 HF1 HF2
          have HLEN : Hid (∀ (xn xu : ByteArray) (xl xh g : Int), (∀ X r, NmAt X r l → Calls Try.prog 15 #[.pointer (some ⟨r, 0, none⟩), .int .i64 i] X fun e W' => e = .returned (.tuple #[.agg #[.string xn, .string xu, .int .i64 xl, .int .i64 xh], .int .i64 g]) ∧ Below X.heap.size X W') → True) := fun _ _ _ _ _ _ => trivial
          clear HLEN
          rcases HSX.out with hout | ⟨k, hk, rfl⟩
          · obtain ⟨xn, xu, xl, xh, hsg, hz0⟩ : ∃ (xn xu : ByteArray) (xl xh : Int), (∀ X r, NmAt X r l → Calls Try.prog 15 #[.pointer (some ⟨r, 0, none⟩), .int .i64 i] X fun e W' => e = .returned (.tuple #[.agg #[.string xn, .string xu, .int .i64 xl, .int .i64 xh], .int .i64 3]) ∧ Below X.heap.size X W') ∧ (xn = ⟨#[]⟩ ∧ xu = ⟨#[]⟩ ∧ xl = 0 ∧ xh = 0) := ⟨_, _, _, _, fun X r hr => signal_out r l i X hr (by omega) hout, rfl, rfl, rfl, rfl⟩
            obtain ⟨rfl, rfl, rfl, rfl⟩ := hz0
            have HSG : Hid (∀ X r, NmAt X r l → Calls Try.prog 15 #[.pointer (some ⟨r, 0, none⟩), .int .i64 i] X fun e W' => e = .returned (.tuple #[.agg #[.string ⟨#[]⟩, .string ⟨#[]⟩, .int .i64 0, .int .i64 0], .int .i64 3]) ∧ Below X.heap.size X W') := hsg
            clear hsg HSX
            refine HGO.out _ ?_ ?_
            all_goals
              intro e1 e2
              subst e1 e2
              go_wp2_with fail
              refine Calls.mono (HLN.out _ p HNM9.out) ?_
              rintro e W10 ⟨rfl, hw⟩
              subst W10
              go_wp2_with fail
              refine Calls.mono (HLN.out _ p2 HSH9.out.2) ?_
              rintro e W10 ⟨rfl, hw⟩
              subst W10
              go_wp2_with fail
              refine Calls.mono (HSG.out _ p HNM9.out) ?_
              rintro e W10 ⟨rfl, hb10⟩
              have HB10 : Hid (Below W2.heap.size W2 (W10.alloc (.cells #[.string ⟨#[]⟩, .string ⟨#[]⟩, .int .i64 0, .int .i64 0] 27))) := (HB9.out.trans (hb10.mono HB9.out.size)).alloc (by have := HB9.out.size; have := hb10.size; omega) _
              have HSH10 : Hid (ShAt (W10.alloc (.cells #[.string ⟨#[]⟩, .string ⟨#[]⟩, .int .i64 0, .int .i64 0] 27)) q p2 l) := (HSH9.out.below hb10).below ((Below.refl _ _).alloc (Nat.le_refl _) _)
              have hq10 := HSH10.out.1
              clear hb10 hq9
              go_wp2_with fail
              refine Calls.mono (HSG.out _ p2 HSH10.out.2) ?_
              rintro e W11 ⟨rfl, hb11⟩
              have y0 : W11.cell? ⟨W10.heap.size, 0, none⟩ = some (.string ⟨#[]⟩) := by rw [hb11.cell (p := ⟨W10.heap.size, 0, none⟩) (by simp)]; simp [go_sem]
              have y1 : W11.cell? ⟨W10.heap.size, 1, none⟩ = some (.string ⟨#[]⟩) := by rw [hb11.cell (p := ⟨W10.heap.size, 1, none⟩) (by simp)]; simp [go_sem]
              have y2 : W11.cell? ⟨W10.heap.size, 2, none⟩ = some (.int .i64 0) := by rw [hb11.cell (p := ⟨W10.heap.size, 2, none⟩) (by simp)]; simp [go_sem]
              have y3 : W11.cell? ⟨W10.heap.size, 3, none⟩ = some (.int .i64 0) := by rw [hb11.cell (p := ⟨W10.heap.size, 3, none⟩) (by simp)]; simp [go_sem]
              have hlt10 : W10.heap.size < W11.heap.size := by have := hb11.size; simp at this; omega
              have HB11 : Hid (Below W2.heap.size W2 (W11.alloc (.cells #[.string ⟨#[]⟩, .string ⟨#[]⟩, .int .i64 0, .int .i64 0] 27))) := (HB10.out.trans (hb11.mono HB10.out.size)).alloc (by have := HB10.out.size; have := hb11.size; omega) _
              have HU : Hid (∀ X, Below (W11.alloc (.cells #[.string ⟨#[]⟩, .string ⟨#[]⟩, .int .i64 0, .int .i64 0] 27)).heap.size (W11.alloc (.cells #[.string ⟨#[]⟩, .string ⟨#[]⟩, .int .i64 0, .int .i64 0] 27)) X → (X.cell? ⟨W10.heap.size, 0, none⟩ = some (.string ⟨#[]⟩) ∧ X.cell? ⟨W10.heap.size, 1, none⟩ = some (.string ⟨#[]⟩) ∧ X.cell? ⟨W10.heap.size, 2, none⟩ = some (.int .i64 0) ∧ X.cell? ⟨W10.heap.size, 3, none⟩ = some (.int .i64 0)) ∧ X.cell? ⟨W11.heap.size, 0, none⟩ = some (.string ⟨#[]⟩) ∧ X.cell? ⟨W11.heap.size, 1, none⟩ = some (.string ⟨#[]⟩) ∧ X.cell? ⟨W11.heap.size, 2, none⟩ = some (.int .i64 0) ∧ X.cell? ⟨W11.heap.size, 3, none⟩ = some (.int .i64 0)) := fun X hX =>
                ⟨⟨cell_up hX (by rw [cell_alloc_lt _ _ _ _ hlt10]; exact y0), cell_up hX (by rw [cell_alloc_lt _ _ _ _ hlt10]; exact y1), cell_up hX (by rw [cell_alloc_lt _ _ _ _ hlt10]; exact y2), cell_up hX (by rw [cell_alloc_lt _ _ _ _ hlt10]; exact y3)⟩, cell_up hX (by simp [go_sem]), cell_up hX (by simp [go_sem]), cell_up hX (by simp [go_sem]), cell_up hX (by simp [go_sem])⟩
              clear hb11 y0 y1 y2 y3 hlt10 hq10
              rcases hout with h1 | h1
              · go_wp2_with fail
                refine Calls.mono (HAL.out _) ?_
                rintro e W12 ⟨rfl, hb12⟩
                have HB12 : Hid (Below W2.heap.size W2 W12) := HB11.out.trans (hb12.mono HB11.out.size)
                obtain ⟨⟨y0, y1, y2, y3⟩, x0, x1, x2, x3⟩ := HU.out _ hb12
                clear hb12
                go_wp2
                go_ret
                exact ⟨rfl, HB2.out.trans (HB12.out.mono HB2.out.size)⟩
              · by_cases h2 : i < 0
                · omega
                · go_wp2_with fail
                  refine Calls.mono (HAL.out _) ?_
                  rintro e W12 ⟨rfl, hb12⟩
                  have HB12 : Hid (Below W2.heap.size W2 W12) := HB11.out.trans (hb12.mono HB11.out.size)
                  obtain ⟨⟨y0, y1, y2, y3⟩, x0, x1, x2, x3⟩ := HU.out _ hb12
                  clear hb12
                  go_wp2
                  go_ret
                  exact ⟨rfl, HB2.out.trans (HB12.out.mono HB2.out.size)⟩
          · have HSG : Hid (∀ X r, NmAt X r l → Calls Try.prog 15 #[.pointer (some ⟨r, 0, none⟩), .int .i64 k] X fun e W' => e = .returned (.tuple #[.agg #[.string (l.getD k sig0).name, .string (l.getD k sig0).unit, .int .i64 (l.getD k sig0).lo, .int .i64 (l.getD k sig0).hi], .int .i64 0]) ∧ Below X.heap.size X W') := fun X r hr => signal_in r l k X hr (by omega) hk
            have HRK : Hid (∀ X, Below W2.heap.size W2 X → ∃ b off, a = some ⟨b, off, none⟩ ∧ X.cell? ⟨b, off + k * 4, none⟩ = some (.string (l.getD k sig0).name) ∧ X.cell? ⟨b, off + k * 4 + 1, none⟩ = some (.string (l.getD k sig0).unit) ∧ X.cell? ⟨b, off + k * 4 + 2, none⟩ = some (.int .i64 (l.getD k sig0).lo) ∧ X.cell? ⟨b, off + k * 4 + 3, none⟩ = some (.int .i64 (l.getD k sig0).hi)) := fun X hX => HRX.out X hX k hk
            clear HSX
            generalize l.getD k sig0 = x at *
            obtain ⟨xn, xu, xl, xh⟩ := x
            simp only at HSG HRK
            refine HGO.out _ ?_ ?_
            all_goals
              intro e1 e2
              subst e1 e2
              go_wp2_with fail
              refine Calls.mono (HLN.out _ p HNM9.out) ?_
              rintro e W10 ⟨rfl, hw⟩
              subst W10
              go_wp2_with fail
              refine Calls.mono (HLN.out _ p2 HSH9.out.2) ?_
              rintro e W10 ⟨rfl, hw⟩
              subst W10
              go_wp2_with fail
              refine Calls.mono (HSG.out _ p HNM9.out) ?_
              rintro e W10 ⟨rfl, hb10⟩
              have HB10 : Hid (Below W2.heap.size W2 (W10.alloc (.cells #[.string xn, .string xu, .int .i64 xl, .int .i64 xh] 27))) := (HB9.out.trans (hb10.mono HB9.out.size)).alloc (by have := HB9.out.size; have := hb10.size; omega) _
              have HSH10 : Hid (ShAt (W10.alloc (.cells #[.string xn, .string xu, .int .i64 xl, .int .i64 xh] 27)) q p2 l) := (HSH9.out.below hb10).below ((Below.refl _ _).alloc (Nat.le_refl _) _)
              have hq10 := HSH10.out.1
              clear hb10 hq9
              go_wp2_with fail
              refine Calls.mono (HSG.out _ p2 HSH10.out.2) ?_
              rintro e W11 ⟨rfl, hb11⟩
              have y0 : W11.cell? ⟨W10.heap.size, 0, none⟩ = some (.string xn) := by rw [hb11.cell (p := ⟨W10.heap.size, 0, none⟩) (by simp)]; simp [go_sem]
              have y1 : W11.cell? ⟨W10.heap.size, 1, none⟩ = some (.string xu) := by rw [hb11.cell (p := ⟨W10.heap.size, 1, none⟩) (by simp)]; simp [go_sem]
              have y2 : W11.cell? ⟨W10.heap.size, 2, none⟩ = some (.int .i64 xl) := by rw [hb11.cell (p := ⟨W10.heap.size, 2, none⟩) (by simp)]; simp [go_sem]
              have y3 : W11.cell? ⟨W10.heap.size, 3, none⟩ = some (.int .i64 xh) := by rw [hb11.cell (p := ⟨W10.heap.size, 3, none⟩) (by simp)]; simp [go_sem]
              have hlt10 : W10.heap.size < W11.heap.size := by have := hb11.size; simp at this; omega
              have HB11 : Hid (Below W2.heap.size W2 (W11.alloc (.cells #[.string xn, .string xu, .int .i64 xl, .int .i64 xh] 27))) := (HB10.out.trans (hb11.mono HB10.out.size)).alloc (by have := HB10.out.size; have := hb11.size; omega) _
              have HU : Hid (∀ X, Below (W11.alloc (.cells #[.string xn, .string xu, .int .i64 xl, .int .i64 xh] 27)).heap.size (W11.alloc (.cells #[.string xn, .string xu, .int .i64 xl, .int .i64 xh] 27)) X → (X.cell? ⟨W10.heap.size, 0, none⟩ = some (.string xn) ∧ X.cell? ⟨W10.heap.size, 1, none⟩ = some (.string xu) ∧ X.cell? ⟨W10.heap.size, 2, none⟩ = some (.int .i64 xl) ∧ X.cell? ⟨W10.heap.size, 3, none⟩ = some (.int .i64 xh)) ∧ X.cell? ⟨W11.heap.size, 0, none⟩ = some (.string xn) ∧ X.cell? ⟨W11.heap.size, 1, none⟩ = some (.string xu) ∧ X.cell? ⟨W11.heap.size, 2, none⟩ = some (.int .i64 xl) ∧ X.cell? ⟨W11.heap.size, 3, none⟩ = some (.int .i64 xh)) := fun X hX =>
                ⟨⟨cell_up hX (by rw [cell_alloc_lt _ _ _ _ hlt10]; exact y0), cell_up hX (by rw [cell_alloc_lt _ _ _ _ hlt10]; exact y1), cell_up hX (by rw [cell_alloc_lt _ _ _ _ hlt10]; exact y2), cell_up hX (by rw [cell_alloc_lt _ _ _ _ hlt10]; exact y3)⟩, cell_up hX (by simp [go_sem]), cell_up hX (by simp [go_sem]), cell_up hX (by simp [go_sem]), cell_up hX (by simp [go_sem])⟩
              clear hb11 y0 y1 y2 y3 hlt10 hq10
              obtain ⟨b3, off3, rfl, z0, z1, z2, z3⟩ := HRK.out _ HB11.out
              clear z0 z1 z2 z3
              go_wp2_with fail
              refine wp_region_held_drew (S := fun _ => True) (by kernel_rfl) trivial (fun hHeld => ?_)
              refine wpAnyH_ready (rs := [0]) (by kernel_rfl) (by simp) ?_
              refine AllReadyH.cons (o := { dst := some 219, op := Op.call { callee := Callee.value (Operand.func 7), args := #[], argTypes := #[] }, type := 4, pos := "law.go:77", after := #[], guard := none }) rfl (fun K hK => ?_) AllReadyH.nil
              go_simp
              refine Calls.mono (HAL.out _) ?_
              rintro e W12 ⟨rfl, hb12⟩
              have hb12' : Below (W11.alloc (.cells #[.string xn, .string xu, .int .i64 xl, .int .i64 xh] 27)).heap.size (W11.alloc (.cells #[.string xn, .string xu, .int .i64 xl, .int .i64 xh] 27)) W12 := (Below.refl _ _).drew.trans hb12
              have HB12 : Hid (Below W2.heap.size W2 W12) := HB11.out.trans (hb12'.mono HB11.out.size)
              obtain ⟨⟨y0, y1, y2, y3⟩, x0, x1, x2, x3⟩ := HU.out _ hb12'
              obtain ⟨b4, off4, he4, z0, z1, z2, z3⟩ := HRK.out _ HB12.out
              cases he4
              clear hb12 hb12'
              go_wp2_with fail
              refine hK.out _ _ trivial (fun hHeld => ?_)
              clear hK K
              try simp only [Act.put, List.setIfInBounds_toArray, List.set_cons_zero, List.set_cons_succ]
              refine wpAnyH_take (i := 1) (oi := { dst := some 220, op := Op.move (Operand.tmp 219), type := 4, pos := "law.go:77", after := #[{ on := 0, ground := Ground.data }, { on := 0, ground := Ground.chain }], guard := none }) (v := ?_) rfl (by kernel_rfl) (by kernel_rfl) (by kernel_rfl) (fun _ _ _ h => h) (Or.inl ⟨by rfl, ?_⟩) hHeld ?_
              rotate_left
              · (intro w hSw; (try dsimp only at hSw); go_simp; all_goals (try with_reducible rfl))
              try simp only [Act.put, List.setIfInBounds_toArray, List.set_cons_zero, List.set_cons_succ]
              refine wpAnyH_take (i := 2) (oi := { dst := some 221, op := Op.move (Operand.tmp 23), type := 29, pos := "law.go:77", after := #[{ on := 1, ground := Ground.guard }], guard := some (1, true) }) (v := ?_) rfl (by kernel_rfl) (by kernel_rfl) (by kernel_rfl) (fun _ _ _ h => h) (Or.inl ⟨by rfl, ?_⟩) hHeld ?_
              rotate_left
              · (intro w hSw; (try dsimp only at hSw); go_simp; all_goals (try with_reducible rfl))
              try simp only [Act.put, List.setIfInBounds_toArray, List.set_cons_zero, List.set_cons_succ]
              refine wpAnyH_take (i := 3) (oi := { dst := some 222, op := Op.binOp BinOp.eql 29 (Operand.tmp 221) (Operand.const (Value.int IntKind.i64 0)) 29, type := 4, pos := "law.go:77", after := #[{ on := 2, ground := Ground.data }, { on := 1, ground := Ground.guard }], guard := some (1, true) }) (v := ?_) rfl (by kernel_rfl) (by kernel_rfl) (by kernel_rfl) (fun _ _ _ h => h) (Or.inl ⟨by rfl, ?_⟩) hHeld ?_
              rotate_left
              · (intro w hSw; (try dsimp only at hSw); go_simp; all_goals (try with_reducible rfl))
              try simp only [Act.put, List.setIfInBounds_toArray, List.set_cons_zero, List.set_cons_succ]
              refine wpAnyH_take (i := 4) (oi := { dst := some 223, op := Op.pick (Operand.tmp 220) (Operand.tmp 222) (Operand.const (Value.bool false)), type := 4, pos := "law.go:77", after := #[{ on := 1, ground := Ground.data }, { on := 3, ground := Ground.data }], guard := none }) (v := ?_) rfl (by kernel_rfl) (by kernel_rfl) (by kernel_rfl) (fun _ _ _ h => h) (Or.inl ⟨by rfl, ?_⟩) hHeld ?_
              rotate_left
              · (intro w hSw; (try dsimp only at hSw); go_simp; all_goals (try with_reducible rfl))
              try simp only [Act.put, List.setIfInBounds_toArray, List.set_cons_zero, List.set_cons_succ]
              refine wpAnyH_take (i := 5) (oi := { dst := some 224, op := Op.move (Operand.tmp 223), type := 4, pos := "law.go:77", after := #[{ on := 4, ground := Ground.data }, { on := 1, ground := Ground.chain }], guard := none }) (v := ?_) rfl (by kernel_rfl) (by kernel_rfl) (by kernel_rfl) (fun _ _ _ h => h) (Or.inl ⟨by rfl, ?_⟩) hHeld ?_
              rotate_left
              · (intro w hSw; (try dsimp only at hSw); go_simp; all_goals (try with_reducible rfl))
              try simp only [Act.put, List.setIfInBounds_toArray, List.set_cons_zero, List.set_cons_succ]
              refine wpAnyH_take (i := 6) (oi := { dst := some 225, op := Op.move (Operand.tmp 25), type := 29, pos := "law.go:77", after := #[{ on := 5, ground := Ground.guard }], guard := some (5, true) }) (v := ?_) rfl (by kernel_rfl) (by kernel_rfl) (by kernel_rfl) (fun _ _ _ h => h) (Or.inl ⟨by rfl, ?_⟩) hHeld ?_
              rotate_left
              · (intro w hSw; (try dsimp only at hSw); go_simp; all_goals (try with_reducible rfl))
              try simp only [Act.put, List.setIfInBounds_toArray, List.set_cons_zero, List.set_cons_succ]
              refine wpAnyH_take (i := 7) (oi := { dst := some 226, op := Op.binOp BinOp.eql 29 (Operand.tmp 225) (Operand.const (Value.int IntKind.i64 0)) 29, type := 4, pos := "law.go:77", after := #[{ on := 6, ground := Ground.data }, { on := 5, ground := Ground.guard }], guard := some (5, true) }) (v := ?_) rfl (by kernel_rfl) (by kernel_rfl) (by kernel_rfl) (fun _ _ _ h => h) (Or.inl ⟨by rfl, ?_⟩) hHeld ?_
              rotate_left
              · (intro w hSw; (try dsimp only at hSw); go_simp; all_goals (try with_reducible rfl))
              try simp only [Act.put, List.setIfInBounds_toArray, List.set_cons_zero, List.set_cons_succ]
              refine wpAnyH_take (i := 8) (oi := { dst := some 227, op := Op.pick (Operand.tmp 224) (Operand.tmp 226) (Operand.const (Value.bool false)), type := 4, pos := "law.go:77", after := #[{ on := 5, ground := Ground.data }, { on := 7, ground := Ground.data }], guard := none }) (v := ?_) rfl (by kernel_rfl) (by kernel_rfl) (by kernel_rfl) (fun _ _ _ h => h) (Or.inl ⟨by rfl, ?_⟩) hHeld ?_
              rotate_left
              · (intro w hSw; (try dsimp only at hSw); go_simp; all_goals (try with_reducible rfl))
              try simp only [Act.put, List.setIfInBounds_toArray, List.set_cons_zero, List.set_cons_succ]
              refine wpAnyH_take (i := 9) (oi := { dst := some 228, op := Op.move (Operand.tmp 227), type := 4, pos := "law.go:77", after := #[{ on := 8, ground := Ground.data }, { on := 5, ground := Ground.chain }], guard := none }) (v := ?_) rfl (by kernel_rfl) (by kernel_rfl) (by kernel_rfl) (fun _ _ _ h => h) (Or.inl ⟨by rfl, ?_⟩) hHeld ?_
              rotate_left
              · (intro w hSw; (try dsimp only at hSw); go_simp; all_goals (try with_reducible rfl))
              try simp only [Act.put, List.setIfInBounds_toArray, List.set_cons_zero, List.set_cons_succ]
              refine wpAnyH_take (i := 11) (oi := { dst := some 230, op := Op.move (Operand.tmp 0), type := 22, pos := "law.go:77", after := #[{ on := 9, ground := Ground.guard }], guard := some (9, true) }) (v := ?_) rfl (by kernel_rfl) (by kernel_rfl) (by kernel_rfl) (fun _ _ _ h => h) (Or.inl ⟨by rfl, ?_⟩) hHeld ?_
              rotate_left
              · (intro w hSw; (try dsimp only at hSw); go_simp; all_goals (try with_reducible rfl))
              try simp only [Act.put, List.setIfInBounds_toArray, List.set_cons_zero, List.set_cons_succ]
              refine wpAnyH_take (i := 12) (oi := { dst := some 231, op := Op.move (Operand.tmp 2), type := 3, pos := "law.go:77", after := #[{ on := 9, ground := Ground.guard }], guard := some (9, true) }) (v := ?_) rfl (by kernel_rfl) (by kernel_rfl) (by kernel_rfl) (fun _ _ _ h => h) (Or.inl ⟨by rfl, ?_⟩) hHeld ?_
              rotate_left
              · (intro w hSw; (try dsimp only at hSw); go_simp; all_goals (try with_reducible rfl))
              try simp only [Act.put, List.setIfInBounds_toArray, List.set_cons_zero, List.set_cons_succ]
              refine wpAnyH_take (i := 13) (oi := { dst := some 232, op := Op.indexAddr 22 (Operand.tmp 230) (Operand.tmp 231), type := 0, pos := "law.go:77", after := #[{ on := 11, ground := Ground.data }, { on := 12, ground := Ground.data }, { on := 9, ground := Ground.guard }], guard := some (9, true) }) (v := ?_) rfl (by kernel_rfl) (by kernel_rfl) (by kernel_rfl) (fun _ _ _ h => h) (Or.inl ⟨by rfl, ?_⟩) hHeld ?_
              rotate_left
              · (intro w hSw; (try dsimp only at hSw); go_simp; all_goals (try with_reducible rfl))
              try simp only [Act.put, List.setIfInBounds_toArray, List.set_cons_zero, List.set_cons_succ]
              refine wpAnyH_ready (rs := [10, 14]) (by kernel_rfl) (by simp) ?_
              refine AllReadyH.cons (o := { dst := some 229, op := Op.load 27 (Operand.tmp 22), type := 27, pos := "law.go:77", after := #[{ on := 9, ground := Ground.guard }], guard := some (9, true) }) rfl (fun K hK => ?_) ?_
              · skip
                go_simp
                refine hK.out _ _ trivial (fun hHeld => ?_)
                clear hK K
                try simp only [Act.put, List.setIfInBounds_toArray, List.set_cons_zero, List.set_cons_succ]
                refine wpAnyH_ready (rs := [14]) (by kernel_rfl) (by simp) ?_
                refine AllReadyH.cons (o := { dst := some 233, op := Op.load 27 (Operand.tmp 232), type := 27, pos := "law.go:77", after := #[{ on := 13, ground := Ground.data }, { on := 9, ground := Ground.guard }], guard := some (9, true) }) rfl (fun K hK => ?_) AllReadyH.nil
                go_simp
                refine hK.out _ _ trivial (fun hHeld => ?_)
                clear hK K
                try simp only [Act.put, List.setIfInBounds_toArray, List.set_cons_zero, List.set_cons_succ]
                refine wpAnyH_take (i := 15) (oi := { dst := some 234, op := Op.binOp BinOp.eql 27 (Operand.tmp 229) (Operand.tmp 233) 27, type := 4, pos := "law.go:77", after := #[{ on := 10, ground := Ground.data }, { on := 14, ground := Ground.data }, { on := 9, ground := Ground.guard }], guard := some (9, true) }) (v := ?_) rfl (by kernel_rfl) (by kernel_rfl) (by kernel_rfl) (fun _ _ _ h => h) (Or.inl ⟨by rfl, ?_⟩) hHeld ?_
                rotate_left
                · (intro w hSw; (try dsimp only at hSw); go_simp; all_goals (try with_reducible rfl))
                try simp only [Act.put, List.setIfInBounds_toArray, List.set_cons_zero, List.set_cons_succ]
                refine wpAnyH_take (i := 16) (oi := { dst := some 235, op := Op.pick (Operand.tmp 228) (Operand.tmp 234) (Operand.const (Value.bool false)), type := 4, pos := "law.go:77", after := #[{ on := 9, ground := Ground.data }, { on := 15, ground := Ground.data }], guard := none }) (v := ?_) rfl (by kernel_rfl) (by kernel_rfl) (by kernel_rfl) (fun _ _ _ h => h) (Or.inl ⟨by rfl, ?_⟩) hHeld ?_
                rotate_left
                · (intro w hSw; (try dsimp only at hSw); go_simp; all_goals (try with_reducible rfl))
                try simp only [Act.put, List.setIfInBounds_toArray, List.set_cons_zero, List.set_cons_succ]
                refine wpAnyH_take (i := 17) (oi := { dst := some 236, op := Op.move (Operand.tmp 235), type := 4, pos := "law.go:77", after := #[{ on := 16, ground := Ground.data }, { on := 9, ground := Ground.chain }], guard := none }) (v := ?_) rfl (by kernel_rfl) (by kernel_rfl) (by kernel_rfl) (fun _ _ _ h => h) (Or.inl ⟨by rfl, ?_⟩) hHeld ?_
                rotate_left
                · (intro w hSw; (try dsimp only at hSw); go_simp; all_goals (try with_reducible rfl))
                try simp only [Act.put, List.setIfInBounds_toArray, List.set_cons_zero, List.set_cons_succ]
                refine wpAnyH_ready (rs := [18, 19]) (by kernel_rfl) (by simp) ?_
                refine AllReadyH.cons (o := { dst := some 237, op := Op.load 27 (Operand.tmp 24), type := 27, pos := "law.go:77", after := #[{ on := 17, ground := Ground.guard }], guard := some (17, true) }) rfl (fun K hK => ?_) ?_
                · skip
                  go_simp
                  refine hK.out _ _ trivial (fun hHeld => ?_)
                  clear hK K
                  try simp only [Act.put, List.setIfInBounds_toArray, List.set_cons_zero, List.set_cons_succ]
                  refine wpAnyH_ready (rs := [19]) (by kernel_rfl) (by simp) ?_
                  refine AllReadyH.cons (o := { dst := some 238, op := Op.load 27 (Operand.tmp 22), type := 27, pos := "law.go:77", after := #[{ on := 17, ground := Ground.guard }], guard := some (17, true) }) rfl (fun K hK => ?_) AllReadyH.nil
                  go_simp
                  refine hK.out _ _ trivial (fun hHeld => ?_)
                  clear hK K
                  try simp only [Act.put, List.setIfInBounds_toArray, List.set_cons_zero, List.set_cons_succ]
                  refine wpAnyH_take (i := 20) (oi := { dst := some 239, op := Op.binOp BinOp.eql 27 (Operand.tmp 237) (Operand.tmp 238) 27, type := 4, pos := "law.go:77", after := #[{ on := 18, ground := Ground.data }, { on := 19, ground := Ground.data }, { on := 17, ground := Ground.guard }], guard := some (17, true) }) (v := ?_) rfl (by kernel_rfl) (by kernel_rfl) (by kernel_rfl) (fun _ _ _ h => h) (Or.inl ⟨by rfl, ?_⟩) hHeld ?_
                  rotate_left
                  · (intro w hSw; (try dsimp only at hSw); go_simp; all_goals (try with_reducible rfl))
                  try simp only [Act.put, List.setIfInBounds_toArray, List.set_cons_zero, List.set_cons_succ]
                  refine wpAnyH_take (i := 21) (oi := { dst := some 240, op := Op.pick (Operand.tmp 236) (Operand.tmp 239) (Operand.const (Value.bool false)), type := 4, pos := "law.go:77", after := #[{ on := 17, ground := Ground.data }, { on := 20, ground := Ground.data }], guard := none }) (v := ?_) rfl (by kernel_rfl) (by kernel_rfl) (by kernel_rfl) (fun _ _ _ h => h) (Or.inl ⟨by rfl, ?_⟩) hHeld ?_
                  rotate_left
                  · (intro w hSw; (try dsimp only at hSw); go_simp; all_goals (try with_reducible rfl))
                  try simp only [Act.put, List.setIfInBounds_toArray, List.set_cons_zero, List.set_cons_succ]
                  refine wpAnyH_take (i := 22) (oi := { dst := some 6, op := Op.assign (Operand.tmp 240), type := 4, pos := "law.go:77", after := #[{ on := 21, ground := Ground.data }, { on := 17, ground := Ground.chain }, { on := 0, ground := Ground.phase }, { on := 1, ground := Ground.phase }, { on := 2, ground := Ground.phase }, { on := 3, ground := Ground.phase }, { on := 4, ground := Ground.phase }, { on := 5, ground := Ground.phase }, { on := 6, ground := Ground.phase }, { on := 7, ground := Ground.phase }, { on := 8, ground := Ground.phase }, { on := 9, ground := Ground.phase }, { on := 10, ground := Ground.phase }, { on := 11, ground := Ground.phase }, { on := 12, ground := Ground.phase }, { on := 13, ground := Ground.phase }, { on := 14, ground := Ground.phase }, { on := 15, ground := Ground.phase }, { on := 16, ground := Ground.phase }, { on := 17, ground := Ground.phase }, { on := 18, ground := Ground.phase }, { on := 19, ground := Ground.phase }, { on := 20, ground := Ground.phase }, { on := 21, ground := Ground.phase }], guard := none }) (v := ?_) rfl (by kernel_rfl) (by kernel_rfl) (by kernel_rfl) (fun _ _ _ h => h) (Or.inl ⟨by rfl, ?_⟩) hHeld ?_
                  rotate_left
                  · (intro w hSw; (try dsimp only at hSw); go_simp; all_goals (try with_reducible rfl))
                  try simp only [Act.put, List.setIfInBounds_toArray, List.set_cons_zero, List.set_cons_succ]
                  refine wpAnyH_done (by kernel_rfl) ?_ _
                  go_wp2
                  go_ret
                  exact ⟨rfl, HB2.out.trans (HB12.out.mono HB2.out.size)⟩
                refine AllReadyH.cons (o := { dst := some 238, op := Op.load 27 (Operand.tmp 22), type := 27, pos := "law.go:77", after := #[{ on := 17, ground := Ground.guard }], guard := some (17, true) }) rfl (fun K hK => ?_) AllReadyH.nil
                go_simp
                refine hK.out _ _ trivial (fun hHeld => ?_)
                clear hK K
                try simp only [Act.put, List.setIfInBounds_toArray, List.set_cons_zero, List.set_cons_succ]
                refine wpAnyH_ready (rs := [18]) (by kernel_rfl) (by simp) ?_
                refine AllReadyH.cons (o := { dst := some 237, op := Op.load 27 (Operand.tmp 24), type := 27, pos := "law.go:77", after := #[{ on := 17, ground := Ground.guard }], guard := some (17, true) }) rfl (fun K hK => ?_) AllReadyH.nil
                go_simp
                refine hK.out _ _ trivial (fun hHeld => ?_)
                clear hK K
                try simp only [Act.put, List.setIfInBounds_toArray, List.set_cons_zero, List.set_cons_succ]
                refine wpAnyH_take (i := 20) (oi := { dst := some 239, op := Op.binOp BinOp.eql 27 (Operand.tmp 237) (Operand.tmp 238) 27, type := 4, pos := "law.go:77", after := #[{ on := 18, ground := Ground.data }, { on := 19, ground := Ground.data }, { on := 17, ground := Ground.guard }], guard := some (17, true) }) (v := ?_) rfl (by kernel_rfl) (by kernel_rfl) (by kernel_rfl) (fun _ _ _ h => h) (Or.inl ⟨by rfl, ?_⟩) hHeld ?_
                rotate_left
                · (intro w hSw; (try dsimp only at hSw); go_simp; all_goals (try with_reducible rfl))
                try simp only [Act.put, List.setIfInBounds_toArray, List.set_cons_zero, List.set_cons_succ]
                refine wpAnyH_take (i := 21) (oi := { dst := some 240, op := Op.pick (Operand.tmp 236) (Operand.tmp 239) (Operand.const (Value.bool false)), type := 4, pos := "law.go:77", after := #[{ on := 17, ground := Ground.data }, { on := 20, ground := Ground.data }], guard := none }) (v := ?_) rfl (by kernel_rfl) (by kernel_rfl) (by kernel_rfl) (fun _ _ _ h => h) (Or.inl ⟨by rfl, ?_⟩) hHeld ?_
                rotate_left
                · (intro w hSw; (try dsimp only at hSw); go_simp; all_goals (try with_reducible rfl))
                try simp only [Act.put, List.setIfInBounds_toArray, List.set_cons_zero, List.set_cons_succ]
                refine wpAnyH_take (i := 22) (oi := { dst := some 6, op := Op.assign (Operand.tmp 240), type := 4, pos := "law.go:77", after := #[{ on := 21, ground := Ground.data }, { on := 17, ground := Ground.chain }, { on := 0, ground := Ground.phase }, { on := 1, ground := Ground.phase }, { on := 2, ground := Ground.phase }, { on := 3, ground := Ground.phase }, { on := 4, ground := Ground.phase }, { on := 5, ground := Ground.phase }, { on := 6, ground := Ground.phase }, { on := 7, ground := Ground.phase }, { on := 8, ground := Ground.phase }, { on := 9, ground := Ground.phase }, { on := 10, ground := Ground.phase }, { on := 11, ground := Ground.phase }, { on := 12, ground := Ground.phase }, { on := 13, ground := Ground.phase }, { on := 14, ground := Ground.phase }, { on := 15, ground := Ground.phase }, { on := 16, ground := Ground.phase }, { on := 17, ground := Ground.phase }, { on := 18, ground := Ground.phase }, { on := 19, ground := Ground.phase }, { on := 20, ground := Ground.phase }, { on := 21, ground := Ground.phase }], guard := none }) (v := ?_) rfl (by kernel_rfl) (by kernel_rfl) (by kernel_rfl) (fun _ _ _ h => h) (Or.inl ⟨by rfl, ?_⟩) hHeld ?_
                rotate_left
                · (intro w hSw; (try dsimp only at hSw); go_simp; all_goals (try with_reducible rfl))
                try simp only [Act.put, List.setIfInBounds_toArray, List.set_cons_zero, List.set_cons_succ]
                refine wpAnyH_done (by kernel_rfl) ?_ _
                go_wp2
                go_ret
                exact ⟨rfl, HB2.out.trans (HB12.out.mono HB2.out.size)⟩
              refine AllReadyH.cons (o := { dst := some 233, op := Op.load 27 (Operand.tmp 232), type := 27, pos := "law.go:77", after := #[{ on := 13, ground := Ground.data }, { on := 9, ground := Ground.guard }], guard := some (9, true) }) rfl (fun K hK => ?_) AllReadyH.nil
              go_simp
              refine hK.out _ _ trivial (fun hHeld => ?_)
              clear hK K
              try simp only [Act.put, List.setIfInBounds_toArray, List.set_cons_zero, List.set_cons_succ]
              refine wpAnyH_ready (rs := [10]) (by kernel_rfl) (by simp) ?_
              refine AllReadyH.cons (o := { dst := some 229, op := Op.load 27 (Operand.tmp 22), type := 27, pos := "law.go:77", after := #[{ on := 9, ground := Ground.guard }], guard := some (9, true) }) rfl (fun K hK => ?_) AllReadyH.nil
              go_simp
              refine hK.out _ _ trivial (fun hHeld => ?_)
              clear hK K
              try simp only [Act.put, List.setIfInBounds_toArray, List.set_cons_zero, List.set_cons_succ]
              refine wpAnyH_take (i := 15) (oi := { dst := some 234, op := Op.binOp BinOp.eql 27 (Operand.tmp 229) (Operand.tmp 233) 27, type := 4, pos := "law.go:77", after := #[{ on := 10, ground := Ground.data }, { on := 14, ground := Ground.data }, { on := 9, ground := Ground.guard }], guard := some (9, true) }) (v := ?_) rfl (by kernel_rfl) (by kernel_rfl) (by kernel_rfl) (fun _ _ _ h => h) (Or.inl ⟨by rfl, ?_⟩) hHeld ?_
              rotate_left
              · (intro w hSw; (try dsimp only at hSw); go_simp; all_goals (try with_reducible rfl))
              try simp only [Act.put, List.setIfInBounds_toArray, List.set_cons_zero, List.set_cons_succ]
              refine wpAnyH_take (i := 16) (oi := { dst := some 235, op := Op.pick (Operand.tmp 228) (Operand.tmp 234) (Operand.const (Value.bool false)), type := 4, pos := "law.go:77", after := #[{ on := 9, ground := Ground.data }, { on := 15, ground := Ground.data }], guard := none }) (v := ?_) rfl (by kernel_rfl) (by kernel_rfl) (by kernel_rfl) (fun _ _ _ h => h) (Or.inl ⟨by rfl, ?_⟩) hHeld ?_
              rotate_left
              · (intro w hSw; (try dsimp only at hSw); go_simp; all_goals (try with_reducible rfl))
              try simp only [Act.put, List.setIfInBounds_toArray, List.set_cons_zero, List.set_cons_succ]
              refine wpAnyH_take (i := 17) (oi := { dst := some 236, op := Op.move (Operand.tmp 235), type := 4, pos := "law.go:77", after := #[{ on := 16, ground := Ground.data }, { on := 9, ground := Ground.chain }], guard := none }) (v := ?_) rfl (by kernel_rfl) (by kernel_rfl) (by kernel_rfl) (fun _ _ _ h => h) (Or.inl ⟨by rfl, ?_⟩) hHeld ?_
              rotate_left
              · (intro w hSw; (try dsimp only at hSw); go_simp; all_goals (try with_reducible rfl))
              try simp only [Act.put, List.setIfInBounds_toArray, List.set_cons_zero, List.set_cons_succ]
              refine wpAnyH_ready (rs := [18, 19]) (by kernel_rfl) (by simp) ?_
              refine AllReadyH.cons (o := { dst := some 237, op := Op.load 27 (Operand.tmp 24), type := 27, pos := "law.go:77", after := #[{ on := 17, ground := Ground.guard }], guard := some (17, true) }) rfl (fun K hK => ?_) ?_
              · skip
                go_simp
                refine hK.out _ _ trivial (fun hHeld => ?_)
                clear hK K
                try simp only [Act.put, List.setIfInBounds_toArray, List.set_cons_zero, List.set_cons_succ]
                refine wpAnyH_ready (rs := [19]) (by kernel_rfl) (by simp) ?_
                refine AllReadyH.cons (o := { dst := some 238, op := Op.load 27 (Operand.tmp 22), type := 27, pos := "law.go:77", after := #[{ on := 17, ground := Ground.guard }], guard := some (17, true) }) rfl (fun K hK => ?_) AllReadyH.nil
                go_simp
                refine hK.out _ _ trivial (fun hHeld => ?_)
                clear hK K
                try simp only [Act.put, List.setIfInBounds_toArray, List.set_cons_zero, List.set_cons_succ]
                refine wpAnyH_take (i := 20) (oi := { dst := some 239, op := Op.binOp BinOp.eql 27 (Operand.tmp 237) (Operand.tmp 238) 27, type := 4, pos := "law.go:77", after := #[{ on := 18, ground := Ground.data }, { on := 19, ground := Ground.data }, { on := 17, ground := Ground.guard }], guard := some (17, true) }) (v := ?_) rfl (by kernel_rfl) (by kernel_rfl) (by kernel_rfl) (fun _ _ _ h => h) (Or.inl ⟨by rfl, ?_⟩) hHeld ?_
                rotate_left
                · (intro w hSw; (try dsimp only at hSw); go_simp; all_goals (try with_reducible rfl))
                try simp only [Act.put, List.setIfInBounds_toArray, List.set_cons_zero, List.set_cons_succ]
                refine wpAnyH_take (i := 21) (oi := { dst := some 240, op := Op.pick (Operand.tmp 236) (Operand.tmp 239) (Operand.const (Value.bool false)), type := 4, pos := "law.go:77", after := #[{ on := 17, ground := Ground.data }, { on := 20, ground := Ground.data }], guard := none }) (v := ?_) rfl (by kernel_rfl) (by kernel_rfl) (by kernel_rfl) (fun _ _ _ h => h) (Or.inl ⟨by rfl, ?_⟩) hHeld ?_
                rotate_left
                · (intro w hSw; (try dsimp only at hSw); go_simp; all_goals (try with_reducible rfl))
                try simp only [Act.put, List.setIfInBounds_toArray, List.set_cons_zero, List.set_cons_succ]
                refine wpAnyH_take (i := 22) (oi := { dst := some 6, op := Op.assign (Operand.tmp 240), type := 4, pos := "law.go:77", after := #[{ on := 21, ground := Ground.data }, { on := 17, ground := Ground.chain }, { on := 0, ground := Ground.phase }, { on := 1, ground := Ground.phase }, { on := 2, ground := Ground.phase }, { on := 3, ground := Ground.phase }, { on := 4, ground := Ground.phase }, { on := 5, ground := Ground.phase }, { on := 6, ground := Ground.phase }, { on := 7, ground := Ground.phase }, { on := 8, ground := Ground.phase }, { on := 9, ground := Ground.phase }, { on := 10, ground := Ground.phase }, { on := 11, ground := Ground.phase }, { on := 12, ground := Ground.phase }, { on := 13, ground := Ground.phase }, { on := 14, ground := Ground.phase }, { on := 15, ground := Ground.phase }, { on := 16, ground := Ground.phase }, { on := 17, ground := Ground.phase }, { on := 18, ground := Ground.phase }, { on := 19, ground := Ground.phase }, { on := 20, ground := Ground.phase }, { on := 21, ground := Ground.phase }], guard := none }) (v := ?_) rfl (by kernel_rfl) (by kernel_rfl) (by kernel_rfl) (fun _ _ _ h => h) (Or.inl ⟨by rfl, ?_⟩) hHeld ?_
                rotate_left
                · (intro w hSw; (try dsimp only at hSw); go_simp; all_goals (try with_reducible rfl))
                try simp only [Act.put, List.setIfInBounds_toArray, List.set_cons_zero, List.set_cons_succ]
                refine wpAnyH_done (by kernel_rfl) ?_ _
                go_wp2
                go_ret
                exact ⟨rfl, HB2.out.trans (HB12.out.mono HB2.out.size)⟩
              refine AllReadyH.cons (o := { dst := some 238, op := Op.load 27 (Operand.tmp 22), type := 27, pos := "law.go:77", after := #[{ on := 17, ground := Ground.guard }], guard := some (17, true) }) rfl (fun K hK => ?_) AllReadyH.nil
              go_simp
              refine hK.out _ _ trivial (fun hHeld => ?_)
              clear hK K
              try simp only [Act.put, List.setIfInBounds_toArray, List.set_cons_zero, List.set_cons_succ]
              refine wpAnyH_ready (rs := [18]) (by kernel_rfl) (by simp) ?_
              refine AllReadyH.cons (o := { dst := some 237, op := Op.load 27 (Operand.tmp 24), type := 27, pos := "law.go:77", after := #[{ on := 17, ground := Ground.guard }], guard := some (17, true) }) rfl (fun K hK => ?_) AllReadyH.nil
              go_simp
              refine hK.out _ _ trivial (fun hHeld => ?_)
              clear hK K
              try simp only [Act.put, List.setIfInBounds_toArray, List.set_cons_zero, List.set_cons_succ]
              refine wpAnyH_take (i := 20) (oi := { dst := some 239, op := Op.binOp BinOp.eql 27 (Operand.tmp 237) (Operand.tmp 238) 27, type := 4, pos := "law.go:77", after := #[{ on := 18, ground := Ground.data }, { on := 19, ground := Ground.data }, { on := 17, ground := Ground.guard }], guard := some (17, true) }) (v := ?_) rfl (by kernel_rfl) (by kernel_rfl) (by kernel_rfl) (fun _ _ _ h => h) (Or.inl ⟨by rfl, ?_⟩) hHeld ?_
              rotate_left
              · (intro w hSw; (try dsimp only at hSw); go_simp; all_goals (try with_reducible rfl))
              try simp only [Act.put, List.setIfInBounds_toArray, List.set_cons_zero, List.set_cons_succ]
              refine wpAnyH_take (i := 21) (oi := { dst := some 240, op := Op.pick (Operand.tmp 236) (Operand.tmp 239) (Operand.const (Value.bool false)), type := 4, pos := "law.go:77", after := #[{ on := 17, ground := Ground.data }, { on := 20, ground := Ground.data }], guard := none }) (v := ?_) rfl (by kernel_rfl) (by kernel_rfl) (by kernel_rfl) (fun _ _ _ h => h) (Or.inl ⟨by rfl, ?_⟩) hHeld ?_
              rotate_left
              · (intro w hSw; (try dsimp only at hSw); go_simp; all_goals (try with_reducible rfl))
              try simp only [Act.put, List.setIfInBounds_toArray, List.set_cons_zero, List.set_cons_succ]
              refine wpAnyH_take (i := 22) (oi := { dst := some 6, op := Op.assign (Operand.tmp 240), type := 4, pos := "law.go:77", after := #[{ on := 21, ground := Ground.data }, { on := 17, ground := Ground.chain }, { on := 0, ground := Ground.phase }, { on := 1, ground := Ground.phase }, { on := 2, ground := Ground.phase }, { on := 3, ground := Ground.phase }, { on := 4, ground := Ground.phase }, { on := 5, ground := Ground.phase }, { on := 6, ground := Ground.phase }, { on := 7, ground := Ground.phase }, { on := 8, ground := Ground.phase }, { on := 9, ground := Ground.phase }, { on := 10, ground := Ground.phase }, { on := 11, ground := Ground.phase }, { on := 12, ground := Ground.phase }, { on := 13, ground := Ground.phase }, { on := 14, ground := Ground.phase }, { on := 15, ground := Ground.phase }, { on := 16, ground := Ground.phase }, { on := 17, ground := Ground.phase }, { on := 18, ground := Ground.phase }, { on := 19, ground := Ground.phase }, { on := 20, ground := Ground.phase }, { on := 21, ground := Ground.phase }], guard := none }) (v := ?_) rfl (by kernel_rfl) (by kernel_rfl) (by kernel_rfl) (fun _ _ _ h => h) (Or.inl ⟨by rfl, ?_⟩) hHeld ?_
              rotate_left
              · (intro w hSw; (try dsimp only at hSw); go_simp; all_goals (try with_reducible rfl))
              try simp only [Act.put, List.setIfInBounds_toArray, List.set_cons_zero, List.set_cons_succ]
              refine wpAnyH_done (by kernel_rfl) ?_ _
              go_wp2
              go_ret
              exact ⟨rfl, HB2.out.trans (HB12.out.mono HB2.out.size)⟩
theorem kindsNames_frame (a : Option Addr) (cap : Nat) (l : List Sig) (s : ByteArray) (i : Int) (W : World) (h : SigRow W a l) (hl : l.length ≤ 9223372036854775807) (hc : l.length ≤ cap) (ha : a = none → cap = 0) (hq : ∀ y ∈ l, y.name.size ≤ 9223372036854775807 ∧ y.unit.size ≤ 9223372036854775807 ∧ B64 y.lo ∧ B64 y.hi) (hs : s.size ≤ 140737488351232) (hi : -9223372036854775808 ≤ i ∧ i ≤ 9223372036854775807) :
    Calls Try.prog 3 #[.slice a l.length cap, .string s, .int .i64 i] W fun e W' => e = .returned (.bool true) ∧ Below W.heap.size W W' :=
  kindsNames_any a cap l s i W h hl hc ha (fun x hx => (hq x hx).1) (by omega)
end Go.Proofs.Ytjnnjjajlafchaa
