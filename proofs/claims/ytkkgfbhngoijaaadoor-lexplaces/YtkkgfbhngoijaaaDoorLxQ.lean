/- LexPlaces' walk. -/
import Derived.Test.YtkkgfbhngoijaaaDoorLxQr
import Derived.BigRegion
namespace Go.Proofs.YtkkgfbhngoijaaaDoor
open Go.RowKit
set_option linter.unusedVariables false
set_option maxRecDepth 100000

/-- What holds at the head of the law's loop: where it is in the text, and what words are left. -/
def AtWord (t : List UInt8) (ws : List Wd) (k at0 row start : Nat) : Prop := k ≤ ws.length ∧ at0 ≤ t.length ∧ Placed t at0 (ws.drop k) ∧ (posL t at0).1 = row ∧ start + (posL t at0).2 = at0 + 1 ∧ (k = ws.length → at0 = t.length)
/-- What holds at the head of the inner one: on the way to the place P. -/
def OnWay (t : List UInt8) (P at0 row start : Nat) : Prop := at0 ≤ P ∧ P ≤ t.length ∧ (posL t at0).1 = row ∧ start + (posL t at0).2 = at0 + 1
theorem OnWay.step {t : List UInt8} {P at0 row start : Nat} (h : OnWay t P at0 row start) (hr : row < (posL t P).1) : at0 < P ∧ at0 < t.length ∧
    ((t.getD at0 0).toNat = 10 → OnWay t P (at0 + 1) (row + 1) (at0 + 1)) ∧ ((t.getD at0 0).toNat ≠ 10 → OnWay t P (at0 + 1) row start) := by
  obtain ⟨h1, h2, h3, h4⟩ := h
  have h5 : at0 < P := by
    rcases Nat.lt_or_ge at0 P with h | h
    · exact h
    · have : at0 = P := by omega
      subst this; omega
  refine ⟨h5, by omega, fun hc => ?_, fun hc => ?_⟩
  · refine ⟨by omega, h2, ?_, ?_⟩ <;> rw [posL_succ t at0 (by omega)] <;> unfold passC <;> rw [if_pos hc] <;> simp only <;> omega
  · refine ⟨by omega, h2, ?_, ?_⟩ <;> rw [posL_succ t at0 (by omega)] <;> unfold passC <;> rw [if_neg hc] <;> simp only <;> omega
theorem OnWay.there {t : List UInt8} {P at0 row start : Nat} (h : OnWay t P at0 row start) (hr : (posL t P).1 ≤ row) : row = (posL t P).1 ∧ start + (posL t P).2 = P + 1 := by
  obtain ⟨h1, h2, h3, h4⟩ := h
  have h5 := posL_mono t at0 P h1 h2
  have h6 : (posL t at0).1 = (posL t P).1 := by omega
  have h7 := posL_same t at0 P h1 h2 h6
  exact ⟨by omega, by omega⟩
/-- A word, and what is behind it. -/
theorem AtWord.word {t : List UInt8} {ws : List Wd} {k at0 row start : Nat} (h : AtWord t ws k at0 row start) (hk : k < ws.length) :
    ∃ P, OnWay t P at0 row start ∧ P + (ws.getD k zeroW).text.length ≤ t.length ∧ (t.drop P).take (ws.getD k zeroW).text.length = (ws.getD k zeroW).text ∧ posL t P = ((ws.getD k zeroW).line, (ws.getD k zeroW).col) ∧
      (k + 1 = ws.length → (ws.getD k zeroW).kind = 0 ∧ P + (ws.getD k zeroW).text.length = t.length) ∧ (k + 1 ≠ ws.length → (ws.getD k zeroW).kind ≠ 0 ∧ (ws.getD k zeroW).text ≠ []) ∧ (ws.getD k zeroW).kind ≤ 3 ∧
      ∀ s', s' + (ws.getD k zeroW).col = P + 1 → AtWord t ws (k + 1) (P + (ws.getD k zeroW).text.length) (ws.getD k zeroW).line s' := by
  obtain ⟨h1, h2, h3, h4, h5, h6⟩ := h
  have hd : ws.drop k = ws.getD k zeroW :: ws.drop (k + 1) := by
    rw [List.drop_eq_getElem_cons hk, List.getD_eq_getElem?_getD, List.getElem?_eq_getElem hk]; rfl
  rw [hd] at h3
  generalize ws.getD k zeroW = x at *
  obtain ⟨P, p1, p2, p3, p4, p5, p6, p7, p8, p9⟩ := h3
  have hnil : k + 1 = ws.length → ws.drop (k + 1) = [] := fun e => by rw [e, List.drop_length]
  have hne : k + 1 ≠ ws.length → ws.drop (k + 1) ≠ [] := fun e h => e (by
    have := congrArg List.length h
    simp at this; omega)
  refine ⟨P, ⟨p1, by omega, h4, h5⟩, p2, p3, p4, fun e => p6 (hnil e), fun e => p7 (hne e), p8, fun s' hs' => ⟨hk, p2, p9, p5, ?_, fun e => (p6 (hnil e)).2⟩⟩
  have := posL_same t P (P + x.text.length) (by omega) p2 (by rw [p4, p5])
  rw [this, p4]
  show s' + (x.col + _) = _
  omega
theorem slice_at (s sx : ByteArray) (P : Nat) (h : P + sx.size ≤ s.size) (he : (s.data.toList.drop P).take sx.size = sx.data.toList) :
    ∀ X, (Instr.slice 9 (.string s) (some (.int .i64 (P : Int))) (some (.int .i64 ((P : Int) + (sx.size : Int)))) none).run Tryd.prog X = .ok (.string sx) X := by
  intro X
  rw [run_slice_string X 9 s .i64 .i64 (P : Int) ((P : Int) + (sx.size : Int)) Tryd.underlying9 (by omega) (by omega) (by omega)]
  have : s.extract (P : Int).toNat ((P : Int) + (sx.size : Int)).toNat = sx := by
    rw [Int.toNat_natCast, show ((P : Int) + (sx.size : Int)).toNat = P + sx.size by omega]
    apply ByteArray.ext; rw [ByteArray.data_extract]; apply Array.ext'
    rw [← he]
    simp [List.take_drop]
  rw [this]
theorem nat_lt_no {a b : Nat} (h : b ≤ a) : decide ((a : Int) < (b : Int)) = false := by simp; omega
set_option maxHeartbeats 4000000 in
theorem lexPlaces_any (l : List UInt8) (W : World) (h : l.length ≤ 140737488351232) (hs : SignsAre W) (hm : MaxLenIs W) :
    Calls Tryd.prog 4 #[.string (strL l)] W fun e W' => e = .returned (.bool true) ∧ Below W.heap.size W W' := by
  have HAL : Hid (∀ X, Below W.heap.size W X → Calls Tryd.prog 6 #[] X fun e W' => e = .returned (.bool true) ∧ Below X.heap.size X W') := fun X hX => alive_any X (hs.on hX) (hm.on hX)
  have hsc := scan_any l W h hs hm
  have HPL := scanT_placed l
  have HER := scanT_err l
  have hlen := scanT_len l
  generalize hT : scanT l = T at *
  obtain ⟨ws, er, ln, cl⟩ := T
  simp only [scanV] at hsc hlen HPL HER
  obtain ⟨s, hS⟩ : ∃ s : ByteArray, l = s.data.toList := ⟨strL l, (strL_toList l).symm⟩
  have hS2 : strL l = s := by rw [hS, strL_of]
  have hsz : l.length = s.size := by rw [hS]; simp
  rw [hS2] at hsc ⊢
  have HS : Hid (l = s.data.toList ∧ l.length = s.size) := ⟨hS, hsz⟩
  rw [hsz] at h HPL HER
  clear hs hm hS2 hS hsz
  go_enter Tryd.func4, Tryd.ntmps4
  go_wp2_with fail
  refine Calls.mono hsc ?_
  rintro e W1 ⟨v, rfl, ho, hb⟩
  rw [hT] at ho
  have HB : Hid (Below W.heap.size W W1) := hb
  have HO : Hid (OW W1 W.heap.size v ws) := ho
  obtain ⟨a, cap, rfl, ha0, hc⟩ := HO.out.sl
  have HC := (show Hid _ from hc)
  clear hb ho hc hT hsc
  by_cases hbig : 3000 < s.size
  · clear HPL HER ha0
    go_wp2_with fail
    refine Calls.mono (HAL.out _ HB.out) ?_
    rintro e W2 ⟨rfl, hb2⟩
    have HB2 : Hid (Below W.heap.size W W2) := HB.out.trans (hb2.mono HB.out.size)
    clear hb2
    go_wp2
    go_ret
    exact ⟨rfl, HB2.out⟩
  · by_cases her : er = 0
    · subst her
      obtain ⟨hne, hpl⟩ := HPL (by omega) rfl
      have HPA : Hid (AtWord l ws 0 0 1 0) := ⟨Nat.zero_le _, Nat.zero_le _, hpl, rfl, rfl, fun e => absurd (List.length_eq_zero_iff.1 e.symm) hne⟩
      have hpos : 0 < ws.length := List.length_pos_iff.2 hne
      have hs3 : s.size ≤ 3000 := by omega
      clear HPL HER ha0 hne hpl hbig h
      go_wp2
      go_loopw [7, 8, 9, 10] (fun av rv sv iv wr => ∃ k at0 row start : Nat, av = .int .i64 at0 ∧ rv = .int .i64 row ∧ sv = .int .i64 start ∧ iv = .int .i64 k ∧ k ≤ ws.length ∧ AtWord l ws k at0 row start ∧ Below W1.heap.size W1 wr) (fun _ _ _ iv _ => ws.length - (intOf iv).toNat)
      case atStart => exact ⟨0, 0, 1, 0, rfl, rfl, rfl, rfl, Nat.zero_le _, HPA.out, Below.refl _ _⟩
      case round =>
        clear HPA
        obtain ⟨k, at0, row, start, rfl, rfl, rfl, rfl, hk, haw, hbw⟩ := hrel
        have HBW : Hid (Below W1.heap.size W1 wr) := hbw
        have HAW : Hid (AtWord l ws k at0 row start) := haw
        clear hbw haw
        by_cases hlt : k < ws.length
        · obtain ⟨g, rfl, _, hg, hj⟩ := HC.out k hlt
          obtain ⟨P, how, hP2, hP3, hP4, hP5, hP6, hP7, hP8⟩ := HAW.out.word hlt
          generalize ws.getD k zeroW = x at *
          obtain ⟨xk, xt, xn, xl, xc⟩ := x
          simp only at hP2 hP3 hP4 hP5 hP6 hP7 hP8
          have k0 := hj 0 (by omega)
          have k1 := hj 1 (by omega)
          have k3 := hj 3 (by omega)
          have k4 := hj 4 (by omega)
          rw [← HBW.out.cell (p := ⟨g, _, none⟩) hg] at k0 k1 k3 k4
          simp [wordC] at k0 k1 k3 k4
          have hxz : (strL xt).size = xt.length := strL_size xt
          have hsl := slice_at s (strL xt) P (by rw [hxz, ← HS.out.2]; exact hP2) (by rw [hxz, ← HS.out.1, strL_toList]; exact hP3)
          have HXT : Hid (xt ≠ [] → ((strL xt).toList == []) = false ∧ (strL xt).toList ≠ []) := fun hh => ⟨(by simpa using (strL_ne hh).1), (strL_ne hh).1⟩
          have hbd := posL_bd l P (by omega)
          rw [hP4] at hbd
          have hPl : (posL l P).1 = xl := by rw [hP4]
          have hPc : (posL l P).2 = xc := by rw [hP4]
          rw [← hxz] at hP2 hP5 hP8
          rw [HS.out.2] at hP2 hP5
          have HP8 : Hid (∀ s', s' + xc = P + 1 → AtWord l ws (k + 1) (P + (strL xt).size) xl s') := hP8
          have HP5 : Hid (k + 1 = ws.length → xk = 0 ∧ P + (strL xt).size = s.size) := hP5
          have HP6 : Hid (k + 1 ≠ ws.length → xk ≠ 0 ∧ xt ≠ []) := hP6
          have HOW : Hid (OnWay l P at0 row start ∧ (posL l P).1 = xl ∧ (posL l P).2 = xc) := ⟨how, hPl, hPc⟩
          have HD : Hid (∀ X, Below W1.heap.size W1 X → Below W1.heap.size W1 X.drew) := fun X hX => hX.drew
          simp only at hbd
          have hb1 : xl ≤ 3001 ∧ xc ≤ 3001 ∧ 1 ≤ xc := by omega
          obtain ⟨hb1, hb2, hb3⟩ := hb1
          clear hj hP3 hP4 hP5 hP6 hP8 how hbd hPl hPc hxz HAW
          generalize strL xt = sx at *
          go_wp2
          go_loop [7, 8, 9] (fun av rv sv => ∃ a1 r1 s1 : Nat, av = .int .i64 a1 ∧ rv = .int .i64 r1 ∧ sv = .int .i64 s1 ∧ OnWay l P a1 r1 s1) (fun av _ _ => P - (intOf av).toNat)
          case atStart => exact ⟨at0, row, start, rfl, rfl, rfl, HOW.out.1⟩
          case round =>
            obtain ⟨a1, r1, s1, rfl, rfl, rfl, ho1⟩ := hrel
            have HO1 : Hid (OnWay l P a1 r1 s1) := ho1
            have hP3 : a1 ≤ P := ho1.1
            clear ho1
            by_cases hr : r1 < xl
            · have hst := HO1.out.step (by rw [HOW.out.2.1]; exact hr)
              obtain ⟨ha2, ha3, hst1, hst2⟩ := hst
              have HS1 : Hid ((l.getD a1 0).toNat = 10 → OnWay l P (a1 + 1) (r1 + 1) (a1 + 1)) := hst1
              have HS2 : Hid ((l.getD a1 0).toNat ≠ 10 → OnWay l P (a1 + 1) r1 s1) := hst2
              rw [HS.out.2] at ha3
              have hgd : l.getD a1 0 = s[a1] := by rw [HS.out.1]; exact getD_at s a1 ha3
              rw [hgd] at HS1 HS2
              clear hgd hst1 hst2
              by_cases hc : (s[a1]).toNat = 10
              · have HS3 : Hid (OnWay l P (a1 + 1) (r1 + 1) (a1 + 1)) := HS1.out hc
                have hc1 : (((s[a1]).toNat : Int) == 10) = true := by rw [hc]; rfl
                clear HS1 HS2 hc
                go_wp2
                go_round
                case rel => exact ⟨a1 + 1, r1 + 1, a1 + 1, by go_num, by go_num, by go_num, HS3.out⟩
                case measure => simp [intOf]; omega
              · have HS3 : Hid (OnWay l P (a1 + 1) r1 s1) := HS2.out hc
                have hc1 : (((s[a1]).toNat : Int) == 10) = false := by simp; omega
                clear HS1 HS2 hc
                go_wp2
                go_round
                case rel => exact ⟨a1 + 1, r1, s1, by go_num, by go_num, by go_num, HS3.out⟩
                case measure => simp [intOf]; omega
            · have hth := HO1.out.there (by rw [HOW.out.2.1]; omega)
              rw [HOW.out.2.1, HOW.out.2.2] at hth
              obtain ⟨hr1, hs1⟩ := hth
              have HNX : Hid (AtWord l ws (k + 1) (P + sx.size) xl s1) := HP8.out s1 hs1
              subst hr1
              have hto : ((s1 : Int) + (xc : Int) - 1) = (P : Int) := by omega
              have hs2 : s1 ≤ 3001 := by omega
              clear hs1 hr HP8 HO1 HOW
              go_wp2

              refine places_tail wr g k ws.length cap a1 r1 P s sx _ _ _ _ _ _ _ _ _ _ _ _ _ _ _ _ _ _ _ _ _ _ _ _ _ _ _ _ _ _ _ _ _ _ _ _ _ _ _ _ _ _ _ _ _ _ _ _ _ _ _ _ _ _ _ _ _ _ _ _ _ _ _ _ _ _ _ _ _ _ _ _ _ _ _ _ _ _ _ _ _ _ _ _ _ _ _ _ _ _ _ _ _ _ _ _ _ _ _ _ _ _ _ _ _ _ _ _ _ _ _ _ _ _ _ _ _ _ _ _ _ _ _ _ _ _ _ _ _ _ _ _ _ _ _ _ _ _ _ _ _ _ _ _ _ _ _ _ _ _ _ _ _ _ _ _ _ _ _ _ _ _ _ _ _ _ _ _ _ _ _ (fun c a dd vv w h => by cases dd <;> exact h) hlt (by omega) hP3 hP2 hs3 k1 k3 hsl ?_
              intro p76 p77 p78 p79 p80 p81 p82 p83 p84 p85 p86 p87 p88 p89 p90 p91 p92 p93 p94 p95 p96 p97 p98 p99 p100 p101 p102 p103 p104 p105 p106 p107 p108 p109 p110 p111 p112 p113 p114 p115 p116 p117 p118
              by_cases hend : k + 1 = ws.length
              · obtain ⟨hx0, hx1⟩ := HP5.out hend
                subst hx0
                have e1 : ((k : Int) == (ws.length : Int) - 1) = true := by simp; omega
                have e2 : ((P : Int) + (sx.size : Int) != (s.size : Int)) = false := by simp; omega
                clear hend
                go_wp2
                go_roundw
                case rel => exact ⟨k + 1, P + sx.size, r1, s1, by go_num, by go_num, by go_num, by go_num, by omega, HNX.out, HD.out _ HBW.out⟩
                case measure => simp [intOf]; omega
              · obtain ⟨hx0, hx1⟩ := HP6.out hend
                obtain ⟨hx2, hx3⟩ := HXT.out hx1
                have e1 : ((k : Int) == (ws.length : Int) - 1) = false := by simp; omega
                have e2 : ((xk : Int) == 0) = false := by simp; omega
                have e3 : ((xk : Int) != 0) = true := by simp; omega
                clear hend hx1
                go_wp2
                go_roundw
                case rel => exact ⟨k + 1, P + sx.size, r1, s1, by go_num, by go_num, by go_num, by go_num, by omega, HNX.out, HD.out _ HBW.out⟩
                case measure => simp [intOf]; omega
        · have hkk : k = ws.length := by omega
          subst hkk
          have HB1 : Hid (Below W.heap.size W wr) := HB.out.trans (HBW.out.mono HB.out.size)
          clear HAW
          go_wp2_with fail
          refine Calls.mono (HAL.out _ HB1.out) ?_
          rintro e W2 ⟨rfl, hb2⟩
          have HB2 : Hid (Below W.heap.size W W2) := HB1.out.trans (hb2.mono HB1.out.size)
          clear hb2
          go_wp2
          go_ret
          exact ⟨rfl, HB2.out⟩
    · have hE := HER (by omega) her
      obtain ⟨hw0, hl1, hc1⟩ := hE
      have hs3 : s.size ≤ 3000 := by omega
      have hw1 : (ws.length : Int) = 0 := by rw [hw0]; rfl
      have he1 : (er != 0) = true := by simp [her]
      have he2 : (er == 0) = false := by simp [her]
      have hl2 : ((ln : Int) ≥ 1) = True := by simp; omega
      have hc2 : ((cl : Int) ≥ 1) = True := by simp; omega
      clear HPL HER hbig h her hw0 ha0
      go_wp2_with fail
      refine Calls.mono (HAL.out _ HB.out) ?_
      rintro e W2 ⟨rfl, hb2⟩
      have HB2 : Hid (Below W.heap.size W W2) := HB.out.trans (hb2.mono HB.out.size)
      clear hb2
      go_wp2
      go_ret
      exact ⟨rfl, HB2.out⟩
end Go.Proofs.YtkkgfbhngoijaaaDoor
