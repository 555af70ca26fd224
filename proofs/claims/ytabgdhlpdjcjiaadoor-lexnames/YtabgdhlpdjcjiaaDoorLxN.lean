/- LexNames' walk. -/
import Derived.Test.YtabgdhlpdjcjiaaDoorLxNr
import Derived.BigRegion
namespace Go.Proofs.YtabgdhlpdjcjiaaDoor
open Go.RowKit
set_option linter.unusedVariables false
set_option maxRecDepth 100000

theorem strL_eq (l : List UInt8) : ((strL l).toList == (strL l).toList) = true := by simp
set_option maxHeartbeats 2000000 in
theorem lexNames_any (l : List UInt8) (W : World) (h : l.length ≤ 140737488351232) (hs : SignsAre W) (hm : MaxLenIs W) :
    Calls Tryd.prog 6 #[.string (strL l)] W fun e W' => e = .returned (.bool true) ∧ Below W.heap.size W W' := by
  have hsz : (strL l).size = l.length := strL_size l
  have HAL : Hid (∀ X, Below W.heap.size W X → Calls Tryd.prog 7 #[] X fun e W' => e = .returned (.bool true) ∧ Below X.heap.size X W') := fun X hX => alive_any X (hs.on hX) (hm.on hX)
  by_cases hbig : 3000 < l.length
  · rw [← hsz] at hbig h
    clear hs hm hsz
    generalize strL l = s at *
    go_enter Tryd.func6, Tryd.ntmps6
    go_wp2_with fail
    refine Calls.mono (HAL.out _ (Below.refl _ _)) ?_
    rintro e W1 ⟨rfl, hb⟩
    have HB : Hid (Below W.heap.size W W1) := hb
    clear hb
    go_wp2
    go_ret
    exact ⟨rfl, HB.out⟩
  · have hsc := scan_any l W h hs hm
    have hnm := isName_any l
    have hok := scanT_ok l
    have hlen := scanT_len l
    have hs3 : (strL l).size ≤ 3000 := by omega
    have hll : l.length ≤ 1000000 := by omega
    have HNM := scan_name l
    generalize hT : scanT l = T at *
    obtain ⟨ws, er, ln, cl⟩ := T
    simp only [scanV] at hsc hok hlen
    clear hs hm hsz hbig h
    generalize hS : strL l = s at *
    have HS : Hid (strL l = s ∧ scanT l = (ws, er, ln, cl)) := ⟨hS, hT⟩
    clear hS
    go_enter Tryd.func6, Tryd.ntmps6
    go_wp2_with fail
    refine Calls.mono hsc ?_
    rintro e W1 ⟨v, rfl, ho, hb⟩
    rw [hT] at ho
    have HB : Hid (Below W.heap.size W W1) := hb
    have HO : Hid (OW W1 W.heap.size v ws) := ho
    have HOK : Hid (∀ x ∈ ws, WordOk x) := hok
    obtain ⟨a, cap, rfl, ha0, hc⟩ := HO.out.sl
    have HC := (show Hid _ from hc)
    clear hb ho hok hc hT hsc
    cases hn : isNameL l with
    | false =>
      rw [hn] at hnm
      clear hn HNM
      go_wp2_with (go_at_call 9; refine (hnm _ hll).mono ?_; rintro e W9 ⟨rfl, hw9⟩; subst W9)
      go_loopw [7] (fun i wr => ∃ k : Nat, k ≤ ws.length ∧ i = .int .i64 k ∧ Below W1.heap.size W1 wr) (fun i _ => ws.length - (intOf i).toNat)
      case atStart => exact ⟨0, Nat.zero_le _, rfl, Below.refl _ _⟩
      case round =>
        obtain ⟨k, hk, rfl, hbw⟩ := hrel
        have HBW : Hid (Below W1.heap.size W1 wr) := hbw
        clear hbw
        by_cases hlt : k < ws.length
        · obtain ⟨g, rfl, _, hg, hj⟩ := HC.out k hlt
          have hx : WordOk (ws.getD k zeroW) := HOK.out _ (by rw [List.getD_eq_getElem?_getD, List.getElem?_eq_getElem hlt]; exact List.getElem_mem hlt)
          generalize ws.getD k zeroW = x at *
          obtain ⟨xk, xt, xn, xl, xc⟩ := x
          obtain ⟨x1, x2, x3, x4⟩ := hx
          simp only at x1 x2 x3 x4
          have k0 := hj 0 (by omega)
          have k1 := hj 1 (by omega)
          have k2 := hj 2 (by omega)
          rw [← HBW.out.cell (p := ⟨g, _, none⟩) hg] at k0 k1 k2
          simp [wordC] at k0 k1 k2
          have hN := isName_any xt
          rw [← x1] at hN
          have hxt : xt.length ≤ 1000000 := by omega
          generalize strL xt = sx at *
          have HD : Hid (∀ X, Below W1.heap.size W1 X → Below W1.heap.size W1 X.drew) := fun X hX => hX.drew
          clear hj x1 ha0
          rcases (show xk = 0 ∨ xk = 1 ∨ xk = 2 ∨ xk = 3 by omega) with q | q | q | q
          · have hkv : xk = 0 := q
            subst hkv
            have x5 : xn = 0 := x2 (by omega); subst x5; clear x2
            go_wp2
            refine names_tail0 wr g k ws.length cap sx _ _ _ _ _ _ _ _ _ _ _ _ _ _ _ _ _ _ _ _ _ _ _ _ _ _ _ _ _ _ _ _ _ _ _ _ _ _ _ _ _ _ _ _ _ _ _ _ _ _ _ _ _ _ _ _ _ _ _ _ _ _ _ _ _ _ _ _ _ _ _ _ _ _ _ _ _ _ _ _ _ _ _ _ _ _ _ _ _ _ _ _ _ _ (fun c a dd vv w h => by cases dd <;> exact h) hlt (by omega) k0 k1 k2 (fun w => hN w hxt) ?_
            intro p65 p66 p67 p68 p69 p70 p71 p72 p73 p74 p75 p76 p77 p78 p79 p80 p81 p82 p83 p84 p85 p86 p87 p88 p89 p90 p91 p92
            go_wp2
            go_roundw
            case rel => exact ⟨k + 1, by omega, by go_num, HD.out _ HBW.out⟩
            case measure => simp [intOf]; omega
          · have hkv : xk = 1 := q
            subst hkv
            have x5 : xn = 0 := x2 (by omega); subst x5; clear x2
            go_wp2
            refine names_tail1 wr g k ws.length cap sx _ _ _ _ _ _ _ _ _ _ _ _ _ _ _ _ _ _ _ _ _ _ _ _ _ _ _ _ _ _ _ _ _ _ _ _ _ _ _ _ _ _ _ _ _ _ _ _ _ _ _ _ _ _ _ _ _ _ _ _ _ _ _ _ _ _ _ _ _ _ _ _ _ _ _ _ _ _ _ _ _ _ _ _ _ _ _ _ _ _ _ _ _ _ (fun c a dd vv w h => by cases dd <;> exact h) hlt (by omega) k0 k1 k2 (fun w => hN w hxt) ?_
            intro p65 p66 p67 p68 p69 p70 p71 p72 p73 p74 p75 p76 p77 p78 p79 p80 p81 p82 p83 p84 p85 p86 p87 p88 p89 p90 p91 p92
            go_wp2
            go_roundw
            case rel => exact ⟨k + 1, by omega, by go_num, HD.out _ HBW.out⟩
            case measure => simp [intOf]; omega
          · have hkv : xk = 2 := q
            subst hkv
            skip
            go_wp2
            refine names_tail2 wr g k ws.length cap sx xn _ _ _ _ _ _ _ _ _ _ _ _ _ _ _ _ _ _ _ _ _ _ _ _ _ _ _ _ _ _ _ _ _ _ _ _ _ _ _ _ _ _ _ _ _ _ _ _ _ _ _ _ _ _ _ _ _ _ _ _ _ _ _ _ _ _ _ _ _ _ _ _ _ _ _ _ _ _ _ _ _ _ _ _ _ _ _ _ _ _ _ _ _ _ (fun c a dd vv w h => by cases dd <;> exact h) hlt (by omega) k0 k1 k2 (fun w => hN w hxt) ?_
            intro p65 p66 p67 p68 p69 p70 p71 p72 p73 p74 p75 p76 p77 p78 p79 p80 p81 p82 p83 p84 p85 p86 p87 p88 p89 p90 p91 p92
            go_wp2
            go_roundw
            case rel => exact ⟨k + 1, by omega, by go_num, HD.out _ HBW.out⟩
            case measure => simp [intOf]; omega
          · have hkv : xk = 3 := q
            subst hkv
            have x5 : xn = 0 := x2 (by omega); subst x5; clear x2
            go_wp2
            refine names_tail3 wr g k ws.length cap sx _ _ _ _ _ _ _ _ _ _ _ _ _ _ _ _ _ _ _ _ _ _ _ _ _ _ _ _ _ _ _ _ _ _ _ _ _ _ _ _ _ _ _ _ _ _ _ _ _ _ _ _ _ _ _ _ _ _ _ _ _ _ _ _ _ _ _ _ _ _ _ _ _ _ _ _ _ _ _ _ _ _ _ _ _ _ _ _ _ _ _ _ _ _ (fun c a dd vv w h => by cases dd <;> exact h) hlt (by omega) k0 k1 k2 (fun w => hN w hxt) ?_
            intro p65 p66 p67 p68 p69 p70 p71 p72 p73 p74 p75 p76 p77 p78 p79 p80 p81 p82 p83 p84 p85 p86 p87 p88 p89 p90 p91 p92
            go_wp2
            go_roundw
            case rel => exact ⟨k + 1, by omega, by go_num, HD.out _ HBW.out⟩
            case measure => simp [intOf]; omega
        · have hkk : k = ws.length := by omega
          subst hkk
          have HB1 : Hid (Below W.heap.size W wr) := HB.out.trans (HBW.out.mono HB.out.size)
          go_wp2_with fail
          refine Calls.mono (HAL.out _ HB1.out) ?_
          rintro e W2 ⟨rfl, hb2⟩
          have HB2 : Hid (Below W.heap.size W W2) := HB1.out.trans (hb2.mono HB1.out.size)
          clear hb2
          go_wp2
          go_ret
          exact ⟨rfl, HB2.out⟩
    | true =>
      rw [hn] at hnm
      obtain ⟨p, hp⟩ := HNM hn
      simp only [Prod.mk.injEq] at hp
      obtain ⟨hws, hp1, hp2, hp3⟩ := hp
      subst hp1 hp2 hp3
      have hl2 : ws.length = 2 := by rw [hws]; rfl
      obtain ⟨g, rfl, _, hg0, hj0⟩ := HC.out 0 (by omega)
      have hx0 : ws.getD 0 zeroW = ⟨1, l, 0, 1, 1⟩ := by rw [hws]; rfl
      rw [hx0] at hj0
      have m0 := hj0 0 (by omega)
      have m1 := hj0 1 (by omega)
      have m3 := hj0 3 (by omega)
      have m4 := hj0 4 (by omega)
      simp [wordC] at m0 m1 m3 m4
      rw [HS.out.1] at m1
      have hl2a : ((ws.length : Int) != 2) = false := by rw [hl2]; rfl
      have hl2b : ((ws.length : Int) == 2) = true := by rw [hl2]; rfl
      have hl3 : 0 < ws.length := by omega
      clear hn HNM hws hx0 hj0 ha0 hl2
      go_wp2_with (go_at_call 9; refine (hnm _ hll).mono ?_; rintro e W9 ⟨rfl, hw9⟩; subst W9)
      clear m0 m1 m3 m4 hl2a hl2b hl3 hg0
      go_loopw [7] (fun i wr => ∃ k : Nat, k ≤ ws.length ∧ i = .int .i64 k ∧ Below W1.heap.size W1 wr) (fun i _ => ws.length - (intOf i).toNat)
      case atStart => exact ⟨0, Nat.zero_le _, rfl, Below.refl _ _⟩
      case round =>
        obtain ⟨k, hk, rfl, hbw⟩ := hrel
        have HBW : Hid (Below W1.heap.size W1 wr) := hbw
        clear hbw
        by_cases hlt : k < ws.length
        · obtain ⟨g2, hga, _, hg2, hj⟩ := HC.out k hlt
          have e2 : g2 = g := by cases hga; rfl
          rw [e2] at hj hg2
          have hg := hg2
          clear e2 hga hg2
          have hx : WordOk (ws.getD k zeroW) := HOK.out _ (by rw [List.getD_eq_getElem?_getD, List.getElem?_eq_getElem hlt]; exact List.getElem_mem hlt)
          generalize ws.getD k zeroW = x at *
          obtain ⟨xk, xt, xn, xl, xc⟩ := x
          obtain ⟨x1, x2, x3, x4⟩ := hx
          simp only at x1 x2 x3 x4
          have k0 := hj 0 (by omega)
          have k1 := hj 1 (by omega)
          have k2 := hj 2 (by omega)
          rw [← HBW.out.cell (p := ⟨g, _, none⟩) hg] at k0 k1 k2
          simp [wordC] at k0 k1 k2
          have hN := isName_any xt
          rw [← x1] at hN
          have hxt : xt.length ≤ 1000000 := by omega
          generalize strL xt = sx at *
          have HD : Hid (∀ X, Below W1.heap.size W1 X → Below W1.heap.size W1 X.drew) := fun X hX => hX.drew
          clear hj x1
          rcases (show xk = 0 ∨ xk = 1 ∨ xk = 2 ∨ xk = 3 by omega) with q | q | q | q
          · have hkv : xk = 0 := q
            subst hkv
            have x5 : xn = 0 := x2 (by omega); subst x5; clear x2
            go_wp2
            refine names_tail0 wr g k ws.length cap sx _ _ _ _ _ _ _ _ _ _ _ _ _ _ _ _ _ _ _ _ _ _ _ _ _ _ _ _ _ _ _ _ _ _ _ _ _ _ _ _ _ _ _ _ _ _ _ _ _ _ _ _ _ _ _ _ _ _ _ _ _ _ _ _ _ _ _ _ _ _ _ _ _ _ _ _ _ _ _ _ _ _ _ _ _ _ _ _ _ _ _ _ _ _ (fun c a dd vv w h => by cases dd <;> exact h) hlt (by omega) k0 k1 k2 (fun w => hN w hxt) ?_
            intro p65 p66 p67 p68 p69 p70 p71 p72 p73 p74 p75 p76 p77 p78 p79 p80 p81 p82 p83 p84 p85 p86 p87 p88 p89 p90 p91 p92
            go_wp2
            go_roundw
            case rel => exact ⟨k + 1, by omega, by go_num, HD.out _ HBW.out⟩
            case measure => simp [intOf]; omega
          · have hkv : xk = 1 := q
            subst hkv
            have x5 : xn = 0 := x2 (by omega); subst x5; clear x2
            go_wp2
            refine names_tail1 wr g k ws.length cap sx _ _ _ _ _ _ _ _ _ _ _ _ _ _ _ _ _ _ _ _ _ _ _ _ _ _ _ _ _ _ _ _ _ _ _ _ _ _ _ _ _ _ _ _ _ _ _ _ _ _ _ _ _ _ _ _ _ _ _ _ _ _ _ _ _ _ _ _ _ _ _ _ _ _ _ _ _ _ _ _ _ _ _ _ _ _ _ _ _ _ _ _ _ _ (fun c a dd vv w h => by cases dd <;> exact h) hlt (by omega) k0 k1 k2 (fun w => hN w hxt) ?_
            intro p65 p66 p67 p68 p69 p70 p71 p72 p73 p74 p75 p76 p77 p78 p79 p80 p81 p82 p83 p84 p85 p86 p87 p88 p89 p90 p91 p92
            go_wp2
            go_roundw
            case rel => exact ⟨k + 1, by omega, by go_num, HD.out _ HBW.out⟩
            case measure => simp [intOf]; omega
          · have hkv : xk = 2 := q
            subst hkv
            skip
            go_wp2
            refine names_tail2 wr g k ws.length cap sx xn _ _ _ _ _ _ _ _ _ _ _ _ _ _ _ _ _ _ _ _ _ _ _ _ _ _ _ _ _ _ _ _ _ _ _ _ _ _ _ _ _ _ _ _ _ _ _ _ _ _ _ _ _ _ _ _ _ _ _ _ _ _ _ _ _ _ _ _ _ _ _ _ _ _ _ _ _ _ _ _ _ _ _ _ _ _ _ _ _ _ _ _ _ _ (fun c a dd vv w h => by cases dd <;> exact h) hlt (by omega) k0 k1 k2 (fun w => hN w hxt) ?_
            intro p65 p66 p67 p68 p69 p70 p71 p72 p73 p74 p75 p76 p77 p78 p79 p80 p81 p82 p83 p84 p85 p86 p87 p88 p89 p90 p91 p92
            go_wp2
            go_roundw
            case rel => exact ⟨k + 1, by omega, by go_num, HD.out _ HBW.out⟩
            case measure => simp [intOf]; omega
          · have hkv : xk = 3 := q
            subst hkv
            have x5 : xn = 0 := x2 (by omega); subst x5; clear x2
            go_wp2
            refine names_tail3 wr g k ws.length cap sx _ _ _ _ _ _ _ _ _ _ _ _ _ _ _ _ _ _ _ _ _ _ _ _ _ _ _ _ _ _ _ _ _ _ _ _ _ _ _ _ _ _ _ _ _ _ _ _ _ _ _ _ _ _ _ _ _ _ _ _ _ _ _ _ _ _ _ _ _ _ _ _ _ _ _ _ _ _ _ _ _ _ _ _ _ _ _ _ _ _ _ _ _ _ (fun c a dd vv w h => by cases dd <;> exact h) hlt (by omega) k0 k1 k2 (fun w => hN w hxt) ?_
            intro p65 p66 p67 p68 p69 p70 p71 p72 p73 p74 p75 p76 p77 p78 p79 p80 p81 p82 p83 p84 p85 p86 p87 p88 p89 p90 p91 p92
            go_wp2
            go_roundw
            case rel => exact ⟨k + 1, by omega, by go_num, HD.out _ HBW.out⟩
            case measure => simp [intOf]; omega
        · have hkk : k = ws.length := by omega
          subst hkk
          have HB1 : Hid (Below W.heap.size W wr) := HB.out.trans (HBW.out.mono HB.out.size)
          go_wp2_with fail
          refine Calls.mono (HAL.out _ HB1.out) ?_
          rintro e W2 ⟨rfl, hb2⟩
          have HB2 : Hid (Below W.heap.size W W2) := HB1.out.trans (hb2.mono HB1.out.size)
          clear hb2
          go_wp2
          go_ret
          exact ⟨rfl, HB2.out⟩
end Go.Proofs.YtabgdhlpdjcjiaaDoor
