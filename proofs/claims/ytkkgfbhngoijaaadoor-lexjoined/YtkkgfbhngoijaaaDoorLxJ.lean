/- LexJoined's walk. -/
import Derived.Test.YtkkgfbhngoijaaaDoorLxJr
import Derived.BigRegion
namespace Go.Proofs.YtkkgfbhngoijaaaDoor
open Go.RowKit
set_option linter.unusedVariables false
set_option maxRecDepth 100000

theorem scanA_lines (B : Nat) (n : Nat) : ∀ (acc : List Wd) (p : Nat × Nat) (l : List UInt8), (∀ x ∈ acc, x.line ≤ B) → p.1 + l.length ≤ B → (∀ x ∈ (scanA n acc p l).1, x.line ≤ B) ∧ (scanA n acc p l).2.2.1 ≤ B := by
  induction n with
  | zero => intro acc p l _ _; simp [scanA]
  | succ n ih =>
    intro acc p l ha hB
    obtain ⟨m, hm, hsk, hid⟩ := skipL_split l.length p l (Nat.le_refl _)
    have hpb := passL_bd p (l.take m)
    rw [List.length_take] at hpb
    simp only [scanA, hsk]
    by_cases h1 : l.drop m = []
    · rw [if_pos h1]
      refine ⟨fun x hx => ?_, by simp⟩
      simp only [List.mem_append, List.mem_singleton] at hx
      rcases hx with hx | rfl
      · exact ha x hx
      · show (passL p (l.take m)).1 ≤ B
        omega
    · rw [if_neg h1]
      by_cases h2 : errOf (l.drop m) = 0
      · rw [if_neg (by simp [h2])]
        have hle := measureL_le (l.drop m)
        have hdl : (l.drop m).length = l.length - m := List.length_drop
        have hpb2 := passL_bd (passL p (l.take m)) ((l.drop m).take (measureL (l.drop m)).2)
        rw [List.length_take] at hpb2
        refine ih _ _ _ (fun x hx => ?_) ?_
        · simp only [List.mem_append, List.mem_singleton] at hx
          rcases hx with hx | rfl
          · exact ha x hx
          · show (passL p (l.take m)).1 ≤ B
            omega
        · rw [List.length_drop, hdl]
          rw [hdl] at hle hpb2
          omega
      · rw [if_pos h2]
        refine ⟨by simp, ?_⟩
        show (passL p (l.take m)).1 ≤ B
        omega
theorem scanT_lines (l : List UInt8) (h : l.length ≤ 3000) : (∀ x ∈ (scanT l).1, x.line ≤ 3001) ∧ (scanT l).2.2.1 ≤ 3001 := by
  have e1 : scanT l = scanL [] (1, 1) l := by unfold scanT; rw [if_neg (by omega)]
  rw [e1]
  exact scanA_lines 3001 (l.length + 1) [] (1, 1) l (by simp) (by simp; omega)
theorem strL_join (a b : List UInt8) : strL (a ++ 10 :: b) = strL a ++ ⟨#[10]⟩ ++ strL b := by
  apply ByteArray.ext; apply Array.ext'; simp [strL, ByteArray.data_append]
theorem Mod.bel {W V : World} (h : Mod [] W V) : Below W.heap.size W V := ⟨h.os, h.tape, h.output, h.size, fun k hk => h.block k hk (by simp)⟩
/-- A row's cells in a world behind. -/
theorem row_cells {X W1 w : World} {g k : Nat} {x : Wd} (hg : g < X.heap.size) (hj : ∀ j, j < 5 → X.cell? ⟨g, k * 5 + j, none⟩ = (wordC x)[j]?) (hb : Below X.heap.size X W1) (hm : Mod [] W1 w) :
    w.cell? ⟨g, k * 5, none⟩ = some (.int .i64 (x.kind : Int)) ∧ w.cell? ⟨g, k * 5 + 1, none⟩ = some (.string (strL x.text)) ∧ w.cell? ⟨g, k * 5 + 2, none⟩ = some (.int .i64 x.num) ∧ w.cell? ⟨g, k * 5 + 3, none⟩ = some (.int .i64 (x.line : Int)) ∧ w.cell? ⟨g, k * 5 + 4, none⟩ = some (.int .i64 (x.col : Int)) := by
  have hg1 : g < W1.heap.size := Nat.lt_of_lt_of_le hg hb.size
  have key : ∀ j, w.cell? ⟨g, k * 5 + j, none⟩ = X.cell? ⟨g, k * 5 + j, none⟩ := fun j => (hm.cellEq hg1 (by simp)).trans (hb.cell (p := ⟨g, k * 5 + j, none⟩) hg)
  refine ⟨(key 0).trans (hj 0 (by omega)), (key 1).trans (hj 1 (by omega)), (key 2).trans (hj 2 (by omega)), (key 3).trans (hj 3 (by omega)), (key 4).trans (hj 4 (by omega))⟩
set_option maxHeartbeats 4000000 in
theorem lexJoined_any (la lb : List UInt8) (W : World) (h1 : la.length ≤ 140737488351232) (h2 : lb.length ≤ 140737488351232) (hs : SignsAre W) (hm : MaxLenIs W) :
    Calls Tryd.prog 5 #[.string (strL la), .string (strL lb)] W fun e W' => e = .returned (.bool true) ∧ Below W.heap.size W W' := by
  have hsz1 : (strL la).size = la.length := strL_size la
  have hsz2 : (strL lb).size = lb.length := strL_size lb
  have HAL : Hid (∀ X, Below W.heap.size W X → Calls Tryd.prog 6 #[] X fun e W' => e = .returned (.bool true) ∧ Below X.heap.size X W') := fun X hX => alive_any X (hs.on hX) (hm.on hX)
  have HSC : Hid (∀ l X, l.length ≤ 140737488351232 → Below W.heap.size W X → Calls Tryd.prog 7 #[.string (strL l)] X fun e W' => ∃ v, e = .returned (scanV v (scanT l)) ∧ Scanned X W' v l) := fun l X hl hX => scan_any l X hl (hs.on hX) (hm.on hX)
  by_cases hbig : 3000 < la.length + lb.length
  · rw [← hsz1, ← hsz2] at hbig
    rw [← hsz1] at h1
    rw [← hsz2] at h2
    clear hs hm hsz1 hsz2
    generalize strL la = s1 at *
    generalize strL lb = s2 at *
    go_enter Tryd.func5, Tryd.ntmps5
    go_wp2_with fail
    refine Calls.mono (HAL.out _ (Below.refl _ _)) ?_
    rintro e W1 ⟨rfl, hb⟩
    have HB : Hid (Below W.heap.size W W1) := hb
    clear hb
    go_wp2
    go_ret
    exact ⟨rfl, HB.out⟩
  · have hj := scanT_join la lb (by omega)
    have hc1 := HSC.out la W h1 (Below.refl _ _)
    have HC2 : Hid (∀ X, Below W.heap.size W X → _) := fun X hX => HSC.out lb X h2 hX
    have HC3 : Hid (∀ X, Below W.heap.size W X → _) := fun X hX => HSC.out (la ++ 10 :: lb) X (by simp; omega) hX
    have hn1 := scanT_len la
    have hn2 := scanT_len lb
    have hn3 := scanT_len (la ++ 10 :: lb)
    have hl2 := scanT_lines lb (by omega)
    have hcat := strL_join la lb
    rw [hcat] at HC3
    unfold Scanned at hc1 HC2 HC3
    generalize scanT la = T1 at *
    generalize scanT lb = T2 at *
    generalize scanT (la ++ 10 :: lb) = T3 at *
    obtain ⟨w1, e1, l1, c1⟩ := T1
    obtain ⟨w2, e2, l2, c2⟩ := T2
    obtain ⟨w3, e3, l3, c3⟩ := T3
    simp only [scanV] at hj hc1 hn1 hn2 hn3 HC2 HC3 hl2
    have hs1 : (strL la).size ≤ 3000 := by omega
    have hs2 : (strL lb).size ≤ 3000 := by omega
    have hs3 : (strL la).size + (strL lb).size ≤ 3000 := by omega
    clear hs hm hsz1 hsz2 hbig h1 h2 hcat HSC
    generalize strL la = s1 at *
    generalize strL lb = s2 at *
    go_enter Tryd.func5, Tryd.ntmps5
    go_wp2_with fail
    refine Calls.mono hc1 ?_
    rintro e W1 ⟨v1, rfl, ho1, hb1⟩
    have HO1 : Hid (OW W1 W.heap.size v1 w1) := ho1
    have HB1 : Hid (Below W.heap.size W W1) := hb1
    obtain ⟨a1, k1, rfl, ha1, hr1⟩ := HO1.out.sl
    have HR1 := (show Hid _ from hr1)
    clear ho1 hb1 hr1 hc1 ha1
    go_wp2_with fail
    refine Calls.mono (HC2.out W1 HB1.out) ?_
    rintro e W2 ⟨v2, rfl, ho2, hb2⟩
    have HO2 : Hid (OW W2 W1.heap.size v2 w2) := ho2
    have HB2 : Hid (Below W1.heap.size W1 W2) := hb2
    have HB02 : Hid (Below W.heap.size W W2) := HB1.out.trans (hb2.mono HB1.out.size)
    obtain ⟨a2, k2, rfl, ha2, hr2⟩ := HO2.out.sl
    have HR2 := (show Hid _ from hr2)
    clear ho2 hb2 hr2 ha2
    go_wp2_with fail
    refine Calls.mono (HC3.out W2 HB02.out) ?_
    rintro e W3 ⟨v3, rfl, ho3, hb3⟩
    have HO3 : Hid (OW W3 W2.heap.size v3 w3) := ho3
    have HB3 : Hid (Below W2.heap.size W2 W3) := hb3
    have HB03 : Hid (Below W.heap.size W W3) := HB02.out.trans (hb3.mono HB02.out.size)
    obtain ⟨a3, k3, rfl, ha3, hr3⟩ := HO3.out.sl
    have HR3 := (show Hid _ from hr3)
    clear ho3 hb3 hr3 ha3 HC2 HC3
    obtain ⟨hj1, hj2⟩ := hj
    by_cases he1 : e1 = 0
    · subst he1
      obtain ⟨ws, q, hw1, hq, hj3, hj4⟩ := hj2 rfl
      have hlen1 : w1.length = ws.length + 1 := by rw [hw1]; simp
      obtain ⟨g1, rfl, _, hg1, hc1⟩ := HR1.out ws.length (by omega)
      have hend : w1.getD ws.length zeroW = endW q := by rw [hw1]; simp
      rw [hend] at hc1
      have hB13 : Below W1.heap.size W1 W3 := HB2.out.trans (HB3.out.mono HB2.out.size)
      have hcd := (row_cells hg1 hc1 hB13 (Mod.refl _ _)).2.2.2.1
      have hcd2 : W3.cell? ⟨g1, ws.length * 5 + 3, none⟩ = some (.int .i64 (q.1 : Int)) := hcd
      rw [hlen1] at hn1
      generalize w1.length = n1 at *
      subst hlen1
      clear hj1 hj2 hend hc1 hcd hB13 HR1 HO1
      generalize q.1 = d at *
      by_cases he2 : e2 = 0
      · subst he2
        obtain ⟨he3, hw3⟩ := hj4 rfl
        subst he3
        have hlen3 : w3.length = ws.length + w2.length := by rw [hw3]; simp
        have HG3 : Hid (∀ k, k < w2.length → w3.getD (ws.length + k) zeroW = downW d (w2.getD k zeroW)) := by
          intro k hk
          rw [hw3]
          simp [List.getD_eq_getElem?_getD, hk]
        have HL2 : Hid (∀ k, k < w2.length → (w2.getD k zeroW).line ≤ 3001) := by
          intro k hk
          refine hl2.1 _ ?_
          rw [List.getD_eq_getElem?_getD, List.getElem?_eq_getElem hk]; exact List.getElem_mem hk
        rw [hlen3] at hn3
        generalize w3.length = n3 at *
        subst hlen3
        have HB23 : Hid (Below W2.heap.size W2 W3) := HB3.out
        clear hj3 hj4 hl2 hw1 hw3 HO2 HO3
        go_wp2
        clear hcd2
        go_loopw [18] (fun iv wr => ∃ k : Nat, k ≤ w2.length ∧ iv = .int .i64 k ∧ Below W3.heap.size W3 wr) (fun iv _ => w2.length - (intOf iv).toNat)
        case atStart => exact ⟨0, Nat.zero_le _, rfl, Below.refl _ _⟩
        case round =>
          obtain ⟨k, hk, rfl, hbw⟩ := hrel
          have HBW : Hid (Below W3.heap.size W3 wr) := hbw
          clear hbw
          by_cases hlt : k < w2.length
          · obtain ⟨g2, rfl, _, hg2, hc2⟩ := HR2.out k hlt
            obtain ⟨g3, rfl, _, hg3, hc3⟩ := HR3.out (ws.length + k) (by omega)
            have hx := HG3.out k hlt
            have hyl := HL2.out k hlt
            rw [hx] at hc3
            generalize w2.getD k zeroW = y at *
            have HX : Hid (∀ w, Mod [] wr w → _) := fun w hw => row_cells hg3 hc3 HBW.out hw
            have HY : Hid (∀ w, Mod [] wr w → _) := fun w hw => row_cells hg2 hc2 (HB23.out.trans (HBW.out.mono HB23.out.size)) hw
            clear hx hc2 hc3
            go_wp2
            refine joined_tail wr g1 g2 g3 (ws.length + 1) w2.length (ws.length + w2.length) k1 k2 k3 k (ws.length + k) _ _ _ _ _ _ _ _ _ _ _ _ _ _ _ _ _ _ _ _ _ _ _ _ _ _ _ _ _ _ _ _ _ _ _ _ _ _ _ _ _ _ _ _ _ _ _ _ _ _ _ _ _ _ _ _ _ _ _ _ _ _ _ _ _ _ _ _ _ _ _ _ _ _ _ _ _ _ _ _ _ _ _ _ _ _ _ _ _ _ _ _ _ _ _ _ _ _ _ _ _ _ _ _ _ _ _ _ _ _ _ _ _ _ _ _ _ _ _ _ _ _ _ _ _ _ _ _ _ _ _ _ _ _ _ _ _ _ _ _ _ _ _ _ _ _ _ _ _ _ _ _ _ _ _ _ _ (fun c a dd vv w h => by cases dd <;> exact h) hlt (by omega) (by omega) (by omega) (by omega) (by omega) (by omega) HX.out HY.out ?_
            intro V b1 b2 p109 p110 p111 p112 p113 p114 p115 p116 p117 p118 p119 p120 hbx hby hMV
            have HV : Hid (Below W3.heap.size W3 V) := HBW.out.trans (hMV.bel.mono HBW.out.size)
            obtain ⟨x0, x1, x2, x3, x4, _⟩ := hbx
            obtain ⟨y0, y1, y2, y3, y4, _⟩ := hby
            have hyx : (((downW d y).line : Nat) : Int) = (y.line : Int) + (d : Int) := by simp [downW]
            have hyt : (downW d y).text = y.text := rfl
            have hyk : (downW d y).kind = y.kind := rfl
            have hyc : (downW d y).col = y.col := rfl
            rw [hyk] at x0
            rw [hyt] at x1
            rw [hyc] at x4
            rw [hyx] at x3
            generalize strL y.text = sy at *
            generalize y.kind = yk at *
            generalize y.col = yc at *
            generalize y.line = yl at *
            clear hyx hyt hyk hyc hMV HX HY
            go_wp2
            go_roundw
            case rel => exact ⟨k + 1, by omega, by go_num, HV.out⟩
            case measure => simp [intOf]; omega
          · have hkk : k = w2.length := by omega
            subst hkk
            have HB4 : Hid (Below W.heap.size W wr) := HB03.out.trans (HBW.out.mono HB03.out.size)
            go_wp2_with fail
            refine Calls.mono (HAL.out _ HB4.out) ?_
            rintro e W5 ⟨rfl, hb5⟩
            have HB5 : Hid (Below W.heap.size W W5) := HB4.out.trans (hb5.mono HB4.out.size)
            clear hb5
            go_wp2
            go_ret
            exact ⟨rfl, HB5.out⟩
      · obtain ⟨he3, hl3, hc3⟩ := hj3 he2
        subst he3 hl3 hc3
        have hl4 := hl2.2
        have e21 : (e3 != 0) = true := by simp [he2]
        have e22 : (e3 == 0) = false := by simp [he2]
        clear hj3 hj4 hl2 he2 HR2 HR3 HO2 HO3 hw1
        go_wp2_with fail
        refine Calls.mono (HAL.out _ HB03.out) ?_
        rintro e W4 ⟨rfl, hb4⟩
        have HB4 : Hid (Below W.heap.size W W4) := HB03.out.trans (hb4.mono HB03.out.size)
        clear hb4
        go_wp2
        go_ret
        exact ⟨rfl, HB4.out⟩
    · have he3 := hj1 he1
      subst he3
      have e11 : (e3 != 0) = true := by simp [he1]
      have e12 : (e3 == 0) = false := by simp [he1]
      clear hj1 hj2 he1 HR1 HR2 HR3 HO1 HO2 HO3 hl2
      go_wp2_with fail
      refine Calls.mono (HAL.out _ HB03.out) ?_
      rintro e W4 ⟨rfl, hb4⟩
      have HB4 : Hid (Below W.heap.size W W4) := HB03.out.trans (hb4.mono HB03.out.size)
      clear hb4
      go_wp2
      go_ret
      exact ⟨rfl, HB4.out⟩
end Go.Proofs.YtkkgfbhngoijaaaDoor
