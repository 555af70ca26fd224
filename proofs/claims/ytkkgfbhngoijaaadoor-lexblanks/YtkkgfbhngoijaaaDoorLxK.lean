/- LexBlanks' walk. -/
import Derived.Test.YtkkgfbhngoijaaaDoorLxKr
import Derived.Test.YtkkgfbhngoijaaaDoorLxQ0
import Derived.BigRegion
namespace Go.Proofs.YtkkgfbhngoijaaaDoor
open Go.RowKit
set_option linter.unusedVariables false
set_option maxRecDepth 100000

theorem bodyL_len (r : List UInt8) (ws : List Wd) (h : ∀ x ∈ ws, x.text.length ≤ 65536) : (bodyL r ws).length ≤ ws.length * (65544 + r.length) := by
  induction ws with
  | nil => simp [bodyL]
  | cons x ws ih =>
    have h1 := h x List.mem_cons_self
    have h2 := ih fun y hy => h y (List.mem_cons_of_mem _ hy)
    have e : bodyL r (x :: ws) = pieceL r x ++ bodyL r ws := by simp [bodyL]
    rw [e, List.length_append, List.length_cons, Nat.succ_mul]
    simp only [pieceL, List.length_cons, List.length_append, List.length_nil]
    omega
theorem laidL_len (r : List UInt8) (ws : List Wd) (h : ∀ x ∈ ws, x.text.length ≤ 65536) (hr : r.length ≤ 300) (hn : ws.length ≤ 65537) : (laidL r ws).length ≤ 10000000000 := by
  have h1 := bodyL_len r ws h
  have h2 : ws.length * (65544 + r.length) ≤ 65537 * 65844 := Nat.mul_le_mul hn (by omega)
  unfold laidL
  simp only [List.length_cons, List.length_append]
  omega
theorem strL_laid0 (r : List UInt8) : strL (laidL r []) = ⟨#[35]⟩ ++ strL r ++ ⟨#[10]⟩ := by
  apply ByteArray.ext; apply Array.ext'; simp [strL, laidL, bodyL, ByteArray.data_append]
theorem strL_piece (r a : List UInt8) (x : Wd) : strL (a ++ pieceL r x) = strL a ++ (⟨#[32, 9, 13, 10]⟩ ++ strL x.text ++ ⟨#[32, 35]⟩ ++ strL r ++ ⟨#[10]⟩) := by
  apply ByteArray.ext; apply Array.ext'; simp [strL, pieceL, ByteArray.data_append]
theorem no_ten (r : List UInt8) (h : ∀ j, j < r.length → (r.getD j 0).toNat ≠ 10) : (10 : UInt8) ∉ r := by
  intro hm
  obtain ⟨j, hj, e⟩ := List.mem_iff_getElem.1 hm
  exact h j hj (by rw [List.getD_eq_getElem?_getD, List.getElem?_eq_getElem hj]; simp [e])
/-- The cells of a word that the law's last loop reads. -/
theorem word_cells {X w : World} {g k : Nat} {x : Wd} (hg : g < X.heap.size) (hj : ∀ j, j < 5 → X.cell? ⟨g, k * 5 + j, none⟩ = (wordC x)[j]?) (hb : Below X.heap.size X w) :
    w.cell? ⟨g, k * 5, none⟩ = some (.int .i64 (x.kind : Int)) ∧ w.cell? ⟨g, k * 5 + 1, none⟩ = some (.string (strL x.text)) ∧ w.cell? ⟨g, k * 5 + 2, none⟩ = some (.int .i64 x.num) := by
  have key : ∀ j, w.cell? ⟨g, k * 5 + j, none⟩ = X.cell? ⟨g, k * 5 + j, none⟩ := fun j => hb.cell (p := ⟨g, k * 5 + j, none⟩) hg
  exact ⟨(key 0).trans (hj 0 (by omega)), (key 1).trans (hj 1 (by omega)), (key 2).trans (hj 2 (by omega))⟩
theorem bare_at {ms ws : List Wd} (h : ms.map bareW = ws.map bareW) : ms.length = ws.length ∧ ∀ k, k < ws.length → (ms.getD k zeroW).kind = (ws.getD k zeroW).kind ∧ (ms.getD k zeroW).text = (ws.getD k zeroW).text ∧ (ms.getD k zeroW).num = (ws.getD k zeroW).num := by
  have hl : ms.length = ws.length := by have := congrArg List.length h; simpa using this
  refine ⟨hl, fun k hk => ?_⟩
  have e := congrArg (fun l => l[k]?) h
  simp only [List.getElem?_map] at e
  rw [List.getElem?_eq_getElem hk, List.getElem?_eq_getElem (by omega)] at e
  simp only [Option.map_some, Option.some.injEq, bareW, Prod.mk.injEq] at e
  rw [List.getD_eq_getElem?_getD, List.getD_eq_getElem?_getD, List.getElem?_eq_getElem hk, List.getElem?_eq_getElem (by omega : k < ms.length)]
  exact e
set_option maxHeartbeats 4000000 in
theorem lexBlanks_any (l r : List UInt8) (W : World) (h1 : l.length ≤ 140737488351232) (h2 : r.length ≤ 140737488351232) (hs : SignsAre W) (hm : MaxLenIs W) :
    Calls Tryd.prog 3 #[.string (strL l), .string (strL r)] W fun e W' => e = .returned (.bool true) ∧ Below W.heap.size W W' := by
  have hsz1 : (strL l).size = l.length := strL_size l
  have hsz2 : (strL r).size = r.length := strL_size r
  have HAL : Hid (∀ X, Below W.heap.size W X → Calls Tryd.prog 6 #[] X fun e W' => e = .returned (.bool true) ∧ Below X.heap.size X W') := fun X hX => alive_any X (hs.on hX) (hm.on hX)
  have HSC : Hid (∀ l X, l.length ≤ 140737488351232 → Below W.heap.size W X → Calls Tryd.prog 7 #[.string (strL l)] X fun e W' => ∃ v, e = .returned (scanV v (scanT l)) ∧ Scanned X W' v l) := fun l X hl hX => scan_any l X hl (hs.on hX) (hm.on hX)
  by_cases hb1 : 3000 < l.length
  · rw [← hsz1] at hb1 h1
    rw [← hsz2] at h2
    clear hs hm hsz1 hsz2
    generalize strL l = s1 at *
    generalize strL r = s2 at *
    go_enter Tryd.func3, Tryd.ntmps3
    go_wp2_with fail
    refine Calls.mono (HAL.out _ (Below.refl _ _)) ?_
    rintro e W1 ⟨rfl, hb⟩
    have HB : Hid (Below W.heap.size W W1) := hb
    clear hb
    go_wp2
    go_ret
    exact ⟨rfl, HB.out⟩
  by_cases hb2 : 300 < r.length
  · have hb3 : (strL l).size ≤ 3000 := by omega
    rw [← hsz2] at hb2 h2
    clear hs hm hsz1 hsz2 hb1 h1
    generalize strL l = s1 at *
    generalize strL r = s2 at *
    go_enter Tryd.func3, Tryd.ntmps3
    go_wp2_with fail
    refine Calls.mono (HAL.out _ (Below.refl _ _)) ?_
    rintro e W1 ⟨rfl, hb⟩
    have HB : Hid (Below W.heap.size W W1) := hb
    clear hb
    go_wp2
    go_ret
    exact ⟨rfl, HB.out⟩
  have hsc := HSC.out l W h1 (Below.refl _ _)
  have hlen := scanT_len l
  have HER := scanT_err l (by omega)
  have HTX : Hid (∀ x ∈ (scanT l).1, x.text.length ≤ 65536) := fun x hx => (scanT_ok l x hx).2.2.1
  have HLD : Hid (∀ (hr : (10 : UInt8) ∉ r), (scanT l).2.1 = 0 → (laidL r (scanT l).1).length ≤ 65536 → (scanT (laidL r (scanT l).1)).2.1 = 0 ∧ (scanT (laidL r (scanT l).1)).1.map bareW = (scanT l).1.map bareW) := fun hr => scanT_laid l r hr (by omega)
  unfold Scanned at hsc
  generalize hT : scanT l = T at *
  obtain ⟨ws, er, ln, cl⟩ := T
  simp only [scanV] at hsc hlen HER
  obtain ⟨F, hF⟩ : ∃ F : Nat → ByteArray, ∀ k, F k = strL (laidL r (ws.take k)) := ⟨_, fun _ => rfl⟩
  have HF0 : Hid (F 0 = ⟨#[35]⟩ ++ strL r ++ ⟨#[10]⟩) := by show F 0 = _; rw [hF]; exact strL_laid0 r
  have HFS : Hid (∀ k, k < ws.length → F (k + 1) = F k ++ (⟨#[32, 9, 13, 10]⟩ ++ strL (ws.getD k zeroW).text ++ ⟨#[32, 35]⟩ ++ strL r ++ ⟨#[10]⟩)) := by
    intro k hk
    rw [hF, hF, List.take_succ_eq_append_getElem hk, laidL_snoc, strL_piece, List.getD_eq_getElem?_getD, List.getElem?_eq_getElem hk]; rfl
  have HFZ : Hid (∀ k, (F k).size ≤ 10000000000) := by
    intro k
    rw [hF, strL_size]
    exact laidL_len r _ (fun x hx => HTX.out x (List.mem_of_mem_take hx)) (by omega) (by rw [List.length_take]; omega)
  have HFT : Hid (F ws.length = strL (laidL r ws)) := by show F ws.length = _; rw [hF, List.take_length]
  obtain ⟨s2, hS⟩ : ∃ s : ByteArray, r = s.data.toList := ⟨strL r, (strL_toList r).symm⟩
  have hS2 : strL r = s2 := by rw [hS, strL_of]
  rw [hS2] at HF0 HFS hsz2 ⊢
  have hb3 : (strL l).size ≤ 3000 := by omega
  have hb4 : s2.size ≤ 300 := by omega
  have HS : Hid (r = s2.data.toList ∧ r.length = s2.size) := ⟨hS, hsz2.symm⟩
  clear hs hm hsz1 hsz2 hb1 hb2 h1 h2 hS hS2 hF
  generalize strL l = s1 at *
  go_enter Tryd.func3, Tryd.ntmps3
  go_wp2
  go_loop [5] (fun iv => ∃ k : Nat, iv = .int .i64 k ∧ k ≤ s2.size ∧ ∀ j, j < k → (r.getD j 0).toNat ≠ 10) (fun iv => s2.size - (intOf iv).toNat)
  case atStart => exact ⟨0, rfl, Nat.zero_le _, fun j hj => by omega⟩
  case round =>
    obtain ⟨k, rfl, hk, hno⟩ := hrel
    have HNO : Hid (∀ j, j < k → (r.getD j 0).toNat ≠ 10) := hno
    clear hno
    by_cases hlt : k < s2.size
    · have hgd : r.getD k 0 = s2[k] := by rw [HS.out.1]; exact getD_at s2 k hlt
      have HGD : Hid (r.getD k 0 = s2[k]) := hgd
      clear hgd
      by_cases hc : (s2[k]).toNat = 10
      · have hc1 : (((s2[k]).toNat : Int) == 10) = true := by rw [hc]; rfl
        clear hc hsc HER
        go_wp2_with fail
        refine Calls.mono (HAL.out _ (Below.refl _ _)) ?_
        rintro e W1 ⟨rfl, hb⟩
        have HB : Hid (Below W.heap.size W W1) := hb
        clear hb
        go_wp2
        go_ret
        exact ⟨rfl, HB.out⟩
      · have hc1 : (((s2[k]).toNat : Int) == 10) = false := by simp; omega
        have HNX : Hid (∀ j, j < k + 1 → (r.getD j 0).toNat ≠ 10) := by
          intro j hj
          rcases Nat.lt_or_ge j k with h | h
          · exact HNO.out j h
          · have : j = k := by omega
            subst this; rw [HGD.out]; exact hc
        clear hc hsc HER
        go_wp2
        go_round
        case rel => exact ⟨k + 1, by go_num, by omega, HNX.out⟩
        case measure => simp [intOf]; omega
    · have hkk : k = s2.size := by omega
      subst hkk
      have HR : Hid ((10 : UInt8) ∉ r) := no_ten r (by rw [HS.out.2]; exact HNO.out)
      clear HNO hlt
      go_wp2_with fail
      refine Calls.mono hsc ?_
      rintro e W1 ⟨v1, rfl, ho1, hb1⟩
      have HO1 : Hid (OW W1 W.heap.size v1 ws) := ho1
      have HB1 : Hid (Below W.heap.size W W1) := hb1
      obtain ⟨a1, c1, rfl, ha1, hr1⟩ := HO1.out.sl
      have HR1 := (show Hid _ from hr1)
      clear ho1 hb1 hr1 hsc ha1
      by_cases her : er = 0
      · subst her
        clear HER
        go_wp2
        go_loop [10, 11] (fun sv iv => ∃ k : Nat, sv = .string (F k) ∧ iv = .int .i64 k ∧ k ≤ ws.length) (fun _ iv => ws.length - (intOf iv).toNat)
        case atStart => exact ⟨0, by rw [HF0.out], rfl, Nat.zero_le _⟩
        case round =>
          obtain ⟨k, rfl, rfl, hk⟩ := hrel
          by_cases hlt : k < ws.length
          · obtain ⟨g1, rfl, _, hg1, hc1⟩ := HR1.out k hlt
            have hx := (word_cells hg1 hc1 (Below.refl _ _)).2.1
            have hn := HFS.out k hlt
            have HN : Hid (F (k + 1) = F k ++ (⟨#[32, 9, 13, 10]⟩ ++ strL (ws.getD k zeroW).text ++ ⟨#[32, 35]⟩ ++ s2 ++ ⟨#[10]⟩)) := hn
            have hz1 := HFZ.out (k + 1)
            have hz2 := HFZ.out k
            rw [hn] at hz1
            simp only [ByteArray.size_append] at hz1
            clear hc1 hn
            generalize strL (ws.getD k zeroW).text = xt at *
            go_wp2
            go_round
            case rel => exact ⟨k + 1, by rw [HN.out], by go_num, by omega⟩
            case measure => simp [intOf]; omega
          · have hkk : k = ws.length := by omega
            subst hkk
            clear hlt
            by_cases hbig : 65536 < (F ws.length).size
            · go_wp2_with fail
              refine Calls.mono (HAL.out _ HB1.out) ?_
              rintro e W2 ⟨rfl, hb⟩
              have HB2 : Hid (Below W.heap.size W W2) := HB1.out.trans (hb.mono HB1.out.size)
              clear hb
              go_wp2
              go_ret
              exact ⟨rfl, HB2.out⟩
            · have hsz : (laidL r ws).length ≤ 65536 := by
                have h := HFT.out
                rw [h, strL_size] at hbig; omega
              have hld := HLD.out HR.out trivial hsz
              have hsc2 := HSC.out (laidL r ws) W1 (by omega) HB1.out
              unfold Scanned at hsc2
              rw [← HFT.out] at hsc2
              have hfz : (F ws.length).size ≤ 65536 := by omega

              generalize scanT (laidL r ws) = T2 at *
              obtain ⟨ms, er2, ln2, cl2⟩ := T2
              simp only [scanV] at hsc2 hld
              obtain ⟨he2, hm2⟩ := hld
              subst he2
              obtain ⟨hml, hmk⟩ := bare_at hm2
              have HMK : Hid (∀ k, k < ws.length → (ms.getD k zeroW).kind = (ws.getD k zeroW).kind ∧ (ms.getD k zeroW).text = (ws.getD k zeroW).text ∧ (ms.getD k zeroW).num = (ws.getD k zeroW).num) := hmk
              clear hmk hm2 hbig hsz
              go_wp2_with fail
              refine Calls.mono hsc2 ?_
              rintro e W2 ⟨v2, rfl, ho2, hb2⟩
              have HO2 : Hid (OW W2 W1.heap.size v2 ms) := ho2
              have HB12 : Hid (Below W1.heap.size W1 W2) := hb2
              have HB2 : Hid (Below W.heap.size W W2) := HB1.out.trans (hb2.mono HB1.out.size)
              obtain ⟨a2, c2, rfl, ha2, hr2⟩ := HO2.out.sl
              rw [hml] at hr2 ⊢
              have HR2 := (show Hid _ from hr2)
              clear ho2 hb2 hr2 hsc2 ha2 hml HO2
              go_wp2
              go_loopw [16] (fun iv wr => ∃ k : Nat, iv = .int .i64 k ∧ k ≤ ws.length ∧ Below W2.heap.size W2 wr) (fun iv _ => ws.length - (intOf iv).toNat)
              case atStart => exact ⟨0, rfl, Nat.zero_le _, Below.refl _ _⟩
              case round =>
                obtain ⟨k, rfl, hk, hbw⟩ := hrel
                have HBW : Hid (Below W2.heap.size W2 wr) := hbw
                clear hbw
                by_cases hlt : k < ws.length
                · obtain ⟨g1, rfl, _, hg1, hc1⟩ := HR1.out k hlt
                  obtain ⟨g2, rfl, _, hg2, hc2⟩ := HR2.out k hlt
                  have hm3 := HMK.out k hlt
                  have hx := word_cells hg1 hc1 (HB12.out.trans (HBW.out.mono HB12.out.size))
                  have hy := word_cells hg2 hc2 HBW.out
                  rw [hm3.1, hm3.2.1, hm3.2.2] at hy
                  generalize ws.getD k zeroW = x at *
                  have HD : Hid (∀ X, Below W2.heap.size W2 X → Below W2.heap.size W2 X.drew) := fun X hX => hX.drew
                  clear hc1 hc2 hm3
                  go_wp2
                  refine blanks_tail wr g1 g2 k ws.length ws.length c1 c2 _ _ _ _ _ _ _ _ _ _ _ _ _ _ _ _ _ _ _ _ _ _ _ _ _ _ _ _ _ _ _ _ _ _ _ _ _ _ _ _ _ _ _ _ _ _ _ _ _ _ _ _ _ _ _ _ _ _ _ _ _ _ _ _ _ _ _ _ _ _ _ _ _ _ _ _ _ _ _ _ _ _ _ _ _ _ _ _ _ _ _ _ _ _ _ _ _ _ _ _ _ _ _ _ _ _ _ _ _ _ _ _ _ _ _ _ _ _ _ _ _ _ _ _ _ _ _ _ _ _ _ _ _ _ _ _ _ _ (fun c a dd vv w h => by cases dd <;> exact h) hlt hlt hlen hx.1 hx.2.1 hx.2.2 hy.1 hy.2.1 hy.2.2 ?_
                  intro p99 p100 p101 p102 p103 p104 p105 p106 p107 p108 p109 p110 p111 p112 p113 p114 p115 p116 p117 p118 p119 p120 p121 p122 p123 p124 p125 p126 p127 p128 p129 p130 p131 p132 p133 p134
                  clear hx hy
                  go_wp2
                  go_roundw
                  case rel => exact ⟨k + 1, by go_num, by omega, HD.out _ HBW.out⟩
                  case measure => simp [intOf]; omega
                · have hkk : k = ws.length := by omega
                  subst hkk
                  have HB3 : Hid (Below W.heap.size W wr) := HB2.out.trans (HBW.out.mono HB2.out.size)
                  go_wp2_with fail
                  refine Calls.mono (HAL.out _ HB3.out) ?_
                  rintro e W4 ⟨rfl, hb4⟩
                  have HB4 : Hid (Below W.heap.size W W4) := HB3.out.trans (hb4.mono HB3.out.size)
                  clear hb4
                  go_wp2
                  go_ret
                  exact ⟨rfl, HB4.out⟩
      · have hE := HER her
        obtain ⟨hw0, hl1, hc1⟩ := hE
        have hw1 : (ws.length : Int) = 0 := by rw [hw0]; rfl
        have he1 : (er != 0) = true := by simp [her]
        have he2 : (er == 0) = false := by simp [her]
        clear HER her hw0
        go_wp2_with fail
        refine Calls.mono (HAL.out _ HB1.out) ?_
        rintro e W2 ⟨rfl, hb2⟩
        have HB2 : Hid (Below W.heap.size W W2) := HB1.out.trans (hb2.mono HB1.out.size)
        clear hb2
        go_wp2
        go_ret
        exact ⟨rfl, HB2.out⟩
end Go.Proofs.YtkkgfbhngoijaaaDoor
