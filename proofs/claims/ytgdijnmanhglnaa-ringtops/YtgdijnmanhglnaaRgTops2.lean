/- RingTops: the law's walk. Conditions: none but the numbers' own ranges. -/
import Derived.Test.YtgdijnmanhglnaaRgTopsD
namespace Go.Proofs.Ytgdijnmanhglnaa
open Go.RowKit
set_option linter.unusedVariables false
set_option maxRecDepth 100000

set_option maxHeartbeats 2000000 in
theorem tops_ltb (n k : Nat) (b' off cap : Nat) (zs : List Int) (w : World) (hz : IntRow w (some ⟨b', off, none⟩) zs) (h0 : 1 ≤ n) (h1 : n ≤ 200) (h2 : zs.length ≤ 300) (h3 : 0 < zs.length) (h4 : k ≤ zs.length) (hcap : zs.length ≤ cap) (hkc : k < cap) (hqn : ¬ n ≤ zs.length) :
    Calls Try.prog 6 #[.int .i64 n, .slice (some ⟨b', off, none⟩) zs.length cap, .int .i64 k] w fun e w' => e = .returned (.bool true) ∧ Below w.heap.size w w' := by
  have HZ : Hid (IntRow w (some ⟨b', off, none⟩) zs) := hz
  have HO : Hid (b' < w.heap.size) := by obtain ⟨_, _, e, hc⟩ := hz 0 h3; cases e; exact World.block_lt_of_cell? w _ hc
  have h3' : ((zs.length : Int) == 0) = false := by rw [beq_eq_false_iff_ne]; omega
  clear hz
  go_enter Try.func6, Try.ntmps6
  go_wp2_with fail
  refine Calls.mono (newtop_ok n w h0 (by omega)) ?_
  rintro e w1 ⟨t, b, g, rfl, ht, hb, hg, hT, hB⟩
  have H1 : Hid (TopIs w1 t b g n [] ∧ Below w.heap.size w w1 ∧ w.heap.size ≤ t ∧ w.heap.size ≤ b ∧ w.heap.size ≤ g) := ⟨hT, hB, ht, hb, hg⟩
  clear hT hB ht hb hg
  go_wp2_with fail
  refine Calls.mono (newtop_ok n w1 h0 (by omega)) ?_
  rintro e w2 ⟨t2, b2, g2, rfl, ht, hb, hg, hT, hB⟩
  have H2 : Hid (Tops w w2 t b g t2 b2 g2 n [] []) := by
    obtain ⟨q1, q2, q3, q4, q5⟩ := H1.out
    have l := q1.lt
    have s := q2.size
    exact ⟨q1.below hB, hT, q2.trans (hB.mono q2.size), by omega, by omega⟩
  clear hT hB ht hb hg H1
  go_wp2_with fail
  refine Calls.mono (tpush_any H2.out.one (by omega) _ zs _ (HZ.out.below H2.out.bel) (fun _ => off_at HO.out _ (by have := H2.out.new; simp; omega)) (by omega)) ?_
  rintro e w3 ⟨rfl, hT, hM⟩
  have H3 : Hid (Tops w w3 t b g t2 b2 g2 n (pushL n [] zs) []) := H2.out.first hM hT
  clear hT hM H2
  go_wp2_with fail
  have r1 := (HZ.out.below H3.out.bel).take k
  have l1 : (zs.take k).length = k := by rw [List.length_take]; omega
  have t1 := tpush_any H3.out.two (by omega) _ (zs.take k) cap r1 (fun _ => off_at HO.out _ (by have := H3.out.new; simp; omega)) (by omega)
  rw [l1] at t1
  refine Calls.mono t1 ?_
  rintro e w4 ⟨rfl, hT, hM⟩
  have H4 : Hid (Tops w w4 t b g t2 b2 g2 n (pushL n [] zs) (pushL n [] (zs.take k))) := H3.out.second hM hT
  clear hT hM H3 r1 l1 t1
  go_wp2_with fail
  have r1 := (HZ.out.below H4.out.bel).drop k
  have l1 : (zs.drop k).length = zs.length - k := by rw [List.length_drop]
  have t1 := tpush_any H4.out.two (by omega) _ (zs.drop k) (cap - k) r1 (fun _ => off_at HO.out _ (by have := H4.out.new; simp; omega)) (by omega)
  rw [l1] at t1
  clear r1 l1
  refine Calls.mono t1 ?_
  rintro e w5 ⟨rfl, hT, hM⟩
  have H5 : Hid (Tops w w5 t b g t2 b2 g2 n (pushL n [] zs) (pushL n [] zs)) := by
    refine H4.out.second hM ?_
    rw [pushL_push, List.take_append_drop] at hT; exact hT
  clear hT hM H4 t1
  have lx : (pushL n [] zs).length = min n zs.length := by rw [pushL_len]; simp
  have he : topE (pushL n [] zs) = 0 := by unfold topE; rw [if_neg (by omega)]
  have Hm : Hid (∀ d, d < (pushL n [] zs).length → ¬ topV true (pushL n [] zs) < atL (pushL n [] zs) d ∧ ¬ atL (pushL n [] zs) d < topV false (pushL n [] zs)) := fun d hd => by
    have h1 := topV_best true _ _ (atL_mem hd)
    have h2 := topV_best false _ _ (atL_mem hd)
    unfold betB at h1 h2
    simp at h1 h2
    omega
  have Ha : Hid (anyEq (pushL n [] zs) (topV true (pushL n [] zs)) (pushL n [] zs).length = true ∧ anyEq (pushL n [] zs) (topV false (pushL n [] zs)) (pushL n [] zs).length = true) := ⟨anyEq_all _ _ (topV_mem _ _ (by omega)), anyEq_all _ _ (topV_mem _ _ (by omega))⟩
  have Hd : Hid (∀ d, d < (pushL n [] zs).length → atL (pushL n [] zs) d = zs.getD (zs.length - 1 - d) 0) := ago_push n zs
  have HX : Hid (∀ W t b g, TopIs W t b g n (pushL n [] zs) → Calls Try.prog 19 #[.pointer (some ⟨t, 0, none⟩)] W fun e w' => e = .returned (.tuple #[.int .i64 (topV true (pushL n [] zs)), .int .i64 0]) ∧ Below W.heap.size W w') := fun W t b g h => by
    have := tmax_any h (by omega); rw [he] at this; exact this
  have HN : Hid (∀ W t b g, TopIs W t b g n (pushL n [] zs) → Calls Try.prog 20 #[.pointer (some ⟨t, 0, none⟩)] W fun e w' => e = .returned (.tuple #[.int .i64 (topV false (pushL n [] zs)), .int .i64 0]) ∧ Below W.heap.size W w') := fun W t b g h => by
    have := tmin_any h (by omega); rw [he] at this; exact this
  generalize pushL n [] zs = xs at *
  generalize topV true xs = m at *
  generalize topV false xs = mn at *
  clear he
  have Hl : Hid (xs.length = min n zs.length) := lx
  clear lx
  go_wp2_with fail
  refine Calls.mono (HX.out _ _ _ _ H5.out.one) ?_
  rintro e w6 ⟨rfl, hb⟩
  have H6 := H5.out.stays hb
  have H6' : Hid (Tops w w6 t b g t2 b2 g2 n xs xs) := H6
  clear hb H6 H5
  go_wp2_with fail
  refine Calls.mono (HX.out _ _ _ _ H6'.out.two) ?_
  rintro e w7 ⟨rfl, hb⟩
  have H7 : Hid (Tops w w7 t b g t2 b2 g2 n xs xs) := H6'.out.stays hb
  clear hb H6'
  go_wp2_with fail
  refine Calls.mono (HN.out _ _ _ _ H7.out.one) ?_
  rintro e w8 ⟨rfl, hb⟩
  have H8 : Hid (Tops w w8 t b g t2 b2 g2 n xs xs) := H7.out.stays hb
  have c0 := H8.out.one.c0
  clear hb H7 HX HN
  obtain ⟨q, hq⟩ : ∃ q, xs.length = q := ⟨_, rfl⟩
  have HQ : Hid (xs.length = q) := hq
  have hqm : Hid (q = min n zs.length) := by rw [← hq]; exact Hl.out
  have HR : Hid (∀ W, RingIs W b g n xs → Calls Try.prog 23 #[.pointer (some ⟨b, 0, none⟩)] W fun e w' => e = .returned (.int .i64 q) ∧ w' = W) := fun W h => by
    have := len_any h; rw [hq] at this; exact this
  clear hq Hl
  have Hrest : Hid (∀ (q' : Nat), q' = q → Hid (q' ≤ zs.length ∧ 0 < q')) := fun q' e => by subst e; have := hqm.out; exact ⟨by omega, by omega⟩
  obtain rfl : zs.length = q := by have := hqm.out; omega
  go_wp2_with (go_at_call 23; refine (HR.out _ H8.out.one.ring).mono ?_; rintro e w' ⟨rfl, hw⟩; have hw' := hw.symm; subst hw'; clear hw)
  go_loop [17, 18, 19] (fun v1 v2 i => ∃ (d : Nat) (p1 p2 : Bool), d ≤ zs.length ∧ v1 = .bool p1 ∧ v2 = .bool p2 ∧ i = .int .i64 d ∧ anyEq xs m d = p1 ∧ anyEq xs mn d = p2) (fun _ _ i => zs.length - (intOf i).toNat)
  case atStart => exact ⟨0, false, false, Nat.zero_le _, rfl, rfl, rfl, rfl, rfl⟩
  case round =>
    obtain ⟨d, p1, p2, hd, rfl, rfl, rfl, hp1, hp2⟩ := hrel
    have HP : Hid (anyEq xs m d = p1 ∧ anyEq xs mn d = p2) := ⟨hp1, hp2⟩
    clear hp1 hp2
    by_cases hlt : d < zs.length
    · have hdx : d < xs.length := by rw [HQ.out]; exact hlt
      obtain ⟨x, hx⟩ : ∃ x, atL xs d = x := ⟨_, rfl⟩
      have hmx := Hm.out d hdx
      have hzx := Hd.out d hdx
      have hA := ago_in H8.out.one.ring (by omega) d hdx
      have hs1 := anyEq_step xs m d hdx
      have hs2 := anyEq_step xs mn d hdx
      obtain ⟨_, _, e2, hc2⟩ := (HZ.out.below H8.out.bel) (zs.length - 1 - d) (by have := Hrest.out _ rfl; have := this.out; omega)
      cases e2
      rw [← hzx] at hc2
      rw [hx] at hmx hc2 hs1 hs2
      change Calls Try.prog 15 #[.pointer (some ⟨b, 0, none⟩), .int .i64 d] w8 (fun e w' => e = .returned (.tuple #[.int .i64 (atL xs d), .int .i64 0]) ∧ w' = w8) at hA
      rw [hx] at hA
      have HA : Hid (Calls Try.prog 15 #[.pointer (some ⟨b, 0, none⟩), .int .i64 d] w8 (fun e w' => e = .returned (.tuple #[.int .i64 x, .int .i64 0]) ∧ w' = w8)) := hA
      have HS : Hid (anyEq xs m (d + 1) = (p1 || x == m) ∧ anyEq xs mn (d + 1) = (p2 || x == mn)) := ⟨by rw [hs1, HP.out.1], by rw [hs2, HP.out.2]⟩
      obtain ⟨hm1, hm2⟩ := hmx
      have hc3 : w8.cell? ⟨b', off + ((zs.length : Int) - 1 - d).toNat, none⟩ = some (.int .i64 x) := by rw [show ((zs.length : Int) - 1 - d).toNat = zs.length - 1 - d by omega]; exact hc2
      have hrest := (Hrest.out _ rfl).out
      clear hA hs1 hs2 hzx hx hdx
      cases p1 <;> cases p2
      all_goals
        go_wp2_with (first | (go_at_call 23; refine (HR.out _ H8.out.one.ring).mono ?_; rintro e w' ⟨rfl, hw⟩; have hw' := hw.symm; subst hw'; clear hw) | (go_at_call 15; refine (HA.out).mono ?_; rintro e w' ⟨rfl, hw⟩; have hw' := hw.symm; subst hw'; clear hw))
        go_round
        case rel => exact ⟨d + 1, _, _, by omega, rfl, rfl, by go_num, HS.out.1, HS.out.2⟩
        case measure => simp [intOf]; omega
    · obtain rfl : d = zs.length := by omega
      have e1 : true = p1 := by rw [← HP.out.1, ← HQ.out]; exact Ha.out.1.symm
      have e2 : true = p2 := by rw [← HP.out.2, ← HQ.out]; exact Ha.out.2.symm
      subst e1 e2
      go_wp2_with (first | (go_at_call 23; refine (HR.out _ H8.out.one.ring).mono ?_; rintro e w' ⟨rfl, hw⟩; have hw' := hw.symm; subst hw'; clear hw))
      refine Calls.mono (alive_any _) ?_
      rintro e w9 ⟨rfl, hb⟩
      have HB9 : Hid (Below w.heap.size w w9) := H8.out.bel.trans (hb.mono H8.out.bel.size)
      clear hb
      go_wp2
      go_ret
      exact ⟨rfl, HB9.out⟩
end Go.Proofs.Ytgdijnmanhglnaa
