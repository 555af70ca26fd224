/- RingPlays: the law's walk. Conditions: none but the numbers' own ranges. -/
import Derived.Test.YtgdijnmanhglnaaRgPlaysK
namespace Go.Proofs.Ytgdijnmanhglnaa
open Go.RowKit
set_option linter.unusedVariables false
set_option maxRecDepth 100000

set_option maxHeartbeats 32000000 in
theorem plays_some (n : Nat) (a : Option Addr) (cap : Nat) (os : List OpV) (w : World) (hz : OpRow w a os) (h0 : 1 ≤ n) (h1 : n ≤ 2000) (h2 : os.length ≤ 200) :
    Calls Try.prog 3 #[.int .i64 n, .slice a os.length cap] w fun e w' => e = .returned (.bool true) ∧ Below w.heap.size w w' := by
  have HZ : Hid (OpRow w a os) := hz
  clear hz
  go_enter Try.func3, Try.ntmps3
  go_wp2_with fail
  refine Calls.mono (new_ok n w h0 h1) ?_
  rintro e w1 ⟨b, g, rfl, hb, hg, hR, hB⟩
  have H1 : Hid (RingIs w1 b g n [] ∧ Below w.heap.size w w1 ∧ w.heap.size ≤ b ∧ w.heap.size ≤ g) := ⟨hR, hB, hb, hg⟩
  clear hb hg hR hB
  go_wp2_with fail
  refine Calls.mono (newtop_ok n w1 h0 h1) ?_
  rintro e w2 ⟨t, b2, g2, rfl, ht, hb, hg, hT, hB⟩
  have H2 : Hid (Plays w (w2.alloc (.cells #[.int .i64 n, .slice none 0 0] 34)) b g t b2 g2 w2.heap.size n [w2.heap.size, b, g, t, b2, g2] [] [] []) := by
    obtain ⟨q1, q2, q3, q4⟩ := H1.out
    have l := q1.lt
    have s := q2.size
    exact plays_made w w2 b g t b2 g2 n (q1.below hB) hT (q2.trans (hB.mono q2.size)) (by omega) (by omega)
  clear ht hb hg hT hB H1
  go_wp2
  obtain ⟨r, hr⟩ : ∃ r, w2.heap.size = r := ⟨_, rfl⟩
  rw [hr] at H2 ⊢
  clear hr
  go_loopw [11] (fun i wr => ∃ (k : Nat) (xs : List Int), k ≤ os.length ∧ i = .int .i64 k ∧ Plays w wr b g t b2 g2 r n [r, b, g, t, b2, g2] xs xs xs) (fun i _ => os.length - (intOf i).toNat)
  case atStart => exact ⟨0, [], Nat.zero_le _, rfl, H2.out⟩
  case round =>
    obtain ⟨k, xs, hk, rfl, hP⟩ := hrel
    have HP : Hid (Plays w wr b g t b2 g2 r n [r, b, g, t, b2, g2] xs xs xs) := hP
    clear hP H2
    by_cases hlt : k < os.length
    · obtain ⟨b', off, rfl, p1, p2, p3, hints⟩ := HZ.out k hlt
      have HI : Hid (IsInts w (os.getD k default).a (os.getD k default).len (os.getD k default).cap (os.getD k default).zs) := hints
      clear hints
      generalize os.getD k default = o at *
      obtain ⟨kind, on, oa, ol, oc, oz⟩ := o
      simp only at p1 p2 p3
      have HC1 : Hid (w.cell? ⟨b', off + k * 3 + 1, none⟩ = some (.int .i64 on)) := p2
      have HC2 : Hid (w.cell? ⟨b', off + k * 3 + 2, none⟩ = some (.slice oa ol oc)) := p3
      have q1 := (Mod.of_below (S := []) HP.out.bel).cell p1 (by simp)
      have q2 := (Mod.of_below (S := []) HP.out.bel).cell p2 (by simp)
      have q3 := (Mod.of_below (S := []) HP.out.bel).cell p3 (by simp)
      have Hbl : Hid (b' < w.heap.size) := World.block_lt_of_cell? w _ p1
      clear p1 p2 p3
      by_cases hbig : (100 : Int) < (ol : Int)
      · have HB : Hid (Below w.heap.size w wr) := HP.out.bel
        go_wp2
        go_ret
        exact ⟨rfl, HB.out⟩
      by_cases hk1 : kind = 1
      · subst hk1
        obtain ⟨i1, i2, i3, i4⟩ := HI.out.row
        simp only at i1 i2
        have hnil : oa = none → oc = 0 := by
          rcases HI.out with ⟨_, _, h, _⟩ | ⟨_, h, _⟩
          · exact fun _ => h
          · intro h2; simp only at h; rw [h2] at h; cases h
        obtain ⟨L, hL⟩ : ∃ L, oz.take ol = L := ⟨_, rfl⟩
        rw [hL] at i1 i2
        have HRow : Hid (IntRow w oa L) := i1
        have HLn : Hid (L.length = ol) := i2
        have HNil : Hid (oa = none → oc = 0) := hnil
        have HX0 : Hid (wr.cell? ⟨b', off + k * 3 + 2, none⟩ = some (.slice oa ol oc)) := q3
        have hxl := HP.out.ring.len
        clear i1 i2 i3 i4 hnil hL HI
        go_wp2_with fail
        refine play_tail wr k os.length cap b' off ol oc oa L _ _ _ _ _ _ _ _ _ _ _ _ _ _ _ _ _ _ _ _ _ _ _ _ _ _ _ _ _ _ _ _ _ _ _ _ _ _ _ _ _ _ _ _ _ _ _ _ _ _ _ _ _ _ _ _ _ _ _ _ _ _ _ _ _ _ _ _ _ _ _ _ _ _ _ _ _ _ _ _ _ _ _ _ _ _ _ _ _ _ _ _ _ _ _ _ _ _ _ _ _ _ _ _ _ _ _ _ _ _ _ _ _ _ _ _ _ _ _ _ _ _ _ _ _ _ _ _ _ _ _ _ _ _ _ _ _ _ _ _ _ _ _ _ _ _ _ _ _ _ _ _ _ _ _ _ _ _ _ _ _ _ _ _ _ _ _ _ _ _ _ _ _ _ _ _ _ _ _ _ _ _ _ _ _ _ _ _ _ _ _ _ _ _ _ _ _ _ _ _ _ _ _ _ _ _ _ _ _ _ _ _ _ _ _ _ _ _ _ _ _ _ _ _ _ _ _ _ _ _ _ _ _ _ _ _ _ _ _ _ _ _ _ _ _ _ _ _ _ _ _ _ _ _ _ _ _ _ _ _ _ _ _ _ _ _ _ _ _ _ _ _ _ _ _ _ _ _ _ _ _ _ _ _ _ _ _ _ _ _ _ _ _ _ _ _ _ _ _ _ _ _ _ _ _ _ _ _ _ _ _ _ _ _ _ _ _ _ _ _ _ _ _ _ _ _ _ _ _ _ _ HX0.out (HRow.out.below HP.out.bel) HNil.out HLn.out hlt (by omega) (by omega) (fun c a dd vv w h => by cases dd <;> exact h) ?_
        intro X g3 cap3 hB hrow hg hc3 hf3 v1 vq
        have hg4 : g3 < X.heap.size := by obtain ⟨_, _, e, hc⟩ := hrow 0 (by simp); cases e; exact World.block_lt_of_cell? X _ hc
        have HX : Hid (Plays w X b g t b2 g2 r n (g3 :: [r, b, g, t, b2, g2]) xs xs xs) := HP.out.more hB g3 hg hg4
        have Hg3 : Hid (g3 ∉ [r, b, g, t, b2, g2]) := by have := HP.out.blocks; show g3 ∉ [r, b, g, t, b2, g2]; simp; omega
        have Hrow : Hid (IntRow X (some ⟨g3, 0, none⟩) (L ++ [-77])) := hrow
        have Hfz : Hid (∀ i, X.frozen? ⟨g3, i, none⟩ = false) := hf3
        have Htk : Hid ((L ++ [-77]).take ol = L) := by show _ = _; rw [← HLn.out]; simp
        clear hB hrow hg hf3 hg4 HP q1 q2 q3 HX0
        go_wp2_with fail
        have t1 := push_any HX.out.ring h1 (some ⟨g3, 0, none⟩) L cap3 (by have := Hrow.out.take ol; rw [Htk.out] at this; exact this) (fun _ => off_new _ _ (by have := Hg3.out; simp at this ⊢; omega)) (by have := HLn.out; omega)
        rw [HLn.out] at t1
        refine Calls.mono t1 ?_
        rintro e x1 ⟨rfl, hR, hM⟩
        have HX1 : Hid (Plays w x1 b g t b2 g2 r n (g3 :: [r, b, g, t, b2, g2]) (pushL n xs L) xs xs) := HX.out.set1 hM hR
        have Hrow1 : Hid (IntRow x1 (some ⟨g3, 0, none⟩) (L ++ [-77])) := Hrow.out.mod hM (off_new _ _ (by have := Hg3.out; simp at this ⊢; omega))
        have Hfz1 : Hid (∀ i, x1.frozen? ⟨g3, i, none⟩ = false) := fun i => (hM.frozen (HX.out.all g3 List.mem_cons_self) (by have := Hg3.out; simp at this ⊢; omega)).trans (Hfz.out i)
        clear hR hM t1 HX Hrow Hfz
        go_wp2_with fail
        have t1 := tpush_any HX1.out.top h1 (some ⟨g3, 0, none⟩) L cap3 (by have := Hrow1.out.take ol; rw [Htk.out] at this; exact this) (fun _ => off_new _ _ (by have := Hg3.out; simp at this ⊢; omega)) (by have := HLn.out; omega)
        rw [HLn.out] at t1
        refine Calls.mono t1 ?_
        rintro e x2 ⟨rfl, hR, hM⟩
        have HX2 : Hid (Plays w x2 b g t b2 g2 r n (g3 :: [r, b, g, t, b2, g2]) (pushL n xs L) (pushL n xs L) xs) := HX1.out.set2 hM hR
        have Hrow2 : Hid (IntRow x2 (some ⟨g3, 0, none⟩) (L ++ [-77])) := Hrow1.out.mod hM (off_new _ _ (by have := Hg3.out; simp at this ⊢; omega))
        have Hfz2 : Hid (∀ i, x2.frozen? ⟨g3, i, none⟩ = false) := fun i => (hM.frozen (HX1.out.all g3 List.mem_cons_self) (by have := Hg3.out; simp at this ⊢; omega)).trans (Hfz1.out i)
        have q4 := (Mod.of_below (S := []) HX2.out.bel).cell HC2.out (by simp)
        clear hR hM t1 HX1 Hrow1 Hfz1
        go_wp2_with fail
        have t1 := qpush_any HX2.out.ref hxl h1 HX2.out.all oa L oc (HRow.out.below HX2.out.bel) (fun h => HRow.out.off h _ (fun i hi => by simp at hi; subst hi; exact HX2.out.new _ (HX2.out.sub _ (by simp)))) (by have := HLn.out; omega)
        rw [HLn.out] at t1
        refine Calls.mono t1 ?_
        rintro e x3 ⟨rfl, hR, hM⟩
        have HX3 : Hid (Plays w x3 b g t b2 g2 r n (g3 :: [r, b, g, t, b2, g2]) (pushL n xs L) (pushL n xs L) (pushL n xs L)) := HX2.out.set3 hM hR
        have Hrow3 : Hid (IntRow x3 (some ⟨g3, 0, none⟩) (L ++ [-77])) := Hrow2.out.mod hM (off_new _ _ (by have := Hg3.out; simp at this ⊢; omega))
        have Hfz3 : Hid (∀ i, x3.frozen? ⟨g3, i, none⟩ = false) := fun i => (hM.frozen (HX2.out.all g3 List.mem_cons_self) (by have := Hg3.out; simp at this ⊢; omega)).trans (Hfz2.out i)
        clear hR hM t1 HX2 Hrow2 Hfz2 q4
        generalize pushL n xs L = ys at *
        go_wp2
        go_loopw [13] (fun v wz => ∃ j : Nat, j ≤ ol ∧ v = .int .i64 j ∧ Plays w wz b g t b2 g2 r n (g3 :: [r, b, g, t, b2, g2]) ys ys ys ∧ (∀ i, j ≤ i → i ≤ ol → wz.cell? ⟨g3, i, none⟩ = some (.int .i64 ((L ++ [-77]).getD i 0))) ∧ ∀ i, wz.frozen? ⟨g3, i, none⟩ = false) (fun v _ => ol - (intOf v).toNat)
        case atStart => exact ⟨0, Nat.zero_le _, rfl, HX3.out, fun i _ hi => by obtain ⟨_, _, e, hc⟩ := Hrow3.out i (by have := HLn.out; simp; omega); cases e; rw [Nat.zero_add] at hc; exact hc, Hfz3.out⟩
        case round =>
          obtain ⟨j, hj, rfl, hPz, hcz, hfz⟩ := hrel
          have HPz : Hid (Plays w wr b g t b2 g2 r n (g3 :: [r, b, g, t, b2, g2]) ys ys ys) := hPz
          have HCz : Hid (∀ i, j ≤ i → i ≤ ol → wr.cell? ⟨g3, i, none⟩ = some (.int .i64 ((L ++ [-77]).getD i 0))) := hcz
          have HFz : Hid (∀ i, wr.frozen? ⟨g3, i, none⟩ = false) := hfz
          have q4 := (Mod.of_below (S := []) hPz.bel).cell HC2.out (by simp)
          clear hPz hcz hfz HX3 Hrow3 Hfz3
          by_cases hjl : j < ol
          · have hm0 := HCz.out j (Nat.le_refl _) (by omega)
            have hgd : (L ++ [-77]).getD j 0 = L.getD j 0 := by rw [List.getD_eq_getElem?_getD, List.getElem?_append_left (by rw [HLn.out]; exact hjl), List.getD_eq_getElem?_getD]
            rw [hgd] at hm0
            obtain ⟨bo, oo, hoo, hlc⟩ := (HRow.out.below HPz.out.bel) j (by rw [HLn.out]; exact hjl)
            rw [hoo] at q4
            generalize L.getD j 0 = x at *
            have hf0 := HFz.out j
            clear hgd
            go_wp2
            go_region
            go_wp2
            go_roundw
            case rel => exact ⟨j + 1, by omega, by go_num, (HPz.out.row Hg3.out ((Mod.refl _ _).setCell _ _ _ (by simp))).stays (Below.refl _ _).drew, fun i h1 h2 => by show (World.setCell _ _ _).cell? _ = _; rw [cell_oo _ _ _ _ _ _ (by omega)]; exact HCz.out i (by omega) h2, fun i => by have := HFz.out i; simp [this]⟩
            case measure => simp [intOf]; omega
          · obtain rfl : ol = j := by omega
            have hm0 := HCz.out ol (Nat.le_refl _) (Nat.le_refl _)
            have hgd : (L ++ [-77]).getD ol 0 = -77 := by rw [List.getD_eq_getElem?_getD, List.getElem?_append_right (by rw [HLn.out]; exact Nat.le_refl _), HLn.out]; simp
            rw [hgd] at hm0
            have hsl := slice_to g3 ol cap3 (ol + 1) (by omega)
            rw [Int.natCast_add] at hsl
            change ∀ W, (Instr.slice 32 (.slice (some ⟨g3, 0, none⟩) ol cap3) none (some (.int .i64 ((ol : Int) + 1))) none).run Try.prog W = .ok (.slice (some ⟨g3, 0, none⟩) (ol + 1) cap3) W at hsl
            have HPZ : Hid (Plays w wr b g t b2 g2 r n [r, b, g, t, b2, g2] ys ys ys) := HPz.out.less (fun i hi => hi)
            clear hgd HPz HCz HFz q4
            go_wp2_with fail
            obtain ⟨vs, hvs⟩ : ∃ vs : List Int, ys = vs := ⟨_, rfl⟩
            have HV : Hid (Plays w wr b g t b2 g2 r n [r, b, g, t, b2, g2] vs vs vs) := by rw [← hvs]; exact HPZ.out
            clear hvs HPZ
            have hvl : vs.length ≤ n := HV.out.ring.len
            refine Calls.mono (tmax_any HV.out.top (by omega)) ?_
            rintro e y1 ⟨rfl, hb⟩
            have P1 : Hid (Plays w y1 b g t b2 g2 r n [r, b, g, t, b2, g2] vs vs vs) := HV.out.stays hb
            clear hb HV
            go_wp2_with fail
            refine Calls.mono (tmin_any P1.out.top (by omega)) ?_
            rintro e y2 ⟨rfl, hb⟩
            have P2 : Hid (Plays w y2 b g t b2 g2 r n [r, b, g, t, b2, g2] vs vs vs) := P1.out.stays hb
            clear hb P1
            go_wp2_with fail
            refine Calls.mono (qmax_any P2.out.ref (by omega)) ?_
            rintro e w' ⟨rfl, hw⟩
            have hw' := hw.symm; subst hw'; clear hw
            go_wp2_with fail
            refine Calls.mono (qmin_any P2.out.ref (by omega)) ?_
            rintro e w' ⟨rfl, hw⟩
            have hw' := hw.symm; subst hw'; clear hw
            obtain ⟨ar, cr, hRf⟩ := P2.out.ref
            have cr1 := hRf.c1
            rw [List.length_reverse] at cr1
            obtain ⟨vq, hvq⟩ : ∃ q, vs.length = q := ⟨_, rfl⟩
            rw [hvq] at cr1
            have HVQ : Hid (vs.length = vq ∧ y2.cell? ⟨r, 1, none⟩ = some (.slice ar vq cr)) := ⟨hvq, cr1⟩
            clear hRf cr1 hvq
            generalize topV true vs = m1 at *
            generalize topV false vs = m2 at *
            generalize topE vs = e1 at *
            go_wp2_with fail
            refine play_end w y2 b g t b2 g2 r n vq cr ar [r, b, g, t, b2, g2] vs m1 m2 e1 _ _ _ _ _ _ _ _ _ _ _ _ _ _ _ _ _ _ _ _ _ _ _ _ _ _ _ _ _ _ _ _ _ _ _ _ _ _ _ _ _ _ _ _ _ _ _ _ _ _ _ _ _ _ _ _ _ _ _ _ _ _ _ _ _ _ _ _ _ _ _ _ _ _ _ _ _ _ _ _ _ _ _ _ _ _ _ _ _ _ _ _ _ _ _ _ _ _ _ _ _ _ _ _ _ _ _ _ _ _ _ _ _ _ _ _ _ _ _ _ _ _ _ _ _ _ _ _ _ _ _ _ _ _ _ _ _ _ _ _ _ _ _ _ _ _ _ _ _ _ _ _ _ _ _ _ _ _ _ _ _ _ _ _ _ _ _ _ _ _ _ _ _ _ _ _ _ _ _ _ _ _ _ _ _ _ _ _ _ _ _ _ _ _ _ _ _ _ _ _ _ _ _ _ _ _ _ _ _ _ _ _ _ _ _ _ _ _ _ _ _ _ _ _ _ _ _ _ _ _ _ _ _ _ _ _ _ _ _ _ _ _ _ _ _ _ _ _ _ _ _ _ _ _ _ _ _ _ _ _ _ _ _ _ _ _ _ _ _ _ _ _ _ _ _ _ _ _ _ _ _ _ _ _ _ _ _ _ _ _ _ _ _ _ _ _ _ _ _ _ _ _ _ _ _ _ _ _ _ _ _ _ _ _ _ _ _ _ _ _ _ (fun c a dd vv w h => by cases dd <;> exact h) P2.out HVQ.out.1 HVQ.out.2 (by omega) ?_
            go_wp2
            go_roundw
            case rel => exact ⟨k + 1, vs, by omega, by go_num, P2.out.stays (Below.refl _ _).drew⟩
            case measure => simp [intOf]; omega
      by_cases h2 : kind = 2
      · have hk1' : ((2 : Int) == 1) = false := by decide
        clear hk1
        subst h2
        go_wp2_with fail
        refine Calls.mono (ago_any HP.out.ring (by omega) on) ?_
        rintro e w' ⟨rfl, hw⟩
        have hw' := hw.symm; subst hw'; clear hw
        have ct := HP.out.top.c0
        have HAT : Hid (∀ j, Calls Try.prog 15 #[.pointer (some ⟨b2, 0, none⟩), .int .i64 on] (wr.drewN j) fun e w' => e = .returned (.tuple #[.int .i64 (agoV xs on), .int .i64 (agoE xs on)]) ∧ w' = wr.drewN j) := fun j => ago_any (HP.out.top.ring.drewN j) (by omega) on
        have HQA : Hid (∀ W, RefR W r n xs.reverse [r, b, g, t, b2, g2] → Calls Try.prog 16 #[.pointer (some ⟨r, 0, none⟩), .int .i64 on] W fun e w' => e = .returned (.tuple #[.int .i64 (agoV xs on), .int .i64 (agoE xs on)]) ∧ Below W.heap.size W w') := fun W hW => qago_any hW (by have := HP.out.ring.len; omega) on
        generalize agoV xs on = v1 at *
        generalize agoE xs on = v2 at *
        go_wp2_with fail
        go_quiet ((go_at_call 15; exact Calls.quiet_of_same (HAT.out _)))
        have HP2 : Hid (Plays w (wr.drewN nq) b g t b2 g2 r n [r, b, g, t, b2, g2] xs xs xs) := HP.out.stays (below_drewN (Below.refl _ _) _)
        have c2 := (Mod.of_below (S := []) HP2.out.bel).cell HC1.out (by simp)
        go_wp2_with fail
        refine Calls.mono (HQA.out _ HP2.out.ref) ?_
        rintro e x3 ⟨rfl, hb⟩
        have HP3 : Hid (Plays w x3 b g t b2 g2 r n [r, b, g, t, b2, g2] xs xs xs) := HP2.out.stays hb
        clear hb HP2 c2 HQA HAT
        go_wp2_with fail
        obtain ⟨vs, hvs⟩ : ∃ vs : List Int, xs = vs := ⟨_, rfl⟩
        have HV : Hid (Plays w x3 b g t b2 g2 r n [r, b, g, t, b2, g2] vs vs vs) := by rw [← hvs]; exact HP3.out
        clear hvs HP3
        have hvl : vs.length ≤ n := HV.out.ring.len
        refine Calls.mono (tmax_any HV.out.top (by omega)) ?_
        rintro e y1 ⟨rfl, hb⟩
        have P1 : Hid (Plays w y1 b g t b2 g2 r n [r, b, g, t, b2, g2] vs vs vs) := HV.out.stays hb
        clear hb HV
        go_wp2_with fail
        refine Calls.mono (tmin_any P1.out.top (by omega)) ?_
        rintro e y2 ⟨rfl, hb⟩
        have P2 : Hid (Plays w y2 b g t b2 g2 r n [r, b, g, t, b2, g2] vs vs vs) := P1.out.stays hb
        clear hb P1
        go_wp2_with fail
        refine Calls.mono (qmax_any P2.out.ref (by omega)) ?_
        rintro e w' ⟨rfl, hw⟩
        have hw' := hw.symm; subst hw'; clear hw
        go_wp2_with fail
        refine Calls.mono (qmin_any P2.out.ref (by omega)) ?_
        rintro e w' ⟨rfl, hw⟩
        have hw' := hw.symm; subst hw'; clear hw
        obtain ⟨ar, cr, hRf⟩ := P2.out.ref
        have cr1 := hRf.c1
        rw [List.length_reverse] at cr1
        obtain ⟨vq, hvq⟩ : ∃ q, vs.length = q := ⟨_, rfl⟩
        rw [hvq] at cr1
        have HVQ : Hid (vs.length = vq ∧ y2.cell? ⟨r, 1, none⟩ = some (.slice ar vq cr)) := ⟨hvq, cr1⟩
        clear hRf cr1 hvq
        generalize topV true vs = m1 at *
        generalize topV false vs = m2 at *
        generalize topE vs = e1 at *
        go_wp2_with fail
        refine play_end w y2 b g t b2 g2 r n vq cr ar [r, b, g, t, b2, g2] vs m1 m2 e1 _ _ _ _ _ _ _ _ _ _ _ _ _ _ _ _ _ _ _ _ _ _ _ _ _ _ _ _ _ _ _ _ _ _ _ _ _ _ _ _ _ _ _ _ _ _ _ _ _ _ _ _ _ _ _ _ _ _ _ _ _ _ _ _ _ _ _ _ _ _ _ _ _ _ _ _ _ _ _ _ _ _ _ _ _ _ _ _ _ _ _ _ _ _ _ _ _ _ _ _ _ _ _ _ _ _ _ _ _ _ _ _ _ _ _ _ _ _ _ _ _ _ _ _ _ _ _ _ _ _ _ _ _ _ _ _ _ _ _ _ _ _ _ _ _ _ _ _ _ _ _ _ _ _ _ _ _ _ _ _ _ _ _ _ _ _ _ _ _ _ _ _ _ _ _ _ _ _ _ _ _ _ _ _ _ _ _ _ _ _ _ _ _ _ _ _ _ _ _ _ _ _ _ _ _ _ _ _ _ _ _ _ _ _ _ _ _ _ _ _ _ _ _ _ _ _ _ _ _ _ _ _ _ _ _ _ _ _ _ _ _ _ _ _ _ _ _ _ _ _ _ _ _ _ _ _ _ _ _ _ _ _ _ _ _ _ _ _ _ _ _ _ _ _ _ _ _ _ _ _ _ _ _ _ _ _ _ _ _ _ _ _ _ _ _ _ _ _ _ _ _ _ _ _ _ _ _ _ _ _ _ _ _ _ _ _ _ _ _ _ _ (fun c a dd vv w h => by cases dd <;> exact h) P2.out HVQ.out.1 HVQ.out.2 (by omega) ?_
        go_wp2
        go_roundw
        case rel => exact ⟨k + 1, vs, by omega, by go_num, P2.out.stays (Below.refl _ _).drew⟩
        case measure => simp [intOf]; omega
      by_cases h3 : kind = 3
      · clear hk1 h2
        subst h3
        go_wp2_with fail
        refine Calls.mono (clear_any HP.out.ring) ?_
        rintro e x1 ⟨rfl, hR, hM⟩
        have HP1 : Hid (Plays w x1 b g t b2 g2 r n [r, b, g, t, b2, g2] [] xs xs) := HP.out.set1 hM hR
        clear hR hM
        go_wp2_with fail
        refine Calls.mono (tclear_any HP1.out.top) ?_
        rintro e x2 ⟨rfl, hR, hM⟩
        have HP2 : Hid (Plays w x2 b g t b2 g2 r n [r, b, g, t, b2, g2] [] [] xs) := HP1.out.set2 hM hR
        clear hR hM HP1
        obtain ⟨ar, cr, hRf⟩ := HP2.out.ref
        have cr1 := hRf.c1
        have fr1 := hRf.f 1
        have hN := hRf.put (Below.refl _ _) (L' := []) (a' := none) (cap' := 0) (fun i hi => by simp at hi) (fun _ => rfl) (fun h => by simp at h) (by simp)
        have HP3 : Hid (Plays w (x2.setCell ⟨r, 1, none⟩ (.slice none 0 0)) b g t b2 g2 r n [r, b, g, t, b2, g2] [] [] []) := HP2.out.set3 ((Mod.refl _ _).setCell _ _ _ (by simp)) ⟨_, _, hN⟩
        clear hN hRf HP2
        go_wp2_with fail
        obtain ⟨vs, hvs⟩ : ∃ vs : List Int, ([] : List Int) = vs := ⟨_, rfl⟩
        have HV : Hid (Plays w (x2.setCell ⟨r, 1, none⟩ (.slice none 0 0)) b g t b2 g2 r n [r, b, g, t, b2, g2] vs vs vs) := by rw [← hvs]; exact HP3.out
        clear hvs HP3
        have hvl : vs.length ≤ n := HV.out.ring.len
        refine Calls.mono (tmax_any HV.out.top (by omega)) ?_
        rintro e y1 ⟨rfl, hb⟩
        have P1 : Hid (Plays w y1 b g t b2 g2 r n [r, b, g, t, b2, g2] vs vs vs) := HV.out.stays hb
        clear hb HV
        go_wp2_with fail
        refine Calls.mono (tmin_any P1.out.top (by omega)) ?_
        rintro e y2 ⟨rfl, hb⟩
        have P2 : Hid (Plays w y2 b g t b2 g2 r n [r, b, g, t, b2, g2] vs vs vs) := P1.out.stays hb
        clear hb P1
        go_wp2_with fail
        refine Calls.mono (qmax_any P2.out.ref (by omega)) ?_
        rintro e w' ⟨rfl, hw⟩
        have hw' := hw.symm; subst hw'; clear hw
        go_wp2_with fail
        refine Calls.mono (qmin_any P2.out.ref (by omega)) ?_
        rintro e w' ⟨rfl, hw⟩
        have hw' := hw.symm; subst hw'; clear hw
        obtain ⟨ar, cr, hRf⟩ := P2.out.ref
        have cr1 := hRf.c1
        rw [List.length_reverse] at cr1
        obtain ⟨vq, hvq⟩ : ∃ q, vs.length = q := ⟨_, rfl⟩
        rw [hvq] at cr1
        have HVQ : Hid (vs.length = vq ∧ y2.cell? ⟨r, 1, none⟩ = some (.slice ar vq cr)) := ⟨hvq, cr1⟩
        clear hRf cr1 hvq
        generalize topV true vs = m1 at *
        generalize topV false vs = m2 at *
        generalize topE vs = e1 at *
        go_wp2_with fail
        refine play_end w y2 b g t b2 g2 r n vq cr ar [r, b, g, t, b2, g2] vs m1 m2 e1 _ _ _ _ _ _ _ _ _ _ _ _ _ _ _ _ _ _ _ _ _ _ _ _ _ _ _ _ _ _ _ _ _ _ _ _ _ _ _ _ _ _ _ _ _ _ _ _ _ _ _ _ _ _ _ _ _ _ _ _ _ _ _ _ _ _ _ _ _ _ _ _ _ _ _ _ _ _ _ _ _ _ _ _ _ _ _ _ _ _ _ _ _ _ _ _ _ _ _ _ _ _ _ _ _ _ _ _ _ _ _ _ _ _ _ _ _ _ _ _ _ _ _ _ _ _ _ _ _ _ _ _ _ _ _ _ _ _ _ _ _ _ _ _ _ _ _ _ _ _ _ _ _ _ _ _ _ _ _ _ _ _ _ _ _ _ _ _ _ _ _ _ _ _ _ _ _ _ _ _ _ _ _ _ _ _ _ _ _ _ _ _ _ _ _ _ _ _ _ _ _ _ _ _ _ _ _ _ _ _ _ _ _ _ _ _ _ _ _ _ _ _ _ _ _ _ _ _ _ _ _ _ _ _ _ _ _ _ _ _ _ _ _ _ _ _ _ _ _ _ _ _ _ _ _ _ _ _ _ _ _ _ _ _ _ _ _ _ _ _ _ _ _ _ _ _ _ _ _ _ _ _ _ _ _ _ _ _ _ _ _ _ _ _ _ _ _ _ _ _ _ _ _ _ _ _ _ _ _ _ _ _ _ _ _ _ _ _ _ _ _ (fun c a dd vv w h => by cases dd <;> exact h) P2.out HVQ.out.1 HVQ.out.2 (by omega) ?_
        go_wp2
        go_roundw
        case rel => exact ⟨k + 1, vs, by omega, by go_num, P2.out.stays (Below.refl _ _).drew⟩
        case measure => simp [intOf]; omega
      · have e1 : (kind == 1) = false := by rw [beq_eq_false_iff_ne]; exact hk1
        have e2 : (kind == 2) = false := by rw [beq_eq_false_iff_ne]; exact h2
        have e3 : (kind == 3) = false := by rw [beq_eq_false_iff_ne]; exact h3
        clear hk1 h2 h3
        go_wp2_with fail
        obtain ⟨vs, hvs⟩ : ∃ vs : List Int, xs = vs := ⟨_, rfl⟩
        have HV : Hid (Plays w wr b g t b2 g2 r n [r, b, g, t, b2, g2] vs vs vs) := by rw [← hvs]; exact HP.out
        clear hvs HP
        have hvl : vs.length ≤ n := HV.out.ring.len
        refine Calls.mono (tmax_any HV.out.top (by omega)) ?_
        rintro e y1 ⟨rfl, hb⟩
        have P1 : Hid (Plays w y1 b g t b2 g2 r n [r, b, g, t, b2, g2] vs vs vs) := HV.out.stays hb
        clear hb HV
        go_wp2_with fail
        refine Calls.mono (tmin_any P1.out.top (by omega)) ?_
        rintro e y2 ⟨rfl, hb⟩
        have P2 : Hid (Plays w y2 b g t b2 g2 r n [r, b, g, t, b2, g2] vs vs vs) := P1.out.stays hb
        clear hb P1
        go_wp2_with fail
        refine Calls.mono (qmax_any P2.out.ref (by omega)) ?_
        rintro e w' ⟨rfl, hw⟩
        have hw' := hw.symm; subst hw'; clear hw
        go_wp2_with fail
        refine Calls.mono (qmin_any P2.out.ref (by omega)) ?_
        rintro e w' ⟨rfl, hw⟩
        have hw' := hw.symm; subst hw'; clear hw
        obtain ⟨ar, cr, hRf⟩ := P2.out.ref
        have cr1 := hRf.c1
        rw [List.length_reverse] at cr1
        obtain ⟨vq, hvq⟩ : ∃ q, vs.length = q := ⟨_, rfl⟩
        rw [hvq] at cr1
        have HVQ : Hid (vs.length = vq ∧ y2.cell? ⟨r, 1, none⟩ = some (.slice ar vq cr)) := ⟨hvq, cr1⟩
        clear hRf cr1 hvq
        generalize topV true vs = m1 at *
        generalize topV false vs = m2 at *
        generalize topE vs = e1 at *
        go_wp2_with fail
        refine play_end w y2 b g t b2 g2 r n vq cr ar [r, b, g, t, b2, g2] vs m1 m2 e1 _ _ _ _ _ _ _ _ _ _ _ _ _ _ _ _ _ _ _ _ _ _ _ _ _ _ _ _ _ _ _ _ _ _ _ _ _ _ _ _ _ _ _ _ _ _ _ _ _ _ _ _ _ _ _ _ _ _ _ _ _ _ _ _ _ _ _ _ _ _ _ _ _ _ _ _ _ _ _ _ _ _ _ _ _ _ _ _ _ _ _ _ _ _ _ _ _ _ _ _ _ _ _ _ _ _ _ _ _ _ _ _ _ _ _ _ _ _ _ _ _ _ _ _ _ _ _ _ _ _ _ _ _ _ _ _ _ _ _ _ _ _ _ _ _ _ _ _ _ _ _ _ _ _ _ _ _ _ _ _ _ _ _ _ _ _ _ _ _ _ _ _ _ _ _ _ _ _ _ _ _ _ _ _ _ _ _ _ _ _ _ _ _ _ _ _ _ _ _ _ _ _ _ _ _ _ _ _ _ _ _ _ _ _ _ _ _ _ _ _ _ _ _ _ _ _ _ _ _ _ _ _ _ _ _ _ _ _ _ _ _ _ _ _ _ _ _ _ _ _ _ _ _ _ _ _ _ _ _ _ _ _ _ _ _ _ _ _ _ _ _ _ _ _ _ _ _ _ _ _ _ _ _ _ _ _ _ _ _ _ _ _ _ _ _ _ _ _ _ _ _ _ _ _ _ _ _ _ _ _ _ _ _ _ _ _ _ _ _ _ _ (fun c a dd vv w h => by cases dd <;> exact h) P2.out HVQ.out.1 HVQ.out.2 (by omega) ?_
        go_wp2
        go_roundw
        case rel => exact ⟨k + 1, vs, by omega, by go_num, P2.out.stays (Below.refl _ _).drew⟩
        case measure => simp [intOf]; omega
    · have HB : Hid (Below w.heap.size w wr) := HP.out.bel
      go_wp2_with (go_at_call 9; refine (alive_any _).mono ?_; rintro e w' ⟨rfl, hb⟩)
      go_ret
      exact ⟨rfl, HB.out.trans (hb.mono HB.out.size)⟩
theorem plays_any (n : Int) (a : Option Addr) (len cap : Nat) (os : List OpV) (w : World) (hm : -9223372036854775808 ≤ n ∧ n ≤ 9223372036854775807) (hl : os.length = len) (h : OpRow w a os) :
    Calls Try.prog 3 #[.int .i64 n, .slice a len cap] w fun e w' => e = .returned (.bool true) ∧ Below w.heap.size w w' := by
  by_cases hc : n < 1 ∨ 2000 < n ∨ 200 < len
  · exact plays_none n a len cap w hc
  · subst hl
    have := plays_some n.toNat a cap os w h (by omega) (by omega) (by omega)
    rw [show ((n.toNat : Nat) : Int) = n by omega] at this; exact this
end Go.Proofs.Ytgdijnmanhglnaa
