/- KindsRange's walk where New is well. Conditions: what came in. -/
import Derived.Test.YtjnnjjajlafchaaKrW
namespace Go.Proofs.Ytjnnjjajlafchaa
open Go.RowKit
set_option linter.unusedVariables false
set_option maxRecDepth 100000

def NewGood (W0 : World) (l : List Sig) (e : Ending) (W' : World) : Prop := ∃ q p, e = .returned (.tuple #[.pointer (some ⟨q, 0, none⟩), .int .i64 0, .string ⟨#[]⟩]) ∧ ShAt W' q p l ∧ Below W0.heap.size W0 W'
theorem ntail {b : Bool} (h : b = true) : Ending.returned (.bool b) = .returned (.bool true) := by rw [h]
set_option maxHeartbeats 16000000 in
theorem kr_good (nm : ByteArray) (c s : Int) (a : Option Addr) (cap : Nat) (l : List Sig) (pa : Option Addr) (pn pc : Nat) (na : Option Addr) (nc : Nat) (n : List Nd) (ra : Option Addr) (rc : Nat) (at' : List Int) (W : World)
    (HN : Hid (Calls Try.prog 11 #[.agg #[.string nm, .int .i64 c, .int .i64 s, .slice a l.length cap, .slice pa pn pc]] (W.alloc (.cells #[.string nm, .int .i64 c, .int .i64 s, .slice a l.length cap, .slice pa pn pc] 42)) (NewGood (W.alloc (.cells #[.string nm, .int .i64 c, .int .i64 s, .slice a l.length cap, .slice pa pn pc] 42)) l)))
    (HL : Hid (∀ X, Below W.heap.size W X → Calls Try.prog 20 #[.agg #[.string nm, .int .i64 c, .int .i64 s, .slice a l.length cap, .slice pa pn pc]] X fun e W' => SomeBool e ∧ Below X.heap.size X W'))
    (hsr : SigRow W a l) (hfit : SigsFit l) (hl : l.length ≤ 16) (hn : NodeRow W na n) (hcap : n.length ≤ nc) (hk : NodesKnown n) (hm : n.length ≤ 9223372036854775807) (hra : IntRow W ra at') :
    Calls Try.prog 5 #[.agg #[.string nm, .int .i64 c, .int .i64 s, .slice a l.length cap, .slice pa pn pc], .slice na n.length nc, .slice ra at'.length rc] W fun e W' => e = .returned (.bool true) ∧ Below W.heap.size W W' := by
  have HAL : Hid (∀ X, Calls Try.prog 7 #[] X fun e W' => e = .returned (.bool true) ∧ Below X.heap.size X W') := fun X => alive_any X
  have HB0 : Hid (Below W.heap.size W (W.alloc (.cells #[.string nm, .int .i64 c, .int .i64 s, .slice a l.length cap, .slice pa pn pc] 42))) := (Below.refl _ _).alloc (Nat.le_refl _) _
  have HLi : Hid (∀ X, Below W.heap.size W X → Calls Try.prog 16 #[.slice na n.length nc] X fun e W' => e = .returned (.bool (lightB n)) ∧ W' = X) := fun X hX => light_any na nc n X (hn.below hX) hm
  have HRg : Hid (∀ q p X, ShAt X q p l → Below W.heap.size W X → Calls Try.prog 17 #[.pointer (some ⟨q, 0, none⟩), .slice na n.length nc] X fun e W' => e = .returned (.tuple #[.agg #[.int .i64 (rangeR l n).1, .int .i64 (rangeR l n).2.1], .int .i64 (rangeR l n).2.2]) ∧ Below X.heap.size X W') :=
    fun q p X hsh hX => range_any q p l na nc n X hsh (by omega) (hn.below hX) hcap hk.1 hm hfit (fun x hx => (hk.2 x hx).1)
  have HSr : Hid (∀ X, Below W.heap.size W X → SigRow X a l) := fun X hX => hsr.below hX
  have HNr : Hid (∀ X, Below W.heap.size W X → NodeRow X na n) := fun X hX => hn.below hX
  have HIr : Hid (∀ X, Below W.heap.size W X → IntRow X ra at') := fun X hX => intRow_below hra hX
  have HFit : Hid (SigsFit l) := hfit
  have HKn : Hid (NodesKnown n) := hk
  have HSp : Hid (∀ X, Below (W.alloc (.cells #[.string nm, .int .i64 c, .int .i64 s, .slice a l.length cap, .slice pa pn pc] 42)).heap.size (W.alloc (.cells #[.string nm, .int .i64 c, .int .i64 s, .slice a l.length cap, .slice pa pn pc] 42)) X → X.cell? ⟨W.heap.size, 0, none⟩ = some (.string nm) ∧ X.cell? ⟨W.heap.size, 1, none⟩ = some (.int .i64 c) ∧ X.cell? ⟨W.heap.size, 2, none⟩ = some (.int .i64 s) ∧ X.cell? ⟨W.heap.size, 3, none⟩ = some (.slice a l.length cap) ∧ X.cell? ⟨W.heap.size, 4, none⟩ = some (.slice pa pn pc)) := by
    intro X hb1
    refine ⟨?_, ?_, ?_, ?_, ?_⟩
    · rw [hb1.cell (p := ⟨W.heap.size, 0, none⟩) (by simp)]; simp [go_sem]
    · rw [hb1.cell (p := ⟨W.heap.size, 1, none⟩) (by simp)]; simp [go_sem]
    · rw [hb1.cell (p := ⟨W.heap.size, 2, none⟩) (by simp)]; simp [go_sem]
    · rw [hb1.cell (p := ⟨W.heap.size, 3, none⟩) (by simp)]; simp [go_sem]
    · rw [hb1.cell (p := ⟨W.heap.size, 4, none⟩) (by simp)]; simp [go_sem]
  have HOK : Hid ((rangeR l n).2.2 = 0 → B64 (rangeR l n).1 ∧ B64 (rangeR l n).2.1 ∧ (n.getD 0 nd0).terms.length ≤ 16 ∧ 0 < (n.getD 0 nd0).terms.length) := fun h => by
    obtain ⟨_, _, q2, _, q4, q5, q6, q7, q8⟩ := range_ok h
    rw [q4, q5]; exact ⟨q6, q7, q2, q8⟩
  have HSum : Hid ((rangeR l n).2.2 = 0 → (rangeR l n).1 * 4294967296 ≤ sumA (fun s => lookN s (l.map (·.name)) (valsL l at')) (n.getD 0 nd0).terms ∧ sumA (fun s => lookN s (l.map (·.name)) (valsL l at')) (n.getD 0 nd0).terms ≤ (rangeR l n).2.1 * 4294967296) := fun h => sum_in at' hfit h
  have HVB : Hid (∀ s, B64 (lookN s (l.map (·.name)) (valsL l at'))) := fun s => lookN_b64 s _ _ (valsL_b64 at' hfit)
  clear hsr hfit hn hk hra
  go_enter Try.func5, Try.ntmps5
  go_wp2_with fail
  refine Calls.mono HN.out ?_
  rintro e W1 ⟨q, p, rfl, hsh, hb1⟩
  have HSH : Hid (∀ X, Below W1.heap.size W1 X → ShAt X q p l) := fun X hX => hsh.below hX
  have HB1 : Hid (Below W.heap.size W W1) := HB0.out.trans (hb1.mono HB0.out.size)
  have HS1 : Hid (Below (W.alloc (.cells #[.string nm, .int .i64 c, .int .i64 s, .slice a l.length cap, .slice pa pn pc] 42)).heap.size (W.alloc (.cells #[.string nm, .int .i64 c, .int .i64 s, .slice a l.length cap, .slice pa pn pc] 42)) W1) := hb1
  obtain ⟨e0, e1, e2, e3, e4⟩ := HSp.out _ hb1
  clear hb1 hsh
  go_wp2_with fail
  refine Calls.mono (HL.out _ HB1.out) ?_
  rintro e W2 ⟨⟨b, rfl⟩, hb2⟩
  have HB2 : Hid (Below W.heap.size W W2) := HB1.out.trans (hb2.mono HB1.out.size)
  have HS2 : Hid (Below W1.heap.size W1 W2) := hb2
  clear hb2 e0 e1 e2 e3 e4
  cases b with
  | false =>
    go_wp2_with fail
    refine Calls.mono (HAL.out _) ?_
    rintro e W9 ⟨rfl, hb9⟩
    go_wp2
    exact bodyPost_ret (v := .bool true) (by simp [results, Try.results5, go_sem]) rfl ⟨rfl, HB2.out.trans (hb9.mono HB2.out.size)⟩
  | true =>
    cases hli : lightB n with
    | false =>
      rw [hli] at HLi
      clear hli
      go_wp2_with fail
      refine Calls.mono (HLi.out _ HB2.out) ?_
      rintro e W3 ⟨rfl, hw⟩
      subst W3
      go_wp2_with fail
      refine Calls.mono (HAL.out _) ?_
      rintro e W9 ⟨rfl, hb9⟩
      go_wp2
      exact bodyPost_ret (v := .bool true) (by simp [results, Try.results5, go_sem]) rfl ⟨rfl, HB2.out.trans (hb9.mono HB2.out.size)⟩
    | true =>
      rw [hli] at HLi
      clear hli
      by_cases hn1 : n.length = 1
      · have hne : n.length = 1 := hn1
        by_cases hz : (rangeR l n).2.2 = 0
        · obtain ⟨x0, rfl⟩ : ∃ x0, n = [x0] := List.length_eq_one_iff.1 hn1
          have HOK2 := hid_of (HOK.out hz)
          have HSum2 := hid_of (HSum.out hz)
          have HKn2 := hid_of (HKn.out.2 x0 (by simp))
          have HNf := hid_of (HKn.out.1)
          rw [hz] at HRg
          clear hz HOK HSum HKn hn1 hne hcap hm
          simp only [List.getD_cons_zero, List.length_cons, List.length_nil, Nat.zero_add] at HOK2 HSum2 HRg HLi HNr
          generalize (rangeR l [x0]).1 = lo at *
          generalize (rangeR l [x0]).2.1 = hi at *
          simp only [List.length_cons, List.length_nil, Nat.zero_add]
          go_wp2_with fail
          refine Calls.mono (HLi.out _ HB2.out) ?_
          rintro e W3 ⟨rfl, hw⟩
          subst W3
          go_wp2_with fail
          refine Calls.mono (HRg.out q p _ (HSH.out _ HS2.out) HB2.out) ?_
          rintro e W4 ⟨rfl, hb4⟩
          have HB4 : Hid (Below W.heap.size W W4) := HB2.out.trans (hb4.mono HB2.out.size)
          have HS4 : Hid (Below W1.heap.size W1 W4) := HS2.out.trans (hb4.mono HS2.out.size)
          clear hb4
          go_wp2_with fail
          obtain ⟨W5, hW5⟩ : ∃ Z, W4.alloc (.cells #[.int .i64 lo, .int .i64 hi] 25) = Z := ⟨_, rfl⟩
          have hb45 : Below W4.heap.size W4 W5 := by rw [← hW5]; exact (Below.refl _ _).alloc (Nat.le_refl _) _
          have HB5 : Hid (Below W.heap.size W W5) := HB4.out.trans (hb45.mono HB4.out.size)
          have HX5 : Hid (∀ X, Below W5.heap.size W5 X → Below W.heap.size W X ∧ X.cell? ⟨W.heap.size, 3, none⟩ = some (.slice a l.length cap)) := by
            intro X hX
            have k1 := HS1.out.trans (HS4.out.mono HS1.out.size)
            have k2 := k1.trans (hb45.mono k1.size)
            exact ⟨HB5.out.trans (hX.mono HB5.out.size), (HSp.out _ (k2.trans (hX.mono k2.size))).2.2.2.1⟩
          have HR5 : Hid (∀ X, Below W5.heap.size W5 X → X.cell? ⟨W4.heap.size, 0, none⟩ = some (.int .i64 lo) ∧ X.cell? ⟨W4.heap.size, 1, none⟩ = some (.int .i64 hi)) := by
            intro X hX
            have g0 : W5.cell? ⟨W4.heap.size, 0, none⟩ = some (.int .i64 lo) := by rw [← hW5]; simp [go_sem]
            have g1 : W5.cell? ⟨W4.heap.size, 1, none⟩ = some (.int .i64 hi) := by rw [← hW5]; simp [go_sem]
            exact ⟨cell_up hX g0, cell_up hX g1⟩
          rw [hW5]
          clear hW5 hb45 HSp HN HL
          have HRow0 := hid_of (Rows.start W5)
          go_loopw [12, 13, 14, 15] (fun nv rv iv vv wr => ∃ (k : Nat) (nv' rv' : Value), k ≤ l.length ∧ iv = .int .i64 k ∧ nv' = nv ∧ rv' = rv ∧ Rows W5 ((l.map (·.name)).take k) ((valsL l at').take k) nv' rv' wr) (fun _ _ iv _ _ => l.length - (intOf iv).toNat)
          case atStart => exact ⟨0, _, _, Nat.zero_le _, rfl, rfl, rfl, HRow0.out⟩
          case round =>
            obtain ⟨k, nv, rv, hkl, rfl, rfl, rfl, hrows⟩ := hrel
            have HRows := hid_of hrows
            obtain ⟨hbw, c3⟩ := HX5.out _ hrows.below
            clear hrows
            by_cases hlt : k < l.length
            · obtain ⟨b, off, rfl, h0, _, h2, h3⟩ := HSr.out _ hbw k hlt
              have HRd : Hid (∀ X, Below W.heap.size W X → X.cell? ⟨b, off + k * 4 + 2, none⟩ = some (.int .i64 (l.getD k sig0).lo) ∧ X.cell? ⟨b, off + k * 4 + 3, none⟩ = some (.int .i64 (l.getD k sig0).hi)) := by
                intro X hX
                obtain ⟨b', off', e, _, _, g2, g3⟩ := HSr.out _ hX k hlt
                cases e
                exact ⟨g2, g3⟩
              have hle := (HFit.out _ (by rw [List.getD_eq_getElem?_getD, List.getElem?_eq_getElem hlt]; exact List.getElem_mem hlt : l.getD k sig0 ∈ l)).1
              have HT1 := hid_of (names_take l k hlt)
              have HT2 := hid_of (valsL_take l at' k hlt)
              have HVal : Hid (valI l at' k = if k < at'.length then min (max (at'.getD k 0) (l.getD k sig0).lo) (l.getD k sig0).hi else (l.getD k sig0).lo) := rfl
              generalize (l.getD k sig0).name = xn at *
              generalize (l.getD k sig0).lo = xl at *
              generalize (l.getD k sig0).hi = xh at *
              obtain ⟨v1, Y1, hr1, hq1⟩ := HRows.out.name xn (by rw [List.length_take, List.length_map]; omega)
              have HR1 := hid_of hr1
              have HQ1 := hid_of hq1
              obtain ⟨hby1, cy3⟩ := HX5.out _ hq1.below
              obtain ⟨y2, y3⟩ := HRd.out _ hby1
              clear hr1 hq1 h2 h3 hbw
              by_cases hat : k < at'.length
              · obtain ⟨ba, oa, rfl, ha⟩ := HIr.out _ hby1 k hat
                rw [if_pos hat] at HVal
                generalize at'.getD k 0 = av at *
                clear hby1
                rw [HVal.out] at HT2
                clear HVal
                obtain ⟨v2, Y2, hr2, hq2⟩ := (HQ1.out.stays (Below.refl _ _).drew).num (min (max av xl) xh) (by rw [List.length_take, valsL_len]; omega)
                have HR2 := hid_of hr2
                have HQ2 := hid_of hq2
                clear hr2 hq2
                go_wp2_with (first | (at_builtin; refine append_runO (by rfl) _ _ (by rfl) (by rfl) _ _ _ _ (by rfl) (by rfl) HR1.out ?_) | (at_builtin; refine append_runO (by rfl) _ _ (by rfl) (by rfl) _ _ _ _ (by rfl) (by rfl) HR2.out ?_))
                go_region_held3 (fun w' => w'.cell? ⟨ba, oa + k, none⟩ = some (.int .i64 av) ∧ w'.cell? ⟨W.heap.size, 3, none⟩ = some (.slice (some ⟨b, off, none⟩) l.length cap) ∧ w'.cell? ⟨b, off + k * 4 + 2, none⟩ = some (.int .i64 xl) ∧ w'.cell? ⟨b, off + k * 4 + 3, none⟩ = some (.int .i64 xh)) (first | exact ⟨ha, cy3, y2, y3⟩ | go_keep) (first | (at_builtin; refine append_runO (by rfl) _ _ (by rfl) (by rfl) _ _ _ _ (by rfl) (by rfl) HR1.out ?_) | (at_builtin; refine append_runO (by rfl) _ _ (by rfl) (by rfl) _ _ _ _ (by rfl) (by rfl) HR2.out ?_))
                go_wp2_with (first | (at_builtin; refine append_runO (by rfl) _ _ (by rfl) (by rfl) _ _ _ _ (by rfl) (by rfl) HR1.out ?_) | (at_builtin; refine append_runO (by rfl) _ _ (by rfl) (by rfl) _ _ _ _ (by rfl) (by rfl) HR2.out ?_))
                go_roundw
                case rel => exact ⟨k + 1, _, _, by omega, by go_num, rfl, rfl, by rw [HT1.out, HT2.out]; exact HQ2.out⟩
                case measure => simp [intOf]; omega
              · rw [if_neg hat] at HVal
                clear hby1 hle
                rw [HVal.out] at HT2
                clear HVal
                obtain ⟨v2, Y2, hr2, hq2⟩ := HQ1.out.num xl (by rw [List.length_take, valsL_len]; omega)
                have HR2 := hid_of hr2
                have HQ2 := hid_of hq2
                clear hr2 hq2
                go_wp2_with (first | (at_builtin; refine append_runO (by rfl) _ _ (by rfl) (by rfl) _ _ _ _ (by rfl) (by rfl) HR1.out ?_) | (at_builtin; refine append_runO (by rfl) _ _ (by rfl) (by rfl) _ _ _ _ (by rfl) (by rfl) HR2.out ?_))
                go_roundw
                case rel => exact ⟨k + 1, _, _, by omega, by go_num, rfl, rfl, by rw [HT1.out, HT2.out]; exact HQ2.out⟩
                case measure => simp [intOf]; omega
            · have hkk : k = l.length := by omega
              have hq := HRows.out
              rw [hkk, List.take_of_length_le (by simp), List.take_of_length_le (by rw [valsL_len]; exact Nat.le_refl _)] at hq
              obtain ⟨na2, nc2, ra2, rc2, hnv, hrv, hstr, hint⟩ := hq.read
              rw [List.length_map] at hnv
              rw [valsL_len] at hrv
              subst hnv hrv
              have HStr : Hid (∀ X, Below wr.heap.size wr X → StrRow X na2 (l.map (·.name)) ∧ IntRow X ra2 (valsL l at')) := fun X hX => ⟨hstr.below hX, intRow_below hint hX⟩
              have HBw := hid_of hq.below
              have HWr := hid_of hbw
              clear hq hstr hint hkk
              obtain ⟨op, nn, fr, to, ts, num⟩ := x0
              simp only at HOK2 HSum2
              obtain ⟨bn, on, rfl, g0, g1, g2, g3, ⟨ta, tc, g4, gt⟩, g5⟩ := HNr.out _ hbw 0 (by simp)
              simp only [List.getD_cons_zero, Nat.zero_mul, Nat.add_zero] at g0 g1 g2 g3 g4 g5 gt
              have HTr : Hid (∀ X, Below wr.heap.size wr X → TermRow X ta ts) := fun X hX => gt.below hX
              have f0 := g0
              clear gt
              go_wp2
              go_region_held3 (fun w' => w'.cell? ⟨bn, on, none⟩ = some (.int .i64 op) ∧ w'.cell? ⟨bn, on + 1, none⟩ = some (.int .i64 nn) ∧ w'.cell? ⟨bn, on + 2, none⟩ = some (.int .i64 fr) ∧ w'.cell? ⟨bn, on + 3, none⟩ = some (.int .i64 to) ∧ w'.cell? ⟨bn, on + 4, none⟩ = some (.slice ta ts.length tc) ∧ w'.cell? ⟨bn, on + 5, none⟩ = some (.int .i64 num)) (first | exact ⟨g0, g1, g2, g3, g4, g5⟩ | go_keep) (fail)
              · obtain ⟨W6, hW6⟩ : ∃ Z, ((wr.alloc (.cells #[.int .i64 op, .int .i64 nn, .int .i64 fr, .int .i64 to, .slice ta ts.length tc, .int .i64 num] 67)).alloc (.cells #[.int .i64 op, .int .i64 nn, .int .i64 fr, .int .i64 to, .slice ta ts.length tc, .int .i64 num] 67)).drew = Z := ⟨_, rfl⟩
                have B6 : Below wr.heap.size wr W6 := by rw [← hW6]; exact (((Below.refl _ _).alloc (Nat.le_refl _) _).alloc (by simp) _).drew
                have p0 : W6.cell? ⟨wr.heap.size, 0, none⟩ = some (.int .i64 op) := by rw [← hW6]; simp [go_sem]
                have p1 : W6.cell? ⟨wr.heap.size, 1, none⟩ = some (.int .i64 nn) := by rw [← hW6]; simp [go_sem]
                have p2 : W6.cell? ⟨wr.heap.size, 2, none⟩ = some (.int .i64 fr) := by rw [← hW6]; simp [go_sem]
                have p3 : W6.cell? ⟨wr.heap.size, 3, none⟩ = some (.int .i64 to) := by rw [← hW6]; simp [go_sem]
                have p4 : W6.cell? ⟨wr.heap.size, 4, none⟩ = some (.slice ta ts.length tc) := by rw [← hW6]; simp [go_sem]
                have p5 : W6.cell? ⟨wr.heap.size, 5, none⟩ = some (.int .i64 num) := by rw [← hW6]; simp [go_sem]
                have fp : ∀ j, W6.frozen? ⟨wr.heap.size, j, none⟩ = false := fun j => by rw [← hW6]; simp [go_sem]
                have q0 : W6.cell? ⟨wr.heap.size + 1, 0, none⟩ = some (.int .i64 op) := by rw [← hW6]; simp [go_sem]
                have q1 : W6.cell? ⟨wr.heap.size + 1, 1, none⟩ = some (.int .i64 nn) := by rw [← hW6]; simp [go_sem]
                have q2 : W6.cell? ⟨wr.heap.size + 1, 2, none⟩ = some (.int .i64 fr) := by rw [← hW6]; simp [go_sem]
                have q3 : W6.cell? ⟨wr.heap.size + 1, 3, none⟩ = some (.int .i64 to) := by rw [← hW6]; simp [go_sem]
                have q4 : W6.cell? ⟨wr.heap.size + 1, 4, none⟩ = some (.slice ta ts.length tc) := by rw [← hW6]; simp [go_sem]
                have q5 : W6.cell? ⟨wr.heap.size + 1, 5, none⟩ = some (.int .i64 num) := by rw [← hW6]; simp [go_sem]
                have fq : ∀ j, W6.frozen? ⟨wr.heap.size + 1, j, none⟩ = false := fun j => by rw [← hW6]; simp [go_sem]
                have s6 : W6.heap.size = wr.heap.size + 2 := by rw [← hW6]; simp
                rw [hW6]
                clear hW6
                have hP : wr.heap.size ≤ wr.heap.size := by omega
                have hQ : wr.heap.size ≤ wr.heap.size + 1 := by omega
                have BA : Below wr.heap.size wr (W6.setCell ⟨wr.heap.size, 5, none⟩ (.int .i64 hi)) := B6.setCell hP _
                have BX : Below wr.heap.size wr ((W6.setCell ⟨wr.heap.size, 5, none⟩ (.int .i64 hi)).setCell ⟨wr.heap.size + 1, 5, none⟩ (.int .i64 lo)) := BA.setCell hQ _
                obtain ⟨r0, r1⟩ := HR5.out _ (HBw.out.trans (B6.mono HBw.out.size))
                obtain ⟨t0, t1⟩ := HR5.out _ (HBw.out.trans (BA.mono HBw.out.size))
                have z4 := cell_up BX g4
                have hta : ta = none → tc = 0 := fun e => by
                  obtain ⟨_, _, e2, _⟩ := HTr.out _ (Below.refl _ _) 0 HOK2.out.2.2.2
                  rw [e] at e2; cases e2
                obtain ⟨v3, Y3, hr3, ho3, hg3, _⟩ := Own.appendRow tmC_len tmC_one Try.underlying65 infoTerm rfl (by omega) ((W6.setCell ⟨wr.heap.size, 5, none⟩ (.int .i64 hi)).setCell ⟨wr.heap.size + 1, 5, none⟩ (.int .i64 lo)) ((W6.setCell ⟨wr.heap.size, 5, none⟩ (.int .i64 hi)).setCell ⟨wr.heap.size + 1, 5, none⟩ (.int .i64 lo)).heap.size (.slice none 0 0) [] (Own.nil _ _ _ _ _) ta ts tc hta (HTr.out _ BX).rowOf (by unfold maxLen; have := HOK2.out.2.2.1; simp; omega) (by have := HOK2.out.2.2.1; simp; omega) (Nat.le_refl _)
                have B3 : Below ((W6.setCell ⟨wr.heap.size, 5, none⟩ (.int .i64 hi)).setCell ⟨wr.heap.size + 1, 5, none⟩ (.int .i64 lo)).heap.size ((W6.setCell ⟨wr.heap.size, 5, none⟩ (.int .i64 hi)).setCell ⟨wr.heap.size + 1, 5, none⟩ (.int .i64 lo)) Y3 := (Mod.grown hg3).belowOf (Nat.le_refl _) (by simp [Value.ownBlock])
                rw [List.nil_append] at ho3
                obtain ⟨a3, c3', rfl, _, _, hcell3⟩ := ho3.sl tmC_len default
                have HT3 : Hid (∀ X, (∀ g j v, W6.heap.size ≤ g → Y3.cell? ⟨g, j, none⟩ = some v → X.cell? ⟨g, j, none⟩ = some v) → TermRow X a3 ts) := by
                  intro X hX i hi
                  obtain ⟨g, e, hg, _, hj⟩ := hcell3 i hi
                  have hg' : W6.heap.size ≤ g := by simpa using hg
                  refine ⟨g, 0, e, ?_, ?_⟩
                  · have := hj 0 (by omega); rw [show (default : Tm) = tm0 from rfl] at this; rw [Nat.zero_add]; exact hX _ _ _ hg' (by simpa [tmC] using this)
                  · have := hj 1 (by omega); rw [show (default : Tm) = tm0 from rfl] at this; rw [Nat.zero_add]; exact hX _ _ _ hg' (by simpa [tmC] using this)
                have HR3 := hid_of hr3
                clear hr3 ho3 hg3 hcell3
                have py0 : Y3.cell? ⟨wr.heap.size, 0, none⟩ = some (.int .i64 op) := cell_up B3 (by simp [go_sem, p0])
                have py1 : Y3.cell? ⟨wr.heap.size, 1, none⟩ = some (.int .i64 nn) := cell_up B3 (by simp [go_sem, p1])
                have py2 : Y3.cell? ⟨wr.heap.size, 2, none⟩ = some (.int .i64 fr) := cell_up B3 (by simp [go_sem, p2])
                have py3 : Y3.cell? ⟨wr.heap.size, 3, none⟩ = some (.int .i64 to) := cell_up B3 (by simp [go_sem, p3])
                have py4 : Y3.cell? ⟨wr.heap.size, 4, none⟩ = some (.slice ta ts.length tc) := cell_up B3 (by simp [go_sem, p4])
                have py5 : Y3.cell? ⟨wr.heap.size, 5, none⟩ = some (.int .i64 hi) := cell_up B3 (by simp [go_sem, p5])
                have qy0 : Y3.cell? ⟨wr.heap.size + 1, 0, none⟩ = some (.int .i64 op) := cell_up B3 (by simp [go_sem, q0])
                have qy1 : Y3.cell? ⟨wr.heap.size + 1, 1, none⟩ = some (.int .i64 nn) := cell_up B3 (by simp [go_sem, q1])
                have qy2 : Y3.cell? ⟨wr.heap.size + 1, 2, none⟩ = some (.int .i64 fr) := cell_up B3 (by simp [go_sem, q2])
                have qy3 : Y3.cell? ⟨wr.heap.size + 1, 3, none⟩ = some (.int .i64 to) := cell_up B3 (by simp [go_sem, q3])
                have qy4 : Y3.cell? ⟨wr.heap.size + 1, 4, none⟩ = some (.slice ta ts.length tc) := cell_up B3 (by simp [go_sem, q4])
                have qy5 : Y3.cell? ⟨wr.heap.size + 1, 5, none⟩ = some (.int .i64 lo) := cell_up B3 (by simp [go_sem, q5])
                have fy : ∀ j, Y3.frozen? ⟨wr.heap.size + 1, j, none⟩ = false := fun j => by rw [B3.frozen (p := ⟨wr.heap.size + 1, j, none⟩) (by have := World.block_lt_of_cell? W6 ⟨wr.heap.size + 1, 0, none⟩ q0; simpa using this)]; simp [go_sem, fq]
                go_wp2_with (at_builtin; refine append_runO (by rfl) _ _ (by rfl) (by rfl) _ _ _ _ (by rfl) (by rfl) HR3.out ?_)
                obtain ⟨W8, hW8⟩ : ∃ Z, Y3.setCell ⟨wr.heap.size + 1, 4, none⟩ (.slice a3 ts.length c3') = Z := ⟨_, rfl⟩
                have BY : Below wr.heap.size wr Y3 := BX.trans (B3.mono BX.size)
                have B8 : Below wr.heap.size wr W8 := by rw [← hW8]; exact BY.setCell hQ _
                have M8 : Mod [wr.heap.size + 1] Y3 W8 := by rw [← hW8]; exact (Mod.refl _ _).setCell _ _ _ (by simp)
                have T8 : TermRow W8 a3 ts := HT3.out W8 fun g j v hg hv => M8.cell hv (by simp; omega)
                have w0 : W8.cell? ⟨wr.heap.size + 1, 0, none⟩ = some (.int .i64 op) := by rw [← hW8]; simp [go_sem, qy0]
                have w1 : W8.cell? ⟨wr.heap.size + 1, 1, none⟩ = some (.int .i64 nn) := by rw [← hW8]; simp [go_sem, qy1]
                have w2 : W8.cell? ⟨wr.heap.size + 1, 2, none⟩ = some (.int .i64 fr) := by rw [← hW8]; simp [go_sem, qy2]
                have w3 : W8.cell? ⟨wr.heap.size + 1, 3, none⟩ = some (.int .i64 to) := by rw [← hW8]; simp [go_sem, qy3]
                have w4 : W8.cell? ⟨wr.heap.size + 1, 4, none⟩ = some (.slice a3 ts.length c3') := by rw [← hW8]; simp [go_sem, qy4]
                have w5 : W8.cell? ⟨wr.heap.size + 1, 5, none⟩ = some (.int .i64 lo) := by rw [← hW8]; simp [go_sem, qy5]
                have HB8 := hid_of B8
                have HT8 := hid_of T8
                have HAt : Hid (∀ X ta' tc' num', Below wr.heap.size wr X → TermRow X ta' ts → B64 num' → Calls Try.prog 21 #[.agg #[.int .i64 op, .int .i64 nn, .int .i64 fr, .int .i64 to, .slice ta' ts.length tc', .int .i64 num'], .slice na2 l.length nc2, .slice ra2 l.length rc2] X fun e w' => e = .returned (.tuple #[.bool (decide (sumA (fun s => lookN s (l.map (·.name)) (valsL l at')) ts ≤ num' * 4294967296)), .bool false]) ∧ Below X.heap.size X w') := by
                  intro X ta' tc' num' hX hT hnum
                  have k1 := HOK2.out.1
                  have k2 := HOK2.out.2.1
                  have this := atom_in op nn fr to num' ta' tc' ts na2 nc2 (l.map (·.name)) ra2 rc2 (valsL l at') X hT (by have := HOK2.out.2.2.1; omega) HKn2.out.1 (HStr.out _ hX).1 (HStr.out _ hX).2 (by rw [List.length_map, valsL_len]) (by rw [List.length_map]; omega) HVB.out hnum (by have := HSum2.out.1; have := k1.1; omega) (by have := HSum2.out.2; have := k2.2; omega)
                  rw [List.length_map, valsL_len] at this
                  exact this
                rw [hW8]
                clear hW8 M8 T8 B8 BY B3 BX BA r0 r1 t0 t1 z4 hta p0 p1 p2 p3 p4 p5 q0 q1 q2 q3 q4 q5 fp fq py0 py1 py2 py3 py4 py5 qy0 qy1 qy2 qy3 qy4 qy5 fy hP hQ B6 s6
                refine Calls.mono (HAt.out _ _ _ _ HB8.out (HTr.out _ HB8.out) HOK2.out.2.1) ?_
                rintro e W9 ⟨rfl, hb9⟩
                have D1 : decide (sumA (fun s => lookN s (l.map (·.name)) (valsL l at')) ts ≤ hi * 4294967296) = true := decide_eq_true HSum2.out.2
                rw [D1]
                clear D1
                have HB9 : Hid (Below wr.heap.size wr W9) := HB8.out.trans (hb9.mono HB8.out.size)
                have HT9 : Hid (∀ X, Below W9.heap.size W9 X → TermRow X a3 ts) := fun X hX => (HT8.out.below hb9).below hX
                have w0 := cell_up hb9 w0
                have w1 := cell_up hb9 w1
                have w2 := cell_up hb9 w2
                have w3 := cell_up hb9 w3
                have w4 := cell_up hb9 w4
                have w5 := cell_up hb9 w5
                clear hb9
                go_wp2_with fail
                refine Calls.mono (below_any op nn fr to lo a3 ts.length c3' _ HOK2.out.1) ?_
                rintro e W10 ⟨rfl, hb10⟩
                have HB10 : Hid (Below wr.heap.size wr W10) := HB9.out.trans (hb10.mono HB9.out.size)
                have T10 := HT9.out _ hb10
                have HD : Hid (B64 (downN lo)) := by have := HOK2.out.1; unfold downN; split <;> constructor <;> (have := this.1; have := HOK2.out.1.2; omega)
                clear hb10
                go_wp2_with fail
                refine Calls.mono (HAt.out _ _ _ _ HB10.out T10 HD.out) ?_
                rintro e W11 ⟨rfl, hb11⟩
                have HB11 : Hid (Below wr.heap.size wr W11) := HB10.out.trans (hb11.mono HB10.out.size)
                clear hb11 T10
                have HEnd : Hid (∀ X, Below W11.heap.size W11 X → Below W.heap.size W X ∧ X.cell? ⟨W4.heap.size, 0, none⟩ = some (.int .i64 lo)) := fun X hX => by
                  have k := HB11.out.trans (hX.mono HB11.out.size)
                  exact ⟨HWr.out.trans (k.mono HWr.out.size), (HR5.out _ (HBw.out.trans (k.mono HBw.out.size))).1⟩
                have HDec : Hid (decide (sumA (fun s => lookN s (l.map (·.name)) (valsL l at')) ts ≤ downN lo * 4294967296) = false ∨ lo = -9223372036854775808) := by
                  have k1 := HOK2.out.1
                  have k2 := HSum2.out.1
                  by_cases hlo : -9223372036854775808 < lo
                  · left
                    rw [decide_eq_false_iff_not]
                    unfold downN; rw [if_pos hlo]; omega
                  · right; have := k1.1; omega
                generalize decide (sumA (fun s => lookN s (l.map (·.name)) (valsL l at')) ts ≤ downN lo * 4294967296) = bb at *
                rcases HDec.out with hbb | hlo
                · subst hbb
                  go_wp2_with fail
                  refine Calls.mono (HAL.out _) ?_
                  rintro e W12 ⟨rfl, hb12⟩
                  obtain ⟨k1, k2⟩ := HEnd.out _ hb12
                  have HK1 := hid_of k1
                  clear k1 hb12
                  go_wp2
                  exact bodyPost_ret (v := .bool true) (by simp [results, Try.results5, go_sem]) rfl ⟨rfl, HK1.out⟩
                · have HLo := hid_of hlo
                  go_wp2_with fail
                  refine Calls.mono (HAL.out _) ?_
                  rintro e W12 ⟨rfl, hb12⟩
                  obtain ⟨k1, k2⟩ := HEnd.out _ hb12
                  have HK1 := hid_of k1
                  rw [hlo] at k2
                  clear k1 hb12 hlo
                  cases bb
                  all_goals
                    go_wp2
                    exact bodyPost_ret (v := .bool true) (by simp [results, Try.results5, go_sem]) rfl ⟨rfl, HK1.out⟩
              · obtain ⟨W6, hW6⟩ : ∃ Z, ((wr.alloc (.cells #[.int .i64 op, .int .i64 nn, .int .i64 fr, .int .i64 to, .slice ta ts.length tc, .int .i64 num] 67)).alloc (.cells #[.int .i64 op, .int .i64 nn, .int .i64 fr, .int .i64 to, .slice ta ts.length tc, .int .i64 num] 67)).drew = Z := ⟨_, rfl⟩
                have B6 : Below wr.heap.size wr W6 := by rw [← hW6]; exact (((Below.refl _ _).alloc (Nat.le_refl _) _).alloc (by simp) _).drew
                have p0 : W6.cell? ⟨wr.heap.size + 1, 0, none⟩ = some (.int .i64 op) := by rw [← hW6]; simp [go_sem]
                have p1 : W6.cell? ⟨wr.heap.size + 1, 1, none⟩ = some (.int .i64 nn) := by rw [← hW6]; simp [go_sem]
                have p2 : W6.cell? ⟨wr.heap.size + 1, 2, none⟩ = some (.int .i64 fr) := by rw [← hW6]; simp [go_sem]
                have p3 : W6.cell? ⟨wr.heap.size + 1, 3, none⟩ = some (.int .i64 to) := by rw [← hW6]; simp [go_sem]
                have p4 : W6.cell? ⟨wr.heap.size + 1, 4, none⟩ = some (.slice ta ts.length tc) := by rw [← hW6]; simp [go_sem]
                have p5 : W6.cell? ⟨wr.heap.size + 1, 5, none⟩ = some (.int .i64 num) := by rw [← hW6]; simp [go_sem]
                have fp : ∀ j, W6.frozen? ⟨wr.heap.size + 1, j, none⟩ = false := fun j => by rw [← hW6]; simp [go_sem]
                have q0 : W6.cell? ⟨wr.heap.size, 0, none⟩ = some (.int .i64 op) := by rw [← hW6]; simp [go_sem]
                have q1 : W6.cell? ⟨wr.heap.size, 1, none⟩ = some (.int .i64 nn) := by rw [← hW6]; simp [go_sem]
                have q2 : W6.cell? ⟨wr.heap.size, 2, none⟩ = some (.int .i64 fr) := by rw [← hW6]; simp [go_sem]
                have q3 : W6.cell? ⟨wr.heap.size, 3, none⟩ = some (.int .i64 to) := by rw [← hW6]; simp [go_sem]
                have q4 : W6.cell? ⟨wr.heap.size, 4, none⟩ = some (.slice ta ts.length tc) := by rw [← hW6]; simp [go_sem]
                have q5 : W6.cell? ⟨wr.heap.size, 5, none⟩ = some (.int .i64 num) := by rw [← hW6]; simp [go_sem]
                have fq : ∀ j, W6.frozen? ⟨wr.heap.size, j, none⟩ = false := fun j => by rw [← hW6]; simp [go_sem]
                have s6 : W6.heap.size = wr.heap.size + 2 := by rw [← hW6]; simp
                rw [hW6]
                clear hW6
                have hP : wr.heap.size ≤ wr.heap.size + 1 := by omega
                have hQ : wr.heap.size ≤ wr.heap.size := by omega
                have BA : Below wr.heap.size wr (W6.setCell ⟨wr.heap.size + 1, 5, none⟩ (.int .i64 hi)) := B6.setCell hP _
                have BX : Below wr.heap.size wr ((W6.setCell ⟨wr.heap.size + 1, 5, none⟩ (.int .i64 hi)).setCell ⟨wr.heap.size, 5, none⟩ (.int .i64 lo)) := BA.setCell hQ _
                obtain ⟨r0, r1⟩ := HR5.out _ (HBw.out.trans (B6.mono HBw.out.size))
                obtain ⟨t0, t1⟩ := HR5.out _ (HBw.out.trans (BA.mono HBw.out.size))
                have z4 := cell_up BX g4
                have hta : ta = none → tc = 0 := fun e => by
                  obtain ⟨_, _, e2, _⟩ := HTr.out _ (Below.refl _ _) 0 HOK2.out.2.2.2
                  rw [e] at e2; cases e2
                obtain ⟨v3, Y3, hr3, ho3, hg3, _⟩ := Own.appendRow tmC_len tmC_one Try.underlying65 infoTerm rfl (by omega) ((W6.setCell ⟨wr.heap.size + 1, 5, none⟩ (.int .i64 hi)).setCell ⟨wr.heap.size, 5, none⟩ (.int .i64 lo)) ((W6.setCell ⟨wr.heap.size + 1, 5, none⟩ (.int .i64 hi)).setCell ⟨wr.heap.size, 5, none⟩ (.int .i64 lo)).heap.size (.slice none 0 0) [] (Own.nil _ _ _ _ _) ta ts tc hta (HTr.out _ BX).rowOf (by unfold maxLen; have := HOK2.out.2.2.1; simp; omega) (by have := HOK2.out.2.2.1; simp; omega) (Nat.le_refl _)
                have B3 : Below ((W6.setCell ⟨wr.heap.size + 1, 5, none⟩ (.int .i64 hi)).setCell ⟨wr.heap.size, 5, none⟩ (.int .i64 lo)).heap.size ((W6.setCell ⟨wr.heap.size + 1, 5, none⟩ (.int .i64 hi)).setCell ⟨wr.heap.size, 5, none⟩ (.int .i64 lo)) Y3 := (Mod.grown hg3).belowOf (Nat.le_refl _) (by simp [Value.ownBlock])
                rw [List.nil_append] at ho3
                obtain ⟨a3, c3', rfl, _, _, hcell3⟩ := ho3.sl tmC_len default
                have HT3 : Hid (∀ X, (∀ g j v, W6.heap.size ≤ g → Y3.cell? ⟨g, j, none⟩ = some v → X.cell? ⟨g, j, none⟩ = some v) → TermRow X a3 ts) := by
                  intro X hX i hi
                  obtain ⟨g, e, hg, _, hj⟩ := hcell3 i hi
                  have hg' : W6.heap.size ≤ g := by simpa using hg
                  refine ⟨g, 0, e, ?_, ?_⟩
                  · have := hj 0 (by omega); rw [show (default : Tm) = tm0 from rfl] at this; rw [Nat.zero_add]; exact hX _ _ _ hg' (by simpa [tmC] using this)
                  · have := hj 1 (by omega); rw [show (default : Tm) = tm0 from rfl] at this; rw [Nat.zero_add]; exact hX _ _ _ hg' (by simpa [tmC] using this)
                have HR3 := hid_of hr3
                clear hr3 ho3 hg3 hcell3
                have py0 : Y3.cell? ⟨wr.heap.size + 1, 0, none⟩ = some (.int .i64 op) := cell_up B3 (by simp [go_sem, p0])
                have py1 : Y3.cell? ⟨wr.heap.size + 1, 1, none⟩ = some (.int .i64 nn) := cell_up B3 (by simp [go_sem, p1])
                have py2 : Y3.cell? ⟨wr.heap.size + 1, 2, none⟩ = some (.int .i64 fr) := cell_up B3 (by simp [go_sem, p2])
                have py3 : Y3.cell? ⟨wr.heap.size + 1, 3, none⟩ = some (.int .i64 to) := cell_up B3 (by simp [go_sem, p3])
                have py4 : Y3.cell? ⟨wr.heap.size + 1, 4, none⟩ = some (.slice ta ts.length tc) := cell_up B3 (by simp [go_sem, p4])
                have py5 : Y3.cell? ⟨wr.heap.size + 1, 5, none⟩ = some (.int .i64 hi) := cell_up B3 (by simp [go_sem, p5])
                have qy0 : Y3.cell? ⟨wr.heap.size, 0, none⟩ = some (.int .i64 op) := cell_up B3 (by simp [go_sem, q0])
                have qy1 : Y3.cell? ⟨wr.heap.size, 1, none⟩ = some (.int .i64 nn) := cell_up B3 (by simp [go_sem, q1])
                have qy2 : Y3.cell? ⟨wr.heap.size, 2, none⟩ = some (.int .i64 fr) := cell_up B3 (by simp [go_sem, q2])
                have qy3 : Y3.cell? ⟨wr.heap.size, 3, none⟩ = some (.int .i64 to) := cell_up B3 (by simp [go_sem, q3])
                have qy4 : Y3.cell? ⟨wr.heap.size, 4, none⟩ = some (.slice ta ts.length tc) := cell_up B3 (by simp [go_sem, q4])
                have qy5 : Y3.cell? ⟨wr.heap.size, 5, none⟩ = some (.int .i64 lo) := cell_up B3 (by simp [go_sem, q5])
                have fy : ∀ j, Y3.frozen? ⟨wr.heap.size, j, none⟩ = false := fun j => by rw [B3.frozen (p := ⟨wr.heap.size, j, none⟩) (by have := World.block_lt_of_cell? W6 ⟨wr.heap.size, 0, none⟩ q0; simpa using this)]; simp [go_sem, fq]
                go_wp2_with (at_builtin; refine append_runO (by rfl) _ _ (by rfl) (by rfl) _ _ _ _ (by rfl) (by rfl) HR3.out ?_)
                obtain ⟨W8, hW8⟩ : ∃ Z, Y3.setCell ⟨wr.heap.size, 4, none⟩ (.slice a3 ts.length c3') = Z := ⟨_, rfl⟩
                have BY : Below wr.heap.size wr Y3 := BX.trans (B3.mono BX.size)
                have B8 : Below wr.heap.size wr W8 := by rw [← hW8]; exact BY.setCell hQ _
                have M8 : Mod [wr.heap.size] Y3 W8 := by rw [← hW8]; exact (Mod.refl _ _).setCell _ _ _ (by simp)
                have T8 : TermRow W8 a3 ts := HT3.out W8 fun g j v hg hv => M8.cell hv (by simp; omega)
                have w0 : W8.cell? ⟨wr.heap.size, 0, none⟩ = some (.int .i64 op) := by rw [← hW8]; simp [go_sem, qy0]
                have w1 : W8.cell? ⟨wr.heap.size, 1, none⟩ = some (.int .i64 nn) := by rw [← hW8]; simp [go_sem, qy1]
                have w2 : W8.cell? ⟨wr.heap.size, 2, none⟩ = some (.int .i64 fr) := by rw [← hW8]; simp [go_sem, qy2]
                have w3 : W8.cell? ⟨wr.heap.size, 3, none⟩ = some (.int .i64 to) := by rw [← hW8]; simp [go_sem, qy3]
                have w4 : W8.cell? ⟨wr.heap.size, 4, none⟩ = some (.slice a3 ts.length c3') := by rw [← hW8]; simp [go_sem, qy4]
                have w5 : W8.cell? ⟨wr.heap.size, 5, none⟩ = some (.int .i64 lo) := by rw [← hW8]; simp [go_sem, qy5]
                have HB8 := hid_of B8
                have HT8 := hid_of T8
                have HAt : Hid (∀ X ta' tc' num', Below wr.heap.size wr X → TermRow X ta' ts → B64 num' → Calls Try.prog 21 #[.agg #[.int .i64 op, .int .i64 nn, .int .i64 fr, .int .i64 to, .slice ta' ts.length tc', .int .i64 num'], .slice na2 l.length nc2, .slice ra2 l.length rc2] X fun e w' => e = .returned (.tuple #[.bool (decide (sumA (fun s => lookN s (l.map (·.name)) (valsL l at')) ts ≤ num' * 4294967296)), .bool false]) ∧ Below X.heap.size X w') := by
                  intro X ta' tc' num' hX hT hnum
                  have k1 := HOK2.out.1
                  have k2 := HOK2.out.2.1
                  have this := atom_in op nn fr to num' ta' tc' ts na2 nc2 (l.map (·.name)) ra2 rc2 (valsL l at') X hT (by have := HOK2.out.2.2.1; omega) HKn2.out.1 (HStr.out _ hX).1 (HStr.out _ hX).2 (by rw [List.length_map, valsL_len]) (by rw [List.length_map]; omega) HVB.out hnum (by have := HSum2.out.1; have := k1.1; omega) (by have := HSum2.out.2; have := k2.2; omega)
                  rw [List.length_map, valsL_len] at this
                  exact this
                rw [hW8]
                clear hW8 M8 T8 B8 BY B3 BX BA r0 r1 t0 t1 z4 hta p0 p1 p2 p3 p4 p5 q0 q1 q2 q3 q4 q5 fp fq py0 py1 py2 py3 py4 py5 qy0 qy1 qy2 qy3 qy4 qy5 fy hP hQ B6 s6
                refine Calls.mono (HAt.out _ _ _ _ HB8.out (HTr.out _ HB8.out) HOK2.out.2.1) ?_
                rintro e W9 ⟨rfl, hb9⟩
                have D1 : decide (sumA (fun s => lookN s (l.map (·.name)) (valsL l at')) ts ≤ hi * 4294967296) = true := decide_eq_true HSum2.out.2
                rw [D1]
                clear D1
                have HB9 : Hid (Below wr.heap.size wr W9) := HB8.out.trans (hb9.mono HB8.out.size)
                have HT9 : Hid (∀ X, Below W9.heap.size W9 X → TermRow X a3 ts) := fun X hX => (HT8.out.below hb9).below hX
                have w0 := cell_up hb9 w0
                have w1 := cell_up hb9 w1
                have w2 := cell_up hb9 w2
                have w3 := cell_up hb9 w3
                have w4 := cell_up hb9 w4
                have w5 := cell_up hb9 w5
                clear hb9
                go_wp2_with fail
                refine Calls.mono (below_any op nn fr to lo a3 ts.length c3' _ HOK2.out.1) ?_
                rintro e W10 ⟨rfl, hb10⟩
                have HB10 : Hid (Below wr.heap.size wr W10) := HB9.out.trans (hb10.mono HB9.out.size)
                have T10 := HT9.out _ hb10
                have HD : Hid (B64 (downN lo)) := by have := HOK2.out.1; unfold downN; split <;> constructor <;> (have := this.1; have := HOK2.out.1.2; omega)
                clear hb10
                go_wp2_with fail
                refine Calls.mono (HAt.out _ _ _ _ HB10.out T10 HD.out) ?_
                rintro e W11 ⟨rfl, hb11⟩
                have HB11 : Hid (Below wr.heap.size wr W11) := HB10.out.trans (hb11.mono HB10.out.size)
                clear hb11 T10
                have HEnd : Hid (∀ X, Below W11.heap.size W11 X → Below W.heap.size W X ∧ X.cell? ⟨W4.heap.size, 0, none⟩ = some (.int .i64 lo)) := fun X hX => by
                  have k := HB11.out.trans (hX.mono HB11.out.size)
                  exact ⟨HWr.out.trans (k.mono HWr.out.size), (HR5.out _ (HBw.out.trans (k.mono HBw.out.size))).1⟩
                have HDec : Hid (decide (sumA (fun s => lookN s (l.map (·.name)) (valsL l at')) ts ≤ downN lo * 4294967296) = false ∨ lo = -9223372036854775808) := by
                  have k1 := HOK2.out.1
                  have k2 := HSum2.out.1
                  by_cases hlo : -9223372036854775808 < lo
                  · left
                    rw [decide_eq_false_iff_not]
                    unfold downN; rw [if_pos hlo]; omega
                  · right; have := k1.1; omega
                generalize decide (sumA (fun s => lookN s (l.map (·.name)) (valsL l at')) ts ≤ downN lo * 4294967296) = bb at *
                rcases HDec.out with hbb | hlo
                · subst hbb
                  go_wp2_with fail
                  refine Calls.mono (HAL.out _) ?_
                  rintro e W12 ⟨rfl, hb12⟩
                  obtain ⟨k1, k2⟩ := HEnd.out _ hb12
                  have HK1 := hid_of k1
                  clear k1 hb12
                  go_wp2
                  exact bodyPost_ret (v := .bool true) (by simp [results, Try.results5, go_sem]) rfl ⟨rfl, HK1.out⟩
                · have HLo := hid_of hlo
                  go_wp2_with fail
                  refine Calls.mono (HAL.out _) ?_
                  rintro e W12 ⟨rfl, hb12⟩
                  obtain ⟨k1, k2⟩ := HEnd.out _ hb12
                  have HK1 := hid_of k1
                  rw [hlo] at k2
                  clear k1 hb12 hlo
                  cases bb
                  all_goals
                    go_wp2
                    exact bodyPost_ret (v := .bool true) (by simp [results, Try.results5, go_sem]) rfl ⟨rfl, HK1.out⟩
        · clear hne
          have k1 : ((rangeR l n).2.2 != 0) = true := by simpa using hz
          have k2 : ((rangeR l n).2.2 == 0) = false := by simpa using hz
          have hn2 : (n.length : Int) = 1 := by omega
          clear hz hn1
          generalize (rangeR l n).2.2 = er at *
          generalize (rangeR l n).1 = lo at *
          generalize (rangeR l n).2.1 = hi at *
          clear HOK HSum
          go_wp2_with fail
          refine Calls.mono (HLi.out _ HB2.out) ?_
          rintro e W3 ⟨rfl, hw⟩
          subst W3
          go_wp2_with fail
          refine Calls.mono (HRg.out q p _ (HSH.out _ HS2.out) HB2.out) ?_
          rintro e W4 ⟨rfl, hb4⟩
          have HB4 : Hid (Below W.heap.size W W4) := HB2.out.trans (hb4.mono HB2.out.size)
          clear hb4
          go_wp2_with fail
          refine Calls.mono (HAL.out _) ?_
          rintro e W9 ⟨rfl, hb9⟩
          go_wp2
          exact bodyPost_ret (v := .bool true) (by simp [results, Try.results5, go_sem]) rfl ⟨rfl, (HB4.out.alloc HB4.out.size _).trans (hb9.mono (by have := HB4.out.size; simp; omega))⟩
      · have hn2 : ¬ (n.length : Int) = 1 := by omega
        clear HOK HSum
        go_wp2_with fail
        refine Calls.mono (HLi.out _ HB2.out) ?_
        rintro e W3 ⟨rfl, hw⟩
        subst W3
        go_wp2_with fail
        refine Calls.mono (HAL.out _) ?_
        rintro e W9 ⟨rfl, hb9⟩
        go_wp2
        exact bodyPost_ret (v := .bool true) (by simp [results, Try.results5, go_sem]) rfl ⟨rfl, HB2.out.trans (hb9.mono HB2.out.size)⟩
end Go.Proofs.Ytjnnjjajlafchaa
