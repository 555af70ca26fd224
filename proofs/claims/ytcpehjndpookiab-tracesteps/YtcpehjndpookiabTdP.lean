/- TraceSteps: the law returns true. Conditions: none but what is known of what came in. -/
import Derived.Test.YtcpehjndpookiabBz7
import Derived.Test.YtcpehjndpookiabBz8
namespace Go.Proofs.Ytcpehjndpookiab
open Go.RowKit
set_option linter.unusedVariables false
set_option maxRecDepth 100000

/-- What is known of names and rows that came in. -/
structure RwsIn (W : World) (nma : Option Addr) (names : List ByteArray) (ra : Option Addr) (rows : List RwV) : Prop where
  nm : NamRow W nma names
  ns : ∀ s ∈ names, s.size ≤ 9223372036854775807
  ro : RoRow W ra rows
  b64 : ∀ r ∈ rows, ∀ z ∈ r.zs, B64 z
theorem RwsIn.few {W : World} {nma : Option Addr} {names : List ByteArray} {ra : Option Addr} {rows : List RwV} (h : RwsIn W nma names ra rows) (hr : rowsB rows names.length = true) : RwsAt W nma names ra rows := by
  unfold rowsB at hr
  simp only [Bool.and_eq_true, decide_eq_true_eq] at hr
  exact ⟨h.nm, h.ns, h.ro, h.b64, by omega, by omega⟩
/-- What is known of a list of nodes that came in. -/
structure NdsIn (W : World) (a : Option Addr) (cap : Nat) (ys : List NdV) : Prop where
  row : RowOf ndC 6 W a ys
  known : ∀ y ∈ ys, NdKnown W y
  le : ys.length ≤ cap
  nil : a = none → cap = 0
  len : ys.length ≤ 9223372036854775807
theorem NdsIn.valid {W : World} {a : Option Addr} {cap : Nat} {ys : List NdV} (h : NdsIn W a cap ys) (X : World) (hX : Below W.heap.size W X) : Calls Try.prog 4 #[.slice a ys.length cap] X fun e W' => e = .returned (.bool (validB (ys.map (·.x)))) ∧ Below X.heap.size X W' := by
  have := valid_any a cap (ys.map (·.x)) X ((nodeRow_of h.row h.known).below hX) (by rw [List.length_map]; exact h.le) (known_fit h.known) (by rw [List.length_map]; exact h.len)
  rw [List.length_map] at this; exact this
theorem AllSays.up {W X : World} {fe : Int} {l : List Int} {e : Ending} {W' : World} (h : AllSays X fe l e W') (k : Below W.heap.size W X) : AllSays W fe l e W' := by
  obtain ⟨va, n, c, h1, h2, h3⟩ := h
  exact ⟨va, n, c, h1, k.trans (h2.mono k.size), fun q => ⟨(h3 q).1, Own.lower (h3 q).2 k.size⟩⟩
/-- The verdicts' cells, in every world that grew. -/
theorem ver_cells {X : World} {B : Nat} {va : Option Addr} {n c : Nat} {l : List Int} (h : Own inC 3 1 X B (.slice va n c) l) (hn : n = l.length) (i : Nat) (hi : i < n) : ∃ g, va = some ⟨g, 0, none⟩ ∧ ∀ Y, Below X.heap.size X Y → Y.cell? ⟨g, i, none⟩ = some (.int .i64 (l.getD i 0)) := by
  obtain ⟨_, _, e, _, _, hrow⟩ := h.sl inC_len 0
  simp only [Value.slice.injEq] at e
  obtain ⟨rfl, _, rfl⟩ := e
  obtain ⟨g, rfl, _, _, hc⟩ := hrow i (by omega)
  refine ⟨g, rfl, fun Y hY => cell_up hY ?_⟩
  have := hc 0 (by omega)
  simpa [inC] using this
theorem steps_verd (names : List ByteArray) (rows : List RwV) (yp yq z : NdV) (kp kq k : Fo) (hz : z.x = ⟨10, 2, 0, -1, [], 0⟩) (hs : k.sem names rows = (Fo.cons yp kp (.cons yq kq .nil)).sem names rows) (hf : k.flat.map (·.x) = (Fo.cons yp kp (.cons yq kq .nil)).flat.map (·.x)) (n i : Nat) (hi : i < n) :
    (((verd names rows yp kp n).getD i 0 = 2 ∨ (verd names rows yq kq n).getD i 0 = 2) → (verd names rows z k n).getD i 0 = 2) ∧ ((verd names rows yp kp n).getD i 0 ≠ 2 → (verd names rows yq kq n).getD i 0 ≠ 2 → ((verd names rows z k n).getD i 0 = 1 ↔ (verd names rows yq kq n).getD i 0 = 1 ∨ ((verd names rows yp kp n).getD i 0 = 1 ∧ 0 < i ∧ (verd names rows z k n).getD (i - 1) 0 = 1))) := by
  rw [verd_at _ _ _ _ _ _ hi, verd_at _ _ _ _ _ _ hi, verd_at _ _ _ _ _ _ hi, verd_at _ _ _ _ _ _ (show i - 1 < n by omega)]
  have hc : combF names rows z.x (k.sem names rows) = sinceF 0 (-1) (combF names rows yp.x (kp.sem names rows)) (combF names rows yq.x (kq.sem names rows)) := by
    rw [hs, hz]
    show twoF ⟨10, 2, 0, -1, [], 0⟩ _ _ = _
    unfold twoF
    rw [if_neg (by simp), if_neg (by simp), if_pos rfl]
  rw [hc]
  refine steps_pure _ _ _ _ _ (fun j => ?_) i
  rw [exO_cons, exO_congr names rows hf, show (Fo.cons yp kp (.cons yq kq .nil)).flat = (yp :: kp.flat) ++ (yq :: kq.flat) by simp [Fo.flat], exO_append]
  refine ⟨fun h => h.elim (fun h => ?_) id, .inr⟩
  have h1 := h.1
  rw [hz] at h1; exact absurd h1 (by simp)
set_option maxHeartbeats 16000000 in
theorem steps_any (pa : Option Addr) (pc : Nat) (ys : List NdV) (qa : Option Addr) (qc : Nat) (zs : List NdV) (nma : Option Addr) (nmc : Nat) (names : List ByteArray) (ra : Option Addr) (rc : Nat) (rows : List RwV) (W : World) (h1 : NdsIn W pa pc ys) (h2 : NdsIn W qa qc zs) (h3 : RwsIn W nma names ra rows) :
    Calls Try.prog 3 #[.slice pa ys.length pc, .slice qa zs.length qc, .slice nma names.length nmc, .slice ra rows.length rc] W fun e W' => e = .returned (.bool true) ∧ Below W.heap.size W W' := by
  have HV1 : Hid (∀ X, Below W.heap.size W X → Calls Try.prog 4 #[.slice pa ys.length pc] X fun e W' => e = .returned (.bool (validB (ys.map (·.x)))) ∧ Below X.heap.size X W') := h1.valid
  have HV2 : Hid (∀ X, Below W.heap.size W X → Calls Try.prog 4 #[.slice qa zs.length qc] X fun e W' => e = .returned (.bool (validB (zs.map (·.x)))) ∧ Below X.heap.size X W') := h2.valid
  have HRW : Hid (∀ X, Below W.heap.size W X → Calls Try.prog 5 #[.slice ra rows.length rc, .slice nma names.length nmc] X fun e W' => e = .returned (.bool (rowsB rows names.length)) ∧ W' = X) := fun X hX => rows_any ra nma rc nmc names.length rows X (h3.ro.below hX)
  have HAL : Hid (∀ X, Calls Try.prog 6 #[] X fun e W' => e = .returned (.bool true) ∧ Below X.heap.size X W') := alive9_any
  have hys := h1.len
  have hzs := h2.len
  cases hv1 : validB (ys.map (·.x)) with
  | false =>
    rw [hv1] at HV1
    clear h1 h2 h3 HV2 HRW
    go_enter Try.func3, Try.ntmps3
    go_wp2_with fail
    refine Calls.mono (HV1.out _ (Below.refl _ _)) ?_
    rintro e W2 ⟨rfl, hb2⟩
    have HB2 : Hid (Below W.heap.size W W2) := hb2
    clear hb2
    go_wp2_with fail
    refine Calls.mono (HAL.out _) ?_
    rintro e W3 ⟨rfl, hb3⟩
    go_wp2
    go_ret
    exact ⟨rfl, HB2.out.trans (hb3.mono HB2.out.size)⟩
  | true =>
    rw [hv1] at HV1
    cases hv2 : validB (zs.map (·.x)) with
    | false =>
      rw [hv2] at HV2
      clear h1 h2 h3 HRW
      go_enter Try.func3, Try.ntmps3
      go_wp2_with fail
      refine Calls.mono (HV1.out _ (Below.refl _ _)) ?_
      rintro e W2 ⟨rfl, hb2⟩
      have HB2 : Hid (Below W.heap.size W W2) := hb2
      clear hb2
      go_wp2_with fail
      refine Calls.mono (HV2.out _ HB2.out) ?_
      rintro e W3 ⟨rfl, hb3⟩
      have HB3 : Hid (Below W.heap.size W W3) := HB2.out.trans (hb3.mono HB2.out.size)
      clear hb3
      go_wp2_with fail
      refine Calls.mono (HAL.out _) ?_
      rintro e W4 ⟨rfl, hb4⟩
      go_wp2
      go_ret
      exact ⟨rfl, HB3.out.trans (hb4.mono HB3.out.size)⟩
    | true =>
      rw [hv2] at HV2
      obtain ⟨yp, kp, rfl, hfp⟩ := known_tree h1.row h1.known h1.le h1.nil hv1
      obtain ⟨yq, kq, rfl, hfq⟩ := known_tree h2.row h2.known h2.le h2.nil hv2
      have hlp := hfp.few
      have hlq := hfq.few
      by_cases hsum : (200 : Int) < ((yp :: kp.flat).length : Int) + ((yq :: kq.flat).length : Int)
      · clear h1 h2 h3 HRW hfp hfq hv1 hv2
        generalize (yp :: kp.flat).length = np at *
        generalize (yq :: kq.flat).length = nq at *
        go_enter Try.func3, Try.ntmps3
        go_wp2_with fail
        refine Calls.mono (HV1.out _ (Below.refl _ _)) ?_
        rintro e W2 ⟨rfl, hb2⟩
        have HB2 : Hid (Below W.heap.size W W2) := hb2
        clear hb2
        go_wp2_with fail
        refine Calls.mono (HV2.out _ HB2.out) ?_
        rintro e W3 ⟨rfl, hb3⟩
        have HB3 : Hid (Below W.heap.size W W3) := HB2.out.trans (hb3.mono HB2.out.size)
        clear hb3
        go_wp2_with fail
        refine Calls.mono (HAL.out _) ?_
        rintro e W4 ⟨rfl, hb4⟩
        go_wp2
        go_ret
        exact ⟨rfl, HB3.out.trans (hb4.mono HB3.out.size)⟩
      · cases hrb : rowsB rows names.length with
        | false =>
          rw [hrb] at HRW
          clear h1 h2 h3 hfp hfq hv1 hv2
          generalize (yp :: kp.flat).length = np at *
          generalize (yq :: kq.flat).length = nq at *
          go_enter Try.func3, Try.ntmps3
          go_wp2_with fail
          refine Calls.mono (HV1.out _ (Below.refl _ _)) ?_
          rintro e W2 ⟨rfl, hb2⟩
          have HB2 : Hid (Below W.heap.size W W2) := hb2
          clear hb2
          go_wp2_with fail
          refine Calls.mono (HV2.out _ HB2.out) ?_
          rintro e W3 ⟨rfl, hb3⟩
          have HB3 : Hid (Below W.heap.size W W3) := HB2.out.trans (hb3.mono HB2.out.size)
          clear hb3
          go_wp2_with fail
          refine Calls.mono (HRW.out _ HB3.out) ?_
          rintro e W9 ⟨rfl, hw9⟩
          subst W9
          go_wp2_with fail
          refine Calls.mono (HAL.out _) ?_
          rintro e W4 ⟨rfl, hb4⟩
          go_wp2
          go_ret
          exact ⟨rfl, HB3.out.trans (hb4.mono HB3.out.size)⟩
        | true =>
          rw [hrb] at HRW
          have hrws := h3.few hrb
          have HFP : Hid (∀ X, Below W.heap.size W X → FmAt X pa pc yp kp) := fun X hX => hfp.below hX
          have HFQ : Hid (∀ X, Below W.heap.size W X → FmAt X qa qc yq kq) := fun X hX => hfq.below hX
          have HR : Hid (∀ X, Below W.heap.size W X → RwsAt X nma names ra rows) := fun X hX => hrws.below hX
          have HMK : Hid (∀ X, Below W.heap.size W X → Calls Try.prog 8 #[.agg #[.int .i64 10, .int .i64 0, .int .i64 0, .int .i64 (-1), .slice none 0 0, .int .i64 0], .slice (some ⟨X.heap.size, 0, none⟩) 2 2] (X.alloc (.cells #[.slice pa (yp :: kp.flat).length pc, .slice qa (yq :: kq.flat).length qc] 22)) (TreeMade X ⟨10, 0, 0, -1, [], 0⟩ (.cons yp kp (.cons yq kq .nil)))) := fun X hX =>
            make_two9 10 0 (-1) (by omega) (fun _ => by omega) (hfp.below hX) (hfq.below hX) (by omega)
          have HAP : Hid (∀ X, Below W.heap.size W X → Calls Try.prog 7 #[.slice pa (yp :: kp.flat).length pc, .slice nma names.length nmc, .slice ra rows.length rc] X (AllSays X (faultE ((yp :: kp.flat).map (·.x))) (verd names rows yp kp rows.length))) := fun X hX =>
            all9 pa pc yp kp nma nmc names ra rc rows X (hfp.below hX).nds hfp.fit hfp.ok (hrws.below hX)
          have HAQ : Hid (∀ X, Below W.heap.size W X → Calls Try.prog 7 #[.slice qa (yq :: kq.flat).length qc, .slice nma names.length nmc, .slice ra rows.length rc] X (AllSays X (faultE ((yq :: kq.flat).map (·.x))) (verd names rows yq kq rows.length))) := fun X hX =>
            all9 qa qc yq kq nma nmc names ra rc rows X (hfq.below hX).nds hfq.fit hfq.ok (hrws.below hX)
          have HPU : Hid (∀ (z : NdV) (k : Fo), z.x = ⟨10, 2, 0, -1, [], 0⟩ → (∀ names rows, k.sem names rows = (Fo.cons yp kp (.cons yq kq .nil)).sem names rows) → k.flat.map (·.x) = (Fo.cons yp kp (.cons yq kq .nil)).flat.map (·.x) → ∀ i, i < rows.length → (((verd names rows yp kp rows.length).getD i 0 = 2 ∨ (verd names rows yq kq rows.length).getD i 0 = 2) → (verd names rows z k rows.length).getD i 0 = 2) ∧ ((verd names rows yp kp rows.length).getD i 0 ≠ 2 → (verd names rows yq kq rows.length).getD i 0 ≠ 2 → ((verd names rows z k rows.length).getD i 0 = 1 ↔ (verd names rows yq kq rows.length).getD i 0 = 1 ∨ ((verd names rows yp kp rows.length).getD i 0 = 1 ∧ 0 < i ∧ (verd names rows z k rows.length).getD (i - 1) 0 = 1)))) := fun z k q1 q2 q3 i hi => steps_verd names rows yp yq z kp kq k q1 (q2 names rows) q3 rows.length i hi
          have HLN : Hid (∀ y k, (verd names rows y k rows.length).length = rows.length) := fun y k => by unfold verd; simp
          clear h1 h2 h3 hfp hfq hv1 hv2 hrws
          generalize (yp :: kp.flat).length = np at *
          generalize (yq :: kq.flat).length = nq at *
          generalize faultE ((yp :: kp.flat).map (·.x)) = fa at *
          generalize faultE ((yq :: kq.flat).map (·.x)) = fb at *
          have HLA := HLN.out yp kp
          have HLB := HLN.out yq kq
          generalize verd names rows yp kp rows.length = la at *
          generalize verd names rows yq kq rows.length = lb at *
          go_enter Try.func3, Try.ntmps3
          go_wp2_with fail
          refine Calls.mono (HV1.out _ (Below.refl _ _)) ?_
          rintro e W2 ⟨rfl, hb2⟩
          have HB2 : Hid (Below W.heap.size W W2) := hb2
          clear hb2
          go_wp2_with fail
          refine Calls.mono (HV2.out _ HB2.out) ?_
          rintro e W3 ⟨rfl, hb3⟩
          have HB3 : Hid (Below W.heap.size W W3) := HB2.out.trans (hb3.mono HB2.out.size)
          clear hb3
          go_wp2_with fail
          refine Calls.mono (HRW.out _ HB3.out) ?_
          rintro e W9 ⟨rfl, hw9⟩
          subst W9
          go_wp2_with fail
          refine Calls.mono (HMK.out _ HB3.out) ?_
          rintro e W4 ⟨ma, mc, z, k, rfl, hfm, hz, hsem, hflat, hb4⟩
          have HB4 : Hid (Below W.heap.size W W4) := HB3.out.trans (hb4.mono HB3.out.size)
          have HPZ : Hid _ := HPU.out z k hz hsem hflat
          have hr4 := HR.out _ HB4.out
          have HAS : Hid (Calls Try.prog 7 #[.slice ma (z :: k.flat).length mc, .slice nma names.length nmc, .slice ra rows.length rc] W4 (AllSays W4 (faultE ((z :: k.flat).map (·.x))) (verd names rows z k rows.length))) := all9 ma mc z k nma nmc names ra rc rows W4 hfm.nds hfm.fit hfm.ok hr4
          have HLS := HLN.out z k
          clear hfm hz hsem hflat hb4 hr4 HPU HMK HFP HFQ
          generalize (z :: k.flat).length = nz at *
          generalize faultE ((z :: k.flat).map (·.x)) = fs at *
          generalize verd names rows z k rows.length = ls at *
          go_wp2_with fail
          refine Calls.mono HAS.out ?_
          rintro e W5 ⟨sa, sn, sc, rfl, hb5, hs5⟩
          have HB5 : Hid (Below W.heap.size W W5) := HB4.out.trans (hb5.mono HB4.out.size)
          have HS5 : Hid (fs = 0 → sn = ls.length ∧ Own inC 3 1 W5 W4.heap.size (.slice sa sn sc) ls) := hs5
          clear hb5 hs5
          go_wp2_with fail
          refine Calls.mono (HAP.out _ HB5.out) ?_
          rintro e W6 ⟨aa, an, ac, rfl, hb6, hs6⟩
          have HB6 : Hid (Below W.heap.size W W6) := HB5.out.trans (hb6.mono HB5.out.size)
          have HS6 : Hid (fa = 0 → an = la.length ∧ Own inC 3 1 W6 W5.heap.size (.slice aa an ac) la) := hs6
          have HU6 : Hid (Below W5.heap.size W5 W6) := hb6
          clear hb6 hs6
          go_wp2_with fail
          refine Calls.mono (HAQ.out _ HB6.out) ?_
          rintro e W7 ⟨ba, bn, bc, rfl, hb7, hs7⟩
          have HB7 : Hid (Below W.heap.size W W7) := HB6.out.trans (hb7.mono HB6.out.size)
          have HS7 : Hid (fb = 0 → bn = lb.length ∧ Own inC 3 1 W7 W6.heap.size (.slice ba bn bc) lb) := hs7
          have HU7 : Hid (Below W6.heap.size W6 W7) := hb7
          clear hb7 hs7
          by_cases hfs : fs = 0
          · by_cases hfa : fa = 0
            · by_cases hfb : fb = 0
              · subst hfs hfa hfb
                obtain ⟨e1, o1⟩ := HS5.out rfl
                obtain ⟨e2, o2⟩ := HS6.out rfl
                obtain ⟨e3, o3⟩ := HS7.out rfl
                rw [HLS] at e1
                rw [HLA] at e2
                rw [HLB] at e3
                have HCS : Hid (∀ i, i < rows.length → ∃ g, sa = some ⟨g, 0, none⟩ ∧ W7.cell? ⟨g, i, none⟩ = some (.int .i64 (ls.getD i 0))) := fun i hi => by
                  obtain ⟨g, q1, q2⟩ := ver_cells o1 (by rw [e1, HLS]) i (by omega)
                  exact ⟨g, q1, q2 _ (HU6.out.trans (HU7.out.mono HU6.out.size))⟩
                have HCA : Hid (∀ i, i < rows.length → ∃ g, aa = some ⟨g, 0, none⟩ ∧ W7.cell? ⟨g, i, none⟩ = some (.int .i64 (la.getD i 0))) := fun i hi => by
                  obtain ⟨g, q1, q2⟩ := ver_cells o2 (by rw [e2, HLA]) i (by omega)
                  exact ⟨g, q1, q2 _ HU7.out⟩
                have HCB : Hid (∀ i, i < rows.length → ∃ g, ba = some ⟨g, 0, none⟩ ∧ W7.cell? ⟨g, i, none⟩ = some (.int .i64 (lb.getD i 0))) := fun i hi => by
                  obtain ⟨g, q1, q2⟩ := ver_cells o3 (by rw [e3, HLB]) i (by omega)
                  exact ⟨g, q1, q2 _ (Below.refl _ _)⟩
                subst e1 e2 e3
                clear o1 o2 o3 HLS HLA HLB HS5 HS6 HS7
                have hrl : rows.length ≤ 60 := by
                  unfold rowsB at hrb
                  simp only [Bool.and_eq_true, decide_eq_true_eq] at hrb
                  exact hrb.1.1
                go_wp2_with fail
                go_loopw [15] (fun i wr => ∃ k : Nat, k ≤ rows.length ∧ i = .int .i64 k ∧ wr = W7) (fun i _ => rows.length - (intOf i).toNat)
                case atStart => exact ⟨0, Nat.zero_le _, rfl, rfl⟩
                case round =>
                  obtain ⟨k, hk, rfl, rfl⟩ := hrel
                  by_cases hlt : k < rows.length
                  · obtain ⟨gs, rfl, cs⟩ := HCS.out k hlt
                    obtain ⟨ga, rfl, ca⟩ := HCA.out k hlt
                    obtain ⟨gb, rfl, cb⟩ := HCB.out k hlt
                    obtain ⟨p1, p2⟩ := HPZ.out k hlt
                    have HP1 : Hid _ := p1
                    have HP2 : Hid _ := p2
                    clear p1 p2
                    generalize ls.getD k 0 = sv at *
                    generalize la.getD k 0 = av at *
                    generalize lb.getD k 0 = bv at *
                    cases ha2 : (av == 2) with
                    | true =>
                      have hs2 : (sv == 2) = true := by have := HP1.out (.inl (by simpa using ha2)); simpa using this
                      go_wp2_with fail
                      refine Calls.mono (HAL.out _) ?_
                      rintro e W8 ⟨rfl, hb8⟩
                      have s8 := cell_up hb8 cs
                      go_wp2
                      go_ret
                      exact ⟨rfl, HB7.out.trans (hb8.mono HB7.out.size)⟩
                    | false =>
                      cases hb2 : (bv == 2) with
                      | true =>
                        have hs2 : (sv == 2) = true := by have := HP1.out (.inr (by simpa using hb2)); simpa using this
                        go_wp2_with fail
                        refine Calls.mono (HAL.out _) ?_
                        rintro e W8 ⟨rfl, hb8⟩
                        have s8 := cell_up hb8 cs
                        go_wp2
                        go_ret
                        exact ⟨rfl, HB7.out.trans (hb8.mono HB7.out.size)⟩
                      | false =>
                        have HP3 : Hid _ := HP2.out (by simpa using ha2) (by simpa using hb2)
                        cases hb1 : (bv == 1) with
                        | true =>
                          have hs1 : (sv == 1) = true := by have := HP3.out.2 (.inl (by simpa using hb1)); simpa using this
                          go_wp2
                          go_roundw
                          case rel => exact ⟨k + 1, by omega, by go_num, by trivial⟩
                          case measure => simp [intOf]; omega
                        | false =>
                          cases ha1 : (av == 1) with
                          | false =>
                            have hs1 : (sv == 1) = false := by
                              have h1 : ¬ bv = 1 := by simpa using hb1
                              have h2 : ¬ av = 1 := by simpa using ha1
                              have h3 : ¬ sv = 1 := fun q => (HP3.out.1 q).elim h1 fun q => h2 q.1
                              simpa using h3
                            go_wp2
                            go_roundw
                            case rel => exact ⟨k + 1, by omega, by go_num, by trivial⟩
                            case measure => simp [intOf]; omega
                          | true =>
                            cases k with
                            | zero =>
                              have hs1 : (sv == 1) = false := by
                                have h1 : ¬ bv = 1 := by simpa using hb1
                                have h3 : ¬ sv = 1 := fun q => (HP3.out.1 q).elim h1 fun q => by have := q.2.1; omega
                                simpa using h3
                              go_wp2
                              go_roundw
                              case rel => exact ⟨1, by omega, by go_num, by trivial⟩
                              case measure => simp [intOf]; omega
                            | succ k =>
                              obtain ⟨gs', e9, cs'⟩ := HCS.out k (by omega)
                              cases e9
                              have HS9 : Hid (ls.getD (k + 1 - 1) 0 = ls.getD k 0) := rfl
                              generalize ls.getD k 0 = sp at *
                              cases hs' : (sp == 1) with
                              | true =>
                                have hs1 : (sv == 1) = true := by
                                  have := HP3.out.2 (.inr ⟨by simpa using ha1, by omega, HS9.out.trans (by simpa using hs')⟩); simpa using this
                                go_wp2
                                go_roundw
                                case rel => exact ⟨k + 1 + 1, by omega, by go_num, by trivial⟩
                                case measure => simp [intOf]; omega
                              | false =>
                                have hs1 : (sv == 1) = false := by
                                  have h1 : ¬ bv = 1 := by simpa using hb1
                                  have h2 : ¬ sp = 1 := by simpa using hs'
                                  have h3 : ¬ sv = 1 := fun q => (HP3.out.1 q).elim h1 fun q => h2 (HS9.out.symm.trans q.2.2)
                                  simpa using h3
                                go_wp2
                                go_roundw
                                case rel => exact ⟨k + 1 + 1, by omega, by go_num, by trivial⟩
                                case measure => simp [intOf]; omega
                  · have hkk : k = rows.length := by omega
                    clear hlt
                    subst hkk
                    go_wp2_with fail
                    refine Calls.mono (HAL.out _) ?_
                    rintro e W8 ⟨rfl, hb8⟩
                    go_wp2
                    go_ret
                    exact ⟨rfl, HB7.out.trans (hb8.mono HB7.out.size)⟩
              · have hfb2 : (fb != 0) = true := by simpa using hfb
                subst hfs hfa
                clear hfb
                go_wp2_with fail
                refine Calls.mono (HAL.out _) ?_
                rintro e W8 ⟨rfl, hb8⟩
                go_wp2
                go_ret
                exact ⟨rfl, HB7.out.trans (hb8.mono HB7.out.size)⟩
            · have hfa2 : (fa != 0) = true := by simpa using hfa
              subst hfs
              clear hfa
              go_wp2_with fail
              refine Calls.mono (HAL.out _) ?_
              rintro e W8 ⟨rfl, hb8⟩
              go_wp2
              go_ret
              exact ⟨rfl, HB7.out.trans (hb8.mono HB7.out.size)⟩
          · have hfs2 : (fs != 0) = true := by simpa using hfs
            clear hfs
            go_wp2_with fail
            refine Calls.mono (HAL.out _) ?_
            rintro e W8 ⟨rfl, hb8⟩
            go_wp2
            go_ret
            exact ⟨rfl, HB7.out.trans (hb8.mono HB7.out.size)⟩
end Go.Proofs.Ytcpehjndpookiab
