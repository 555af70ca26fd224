/- TraceShifts: the law returns true. Conditions: none but what is known of what came in. -/
import Derived.Test.YtcpehjndpookiaaTdP
namespace Go.Proofs.Ytcpehjndpookiaa
open Go.RowKit
set_option linter.unusedVariables false
set_option maxRecDepth 100000

def prevK : Nat → (Nat → Bool) → Nat → Bool
  | 0, f => f
  | k + 1, f => prevF (prevK k f)
theorem prevK_at (k : Nat) (f : Nat → Bool) (i : Nat) : prevK k f i = (decide (k ≤ i) && f (i - k)) := by
  induction k generalizing i with
  | zero => simp [prevK]
  | succ k ih =>
    show prevF (prevK k f) i = _
    unfold prevF
    rw [ih]
    cases i with
    | zero => simp
    | succ i =>
      have e1 : decide (0 < i + 1) = true := by simp
      have e2 : decide (k ≤ i + 1 - 1) = decide (k + 1 ≤ i + 1) := by rw [decide_eq_decide]; omega
      have e3 : i + 1 - 1 - k = i + 1 - (k + 1) := by omega
      rw [e1, e2, e3, Bool.true_and]
theorem shifts_pure (Q : Nat → Prop) (f : Nat → Bool) (k i : Nat) : vAt Q (prevK k f) i = if vAt Q f i = 2 then 2 else if k ≤ i then vAt Q f (i - k) else 0 := by
  by_cases h : ∃ j, j ≤ i ∧ Q j
  · rw [vAt_over h, if_pos (vAt_over h)]
  · have h2 : ¬ vAt Q f i = 2 := fun q => h (vAt_two.1 q)
    rw [if_neg h2, vAt_else h, prevK_at]
    by_cases hk : k ≤ i
    · rw [if_pos hk, vAt_else (fun ⟨j, q1, q2⟩ => h ⟨j, by omega, q2⟩)]
      simp [hk]
    · rw [if_neg hk]; simp [hk]
theorem lss_single {X : World} {a : Option Addr} {cap : Nat} {ys : List NdV} (h : NdsAt X a cap ys) : LssAt (X.alloc (.cells #[.slice a ys.length cap] 22)) (some ⟨X.heap.size, 0, none⟩) 1 [⟨ys, a, cap⟩] :=
  ⟨fun i hi => by
    obtain rfl : i = 0 := by simpa using hi
    exact ⟨X.heap.size, 0, rfl, fun j hj => by obtain rfl : j = 0 := by omega
                                               simp [go_sem, lsC]⟩, (fun e => by cases e), Nat.le_refl _, by simp, fun y hy => by simp only [List.mem_singleton] at hy; subst hy; exact h.below ((Below.refl _ _).alloc (Nat.le_refl _) _)⟩
/-- Make of a node and a tree whose slice was just laid. -/
theorem make_one9 (op fr to : Int) (hop : op ≠ 2) (hfr : (op = 8 ∨ op = 9 ∨ op = 10) → 0 ≤ fr) {X : World} {a : Option Addr} {ca : Nat} {y : NdV} {k : Fo} (h : FmAt X a ca y k) (hs : (y :: k.flat).length ≤ 900) :
    Calls Try.prog 12 #[.agg #[.int .i64 op, .int .i64 0, .int .i64 fr, .int .i64 to, .slice none 0 0, .int .i64 0], .slice (some ⟨X.heap.size, 0, none⟩) 1 1] (X.alloc (.cells #[.slice a (y :: k.flat).length ca] 22)) (TreeMade X ⟨op, 0, fr, to, [], 0⟩ (.cons y k .nil)) := by
  have := make_forest ⟨op, 0, fr, to, [], 0⟩ rfl hop hfr (by unfold B64; simp) [⟨y :: k.flat, a, ca⟩] (.cons y k .nil) (by simp [Fo.flat, flat]) rfl h.ok _ 1 _ (lss_single h.nds) (fun w hw => by
    simp only [flat, List.flatMap_cons, List.flatMap_nil, List.append_nil] at hw
    exact h.fit w hw) (by simp [flat] at hs ⊢; omega) (by simp) (by simp [tot] at hs ⊢; omega)
  refine this.mono ?_
  rintro e W' ⟨a', c', z', k', e1, e2, e3, e4, e5, e6⟩
  exact ⟨a', c', z', k', e1, e2, e3, e4, e5, ((Below.refl _ X).alloc (Nat.le_refl _) _).trans (e6.mono (by simp))⟩
/-- So many prevs over a tree: a tree that means so. -/
structure ShiftIs (X : World) (names : List ByteArray) (rows : List RwV) (y : NdV) (k : Fo) (i : Nat) (a : Option Addr) (n c : Nat) (z : NdV) (l : Fo) : Prop where
  fm : FmAt X a c z l
  len : n = (z :: l.flat).length
  few : (z :: l.flat).length ≤ 300 + i
  sem : combF names rows z.x (l.sem names rows) = prevK i (combF names rows y.x (k.sem names rows))
  ex : ∀ j, exO names rows (z :: l.flat) j ↔ exO names rows (y :: k.flat) j
theorem ShiftIs.next {X X' : World} {names : List ByteArray} {rows : List RwV} {y : NdV} {k : Fo} {i : Nat} {a : Option Addr} {n c : Nat} {z : NdV} {l : Fo} (h : ShiftIs X names rows y k i a n c z l) {a' : Option Addr} {c' : Nat} {z' : NdV} {l' : Fo} (hf : FmAt X' a' c' z' l') (hz : z'.x = ⟨7, 1, 0, 0, [], 0⟩) (hs : ∀ names rows, l'.sem names rows = (Fo.cons z l .nil).sem names rows) (hm : l'.flat.map (·.x) = (Fo.cons z l .nil).flat.map (·.x)) : ShiftIs X' names rows y k (i + 1) a' (z' :: l'.flat).length c' z' l' := by
  have hl : l'.flat.length = (z :: l.flat).length := by have := congrArg List.length hm; simpa [Fo.flat] using this
  refine ⟨hf, rfl, by have := h.few; simp only [List.length_cons] at hl this ⊢; omega, ?_, fun j => ?_⟩
  · rw [hs, hz]
    show oneF ⟨7, 1, 0, 0, [], 0⟩ (combF names rows z.x (l.sem names rows)) = _
    unfold oneF
    rw [if_pos rfl, h.sem]; rfl
  · rw [exO_cons, exO_congr names rows hm, show (Fo.cons z l .nil).flat = z :: l.flat by simp [Fo.flat], h.ex]
    refine ⟨fun q => q.elim (fun q => ?_) id, .inr⟩
    have h1 := q.1
    rw [hz] at h1; exact absurd h1 (by simp)
theorem shifts_verd (names : List ByteArray) (rows : List RwV) (y z : NdV) (k l : Fo) (s n i : Nat) (hi : i < n) (hs : combF names rows z.x (l.sem names rows) = prevK s (combF names rows y.x (k.sem names rows))) (he : ∀ j, exO names rows (z :: l.flat) j ↔ exO names rows (y :: k.flat) j) :
    (verd names rows z l n).getD i 0 = if (verd names rows y k n).getD i 0 = 2 then 2 else if s ≤ i then (verd names rows y k n).getD (i - s) 0 else 0 := by
  rw [verd_at _ _ _ _ _ _ hi, verd_at _ _ _ _ _ _ hi, verd_at _ _ _ _ _ _ (show i - s < n by omega), hs, vAt_congr he, shifts_pure]
end Go.Proofs.Ytcpehjndpookiaa

namespace Go.Proofs.Ytcpehjndpookiaa
open Go.RowKit
set_option linter.unusedVariables false
set_option maxRecDepth 100000

set_option maxHeartbeats 16000000 in
theorem shifts_any (pa : Option Addr) (pc : Nat) (ys : List NdV) (kk : Int) (nma : Option Addr) (nmc : Nat) (names : List ByteArray) (ra : Option Addr) (rc : Nat) (rows : List RwV) (W : World) (h1 : NdsIn W pa pc ys) (h3 : RwsIn W nma names ra rows) :
    Calls Try.prog 3 #[.slice pa ys.length pc, .int .i64 kk, .slice nma names.length nmc, .slice ra rows.length rc] W fun e W' => e = .returned (.bool true) ∧ Below W.heap.size W W' := by
  have HV1 : Hid (∀ X, Below W.heap.size W X → Calls Try.prog 9 #[.slice pa ys.length pc] X fun e W' => e = .returned (.bool (validB (ys.map (·.x)))) ∧ Below X.heap.size X W') := h1.valid
  have HRW : Hid (∀ X, Below W.heap.size W X → Calls Try.prog 10 #[.slice ra rows.length rc, .slice nma names.length nmc] X fun e W' => e = .returned (.bool (rowsB rows names.length)) ∧ W' = X) := fun X hX => rows_any ra nma rc nmc names.length rows X (h3.ro.below hX)
  have HAL : Hid (∀ X, Calls Try.prog 11 #[] X fun e W' => e = .returned (.bool true) ∧ Below X.heap.size X W') := alive9_any
  have hys := h1.len
  cases hv1 : validB (ys.map (·.x)) with
  | false =>
    rw [hv1] at HV1
    clear h1 h3 HRW
    go_enter Try.func3, Try.ntmps3
    go_wp2_with fail
    refine Calls.mono (HV1.out _ (Below.refl _ _)) ?_
    rintro e W2 ⟨rfl, hb2⟩
    have HB2 : Hid (Below W.heap.size W W2) := hb2
    clear hb2
    go_wp2_with fail
    refine Calls.mono (HAL.out _) ?_
    rintro e W3 ⟨rfl, hb3⟩
    go_wp2
    go_ret
    exact ⟨rfl, HB2.out.trans (hb3.mono HB2.out.size)⟩
  | true =>
    rw [hv1] at HV1
    cases hrb : rowsB rows names.length with
    | false =>
      rw [hrb] at HRW
      clear h1 h3
      go_enter Try.func3, Try.ntmps3
      go_wp2_with fail
      refine Calls.mono (HV1.out _ (Below.refl _ _)) ?_
      rintro e W2 ⟨rfl, hb2⟩
      have HB2 : Hid (Below W.heap.size W W2) := hb2
      clear hb2
      go_wp2_with fail
      refine Calls.mono (HRW.out _ HB2.out) ?_
      rintro e W9 ⟨rfl, hw9⟩
      subst W9
      go_wp2_with fail
      refine Calls.mono (HAL.out _) ?_
      rintro e W3 ⟨rfl, hb3⟩
      go_wp2
      go_ret
      exact ⟨rfl, HB2.out.trans (hb3.mono HB2.out.size)⟩
    | true =>
      rw [hrb] at HRW
      by_cases hk0 : kk < 0
      · clear h1 h3
        go_enter Try.func3, Try.ntmps3
        go_wp2_with fail
        refine Calls.mono (HV1.out _ (Below.refl _ _)) ?_
        rintro e W2 ⟨rfl, hb2⟩
        have HB2 : Hid (Below W.heap.size W W2) := hb2
        clear hb2
        go_wp2_with fail
        refine Calls.mono (HRW.out _ HB2.out) ?_
        rintro e W9 ⟨rfl, hw9⟩
        subst W9
        go_wp2_with fail
        refine Calls.mono (HAL.out _) ?_
        rintro e W3 ⟨rfl, hb3⟩
        go_wp2
        go_ret
        exact ⟨rfl, HB2.out.trans (hb3.mono HB2.out.size)⟩
      · by_cases hk1 : 10 < kk
        · clear h1 h3
          go_enter Try.func3, Try.ntmps3
          go_wp2_with fail
          refine Calls.mono (HV1.out _ (Below.refl _ _)) ?_
          rintro e W2 ⟨rfl, hb2⟩
          have HB2 : Hid (Below W.heap.size W W2) := hb2
          clear hb2
          go_wp2_with fail
          refine Calls.mono (HRW.out _ HB2.out) ?_
          rintro e W9 ⟨rfl, hw9⟩
          subst W9
          go_wp2_with fail
          refine Calls.mono (HAL.out _) ?_
          rintro e W3 ⟨rfl, hb3⟩
          go_wp2
          go_ret
          exact ⟨rfl, HB2.out.trans (hb3.mono HB2.out.size)⟩
        · obtain ⟨s, rfl⟩ : ∃ s : Nat, kk = s := ⟨kk.toNat, by omega⟩
          have hs10 : s ≤ 10 := by omega
          have hrws := h3.few hrb
          have hlen3 := (valid_rest hv1).1
          rw [List.length_map] at hlen3
          obtain ⟨yp, kp, rfl, hfp⟩ := known_tree h1.row h1.known h1.le h1.nil hv1
          have HFP : Hid (∀ X, Below W.heap.size W X → FmAt X pa pc yp kp) := fun X hX => hfp.below hX
          have HR : Hid (∀ X, Below W.heap.size W X → RwsAt X nma names ra rows) := fun X hX => hrws.below hX
          have HAP : Hid (∀ X, Below W.heap.size W X → Calls Try.prog 13 #[.slice pa (yp :: kp.flat).length pc, .slice nma names.length nmc, .slice ra rows.length rc] X (AllSays X (faultE ((yp :: kp.flat).map (·.x))) (verd names rows yp kp rows.length))) := fun X hX =>
            all9 pa pc yp kp nma nmc names ra rc rows X (hfp.below hX).nds hfp.fit hfp.ok (hrws.below hX)
          have HLN : Hid (∀ y k, (verd names rows y k rows.length).length = rows.length) := fun y k => by unfold verd; simp
          have HS0 : Hid (∀ X, Below W.heap.size W X → ShiftIs X names rows yp kp 0 pa (yp :: kp.flat).length pc yp kp) := fun X hX => ⟨hfp.below hX, rfl, by omega, rfl, fun j => Iff.rfl⟩
          clear h1 h3 hfp hv1 hrws hk0 hk1 hlen3
          generalize (yp :: kp.flat).length = np at *
          go_enter Try.func3, Try.ntmps3
          go_wp2_with fail
          refine Calls.mono (HV1.out _ (Below.refl _ _)) ?_
          rintro e W2 ⟨rfl, hb2⟩
          have HB2 : Hid (Below W.heap.size W W2) := hb2
          clear hb2
          go_wp2_with fail
          refine Calls.mono (HRW.out _ HB2.out) ?_
          rintro e W9 ⟨rfl, hw9⟩
          subst W9
          go_wp2_with fail
          go_loopw [9, 10] (fun m i wr => ∃ (j : Nat) (ma : Option Addr) (mn mc : Nat) (z : NdV) (l : Fo), j ≤ s ∧ i = .int .i64 j ∧ m = .slice ma mn mc ∧ ShiftIs wr names rows yp kp j ma mn mc z l ∧ Below W.heap.size W wr) (fun _ i _ => s - (intOf i).toNat)
          case atStart => exact ⟨0, pa, np, pc, yp, kp, Nat.zero_le _, rfl, rfl, HS0.out _ HB2.out, HB2.out⟩
          case round =>
            obtain ⟨j, ma, mn, mc, z, l, hj, rfl, rfl, hsh, hb⟩ := hrel
            have HSH : Hid (ShiftIs wr names rows yp kp j ma mn mc z l) := hsh
            have HB : Hid (Below W.heap.size W wr) := hb
            clear hsh hb
            by_cases hlt : j < s
            · have hmk := make_one9 7 0 0 (by omega) (fun _ => by omega) HSH.out.fm (by have := HSH.out.few; omega)
              rw [← HSH.out.len] at hmk
              have HMK : Hid _ := hmk
              clear hmk
              go_wp2_with fail
              refine Calls.mono HMK.out ?_
              rintro e W4 ⟨a', c', z', l', rfl, hfm, hz, hsem, hflat, hb4⟩
              have HSN : Hid (ShiftIs W4 names rows yp kp (j + 1) a' (z' :: l'.flat).length c' z' l') := HSH.out.next hfm hz hsem hflat
              have HB4 : Hid (Below W.heap.size W W4) := HB.out.trans (hb4.mono HB.out.size)
              clear hfm hz hsem hflat hb4
              generalize (z' :: l'.flat).length = mn' at *
              go_wp2
              go_roundw
              case rel => exact ⟨j + 1, a', mn', c', z', l', by omega, by go_num, rfl, HSN.out, HB4.out⟩
              case measure => simp [intOf]; omega
            · obtain rfl : j = s := by omega
              have hrw := HR.out _ HB.out
              have hal := all9 ma mc z l nma nmc names ra rc rows
              have HVD : Hid (∀ i, i < rows.length → (verd names rows z l rows.length).getD i 0 = if (verd names rows yp kp rows.length).getD i 0 = 2 then 2 else if j ≤ i then (verd names rows yp kp rows.length).getD (i - j) 0 else 0) := fun i hi => shifts_verd names rows yp z kp l j rows.length i hi HSH.out.sem HSH.out.ex
              have hfm := HSH.out.fm
              have hmn := HSH.out.len
              have HAS : Hid (∀ X, Below wr.heap.size wr X → Calls Try.prog 13 #[.slice ma mn mc, .slice nma names.length nmc, .slice ra rows.length rc] X (AllSays X (faultE ((z :: l.flat).map (·.x))) (verd names rows z l rows.length))) := fun X hX => by
                rw [hmn]
                exact all9 ma mc z l nma nmc names ra rc rows X (hfm.below hX).nds hfm.fit hfm.ok (hrw.below hX)
              have HLA := HLN.out yp kp
              have HLS := HLN.out z l
              clear hrw hal hfm hmn HSH hlt
              generalize faultE ((yp :: kp.flat).map (·.x)) = fa at *
              generalize faultE ((z :: l.flat).map (·.x)) = fs at *
              generalize verd names rows yp kp rows.length = la at *
              generalize verd names rows z l rows.length = ls at *
              go_wp2_with fail
              refine Calls.mono (HAP.out _ HB.out) ?_
              rintro e W5 ⟨aa, an, ac, rfl, hb5, hs5⟩
              have HU5 : Hid (Below wr.heap.size wr W5) := hb5
              have HB5 : Hid (Below W.heap.size W W5) := HB.out.trans (hb5.mono HB.out.size)
              have HS5 : Hid (fa = 0 → an = la.length ∧ Own inC 3 1 W5 wr.heap.size (.slice aa an ac) la) := hs5
              clear hb5 hs5
              go_wp2_with fail
              refine Calls.mono (HAS.out _ HU5.out) ?_
              rintro e W6 ⟨sa, sn, sc, rfl, hb6, hs6⟩
              have HU6 : Hid (Below W5.heap.size W5 W6) := hb6
              have HB6 : Hid (Below W.heap.size W W6) := HB5.out.trans (hb6.mono HB5.out.size)
              have HS6 : Hid (fs = 0 → sn = ls.length ∧ Own inC 3 1 W6 W5.heap.size (.slice sa sn sc) ls) := hs6
              clear hb6 hs6
              by_cases hfa : fa = 0
              · by_cases hfs : fs = 0
                · subst hfa hfs
                  obtain ⟨e1, o1⟩ := HS6.out rfl
                  obtain ⟨e2, o2⟩ := HS5.out rfl
                  rw [HLS] at e1
                  rw [HLA] at e2
                  have HCS : Hid (∀ i, i < rows.length → ∃ g, sa = some ⟨g, 0, none⟩ ∧ W6.cell? ⟨g, i, none⟩ = some (.int .i64 (ls.getD i 0))) := fun i hi => by
                    obtain ⟨g, q1, q2⟩ := ver_cells o1 (by rw [e1, HLS]) i (by omega)
                    exact ⟨g, q1, q2 _ (Below.refl _ _)⟩
                  have HCA : Hid (∀ i, i < rows.length → ∃ g, aa = some ⟨g, 0, none⟩ ∧ W6.cell? ⟨g, i, none⟩ = some (.int .i64 (la.getD i 0))) := fun i hi => by
                    obtain ⟨g, q1, q2⟩ := ver_cells o2 (by rw [e2, HLA]) i (by omega)
                    exact ⟨g, q1, q2 _ HU6.out⟩
                  subst e1 e2
                  clear o1 o2 HLS HLA HS5 HS6
                  have hrl : rows.length ≤ 60 := by
                    unfold rowsB at hrb
                    simp only [Bool.and_eq_true, decide_eq_true_eq] at hrb
                    exact hrb.1.1
                  go_wp2_with fail
                  go_loopw [15] (fun i wr => ∃ k : Nat, k ≤ rows.length ∧ i = .int .i64 k ∧ wr = W6) (fun i _ => rows.length - (intOf i).toNat)
                  case atStart => exact ⟨0, Nat.zero_le _, rfl, rfl⟩
                  case round =>
                    obtain ⟨k, hk, rfl, rfl⟩ := hrel
                    by_cases hlt : k < rows.length
                    · obtain ⟨gs, rfl, cs⟩ := HCS.out k hlt
                      obtain ⟨ga, rfl, ca⟩ := HCA.out k hlt
                      have HVK : Hid _ := HVD.out k hlt
                      have HCA2 : Hid (j ≤ k → wr.cell? ⟨ga, k - j, none⟩ = some (.int .i64 (la.getD (k - j) 0))) := fun hjk => by
                        obtain ⟨g, e9, q⟩ := HCA.out (k - j) (by omega)
                        cases e9; exact q
                      generalize ls.getD k 0 = sv at *
                      generalize la.getD k 0 = av at *
                      by_cases hjk : j ≤ k
                      · obtain ⟨d, rfl⟩ : ∃ d, k = d + j := ⟨k - j, by omega⟩
                        have hx : ((d + j : Nat) : Int) - j = d := by omega
                        have ca2 := HCA2.out hjk
                        rw [show d + j - j = d by omega] at ca2 HVK
                        rw [if_pos hjk] at HVK
                        generalize la.getD d 0 = aw at *
                        cases ha2 : (av == 2) with
                        | true =>
                          have hs : sv = 2 := by have := HVK.out; rwa [if_pos (by simpa using ha2)] at this
                          rw [hs] at cs
                          clear hs HVK
                          go_wp2_with (first | rw [hx])
                          go_roundw
                          case rel => exact ⟨d + j + 1, by omega, by go_num, by trivial⟩
                          case measure => simp [intOf]; omega
                        | false =>
                          have hs : sv = aw := by have := HVK.out; rwa [if_neg (by simpa using ha2)] at this
                          rw [hs] at cs
                          clear hs HVK
                          go_wp2_with (first | rw [hx])
                          go_roundw
                          case rel => exact ⟨d + j + 1, by omega, by go_num, by trivial⟩
                          case measure => simp [intOf]; omega
                      · have hjk2 : ¬ (j : Int) ≤ k := by omega
                        rw [if_neg hjk] at HVK
                        cases ha2 : (av == 2) with
                        | true =>
                          have hs : sv = 2 := by have := HVK.out; rwa [if_pos (by simpa using ha2)] at this
                          rw [hs] at cs
                          clear hs HVK
                          go_wp2
                          go_roundw
                          case rel => exact ⟨k + 1, by omega, by go_num, by trivial⟩
                          case measure => simp [intOf]; omega
                        | false =>
                          have hs : sv = 0 := by have := HVK.out; rwa [if_neg (by simpa using ha2)] at this
                          rw [hs] at cs
                          clear hs HVK
                          go_wp2
                          go_roundw
                          case rel => exact ⟨k + 1, by omega, by go_num, by trivial⟩
                          case measure => simp [intOf]; omega
                    · have hkk : k = rows.length := by omega
                      clear hlt
                      subst hkk
                      go_wp2_with fail
                      refine Calls.mono (HAL.out _) ?_
                      rintro e W8 ⟨rfl, hb8⟩
                      go_wp2
                      go_ret
                      exact ⟨rfl, HB6.out.trans (hb8.mono HB6.out.size)⟩
                · have hfs2 : (fs != 0) = true := by simpa using hfs
                  subst hfa
                  clear hfs
                  go_wp2_with fail
                  refine Calls.mono (HAL.out _) ?_
                  rintro e W8 ⟨rfl, hb8⟩
                  go_wp2
                  go_ret
                  exact ⟨rfl, HB6.out.trans (hb8.mono HB6.out.size)⟩
              · have hfa2 : (fa != 0) = true := by simpa using hfa
                clear hfa
                go_wp2_with fail
                refine Calls.mono (HAL.out _) ?_
                rintro e W8 ⟨rfl, hb8⟩
                go_wp2
                go_ret
                exact ⟨rfl, HB6.out.trans (hb8.mono HB6.out.size)⟩
end Go.Proofs.Ytcpehjndpookiaa
