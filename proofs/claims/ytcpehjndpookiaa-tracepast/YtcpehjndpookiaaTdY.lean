/- TracePast: the walk. Conditions: none but what is known of what came in. -/
import Derived.Test.YtcpehjndpookiaaTdW
import Derived.Test.YtcpehjndpookiaaBz8
import Derived.Test.YtcpehjndpookiaaBz9
namespace Go.Proofs.Ytcpehjndpookiaa
open Go.RowKit
set_option linter.unusedVariables false
set_option maxRecDepth 100000

theorem light_at {W : World} {a : Option Addr} {cap : Nat} {ys : List NdV} (h : NdsIn W a cap ys) (hl : lightB (ys.map (·.x)) = true) : NdsAt W a cap ys ∧ ys.length ≤ 310 := by
  unfold lightB at hl
  simp only [Bool.and_eq_true, decide_eq_true_eq, List.all_eq_true, List.length_map] at hl
  refine ⟨known_at h.row h.known h.le h.nil (by omega) fun y hy => ?_, hl.1⟩
  have := hl.2 y.x (List.mem_map_of_mem hy)
  unfold lightN at this
  simp only [Bool.and_eq_true, decide_eq_true_eq] at this
  omega
theorem past_slice (a : Option Addr) (len cap k : Nat) (hk : k ≤ cap) (hm : cap ≤ maxLen) (W : World) :
    (Instr.slice 32 (.slice a len cap) none (some (.int .i64 (k : Int))) none).run Try.prog W = .ok (.slice a k cap) W := by
  have hsz : (sizeOf (Try.prog.elem 32)).run Try.prog W = .ok 1 W := by kernel_rfl
  rw [run_slice_h W 32 a len cap (by kernel_rfl) .i64 k (by omega) (by omega), hsz]
  show Result.ok (sliced a 0 k cap 1) W = _
  unfold sliced
  rw [show a.map (·.add (0 * 1)) = a by cases a <;> simp [Addr.add]]
  simp
set_option maxHeartbeats 16000000 in
theorem past_any (pa : Option Addr) (pc : Nat) (ys : List NdV) (nma : Option Addr) (nmc : Nat) (names : List ByteArray) (ra : Option Addr) (rc : Nat) (rows : List RwV) (ma : Option Addr) (mc : Nat) (more : List RwV) (W : World) (h1 : NdsIn W pa pc ys) (h3 : RwsIn W nma names ra rows) (h4 : RwsIn W nma names ma more) (hr0 : ra = none → rc = 0) (hm0 : ma = none → mc = 0) :
    Calls Try.prog 7 #[.slice pa ys.length pc, .slice nma names.length nmc, .slice ra rows.length rc, .slice ma more.length mc] W fun e W' => e = .returned (.bool true) ∧ Below W.heap.size W W' := by
  have HLI : Hid (∀ X, Below W.heap.size W X → Calls Try.prog 15 #[.slice pa ys.length pc] X fun e W' => e = .returned (.bool (lightB (ys.map (·.x)))) ∧ W' = X) := fun X hX => by
    have := light_any pa pc (ys.map (·.x)) X ((nodeRow_of h1.row h1.known).below hX) (by rw [List.length_map]; exact h1.len)
    rw [List.length_map] at this; exact this
  have HR1 : Hid (∀ X, Below W.heap.size W X → Calls Try.prog 10 #[.slice ra rows.length rc, .slice nma names.length nmc] X fun e W' => e = .returned (.bool (rowsB rows names.length)) ∧ W' = X) := fun X hX => rows_any ra nma rc nmc names.length rows X (h3.ro.below hX)
  have HR2 : Hid (∀ X, Below W.heap.size W X → Calls Try.prog 10 #[.slice ma more.length mc, .slice nma names.length nmc] X fun e W' => e = .returned (.bool (rowsB more names.length)) ∧ W' = X) := fun X hX => rows_any ma nma mc nmc names.length more X (h4.ro.below hX)
  have HAL : Hid (∀ X, Calls Try.prog 11 #[] X fun e W' => e = .returned (.bool true) ∧ Below X.heap.size X W') := alive9_any
  have HB0 : Hid (Below W.heap.size W W) := Below.refl _ _
  have hys := h1.len
  cases hv1 : lightB (ys.map (·.x)) with
  | false =>
    rw [hv1] at HLI
    clear h1 h3 h4 HR1 HR2
    go_enter Try.func7, Try.ntmps7
    go_wp2_with fail
    refine Calls.mono (HLI.out _ (Below.refl _ _)) ?_
    rintro e W9 ⟨rfl, hw9⟩
    subst W9
    go_wp2_with fail
    refine Calls.mono (HAL.out _) ?_
    rintro e W3 ⟨rfl, hb3⟩
    go_wp2
    go_ret
    exact ⟨rfl, HB0.out.trans (hb3.mono HB0.out.size)⟩
  | true =>
    rw [hv1] at HLI
    cases hrb : rowsB rows names.length with
    | false =>
      rw [hrb] at HR1
      clear h1 h3 h4 HR2
      go_enter Try.func7, Try.ntmps7
      go_wp2_with fail
      refine Calls.mono (HLI.out _ (Below.refl _ _)) ?_
      rintro e W9 ⟨rfl, hw9⟩
      subst W9
      go_wp2_with fail
      refine Calls.mono (HR1.out _ (Below.refl _ _)) ?_
      rintro e W9 ⟨rfl, hw9⟩
      subst W9
      go_wp2_with fail
      refine Calls.mono (HAL.out _) ?_
      rintro e W3 ⟨rfl, hb3⟩
      go_wp2
      go_ret
      exact ⟨rfl, HB0.out.trans (hb3.mono HB0.out.size)⟩
    | true =>
      rw [hrb] at HR1
      cases hrb2 : rowsB more names.length with
      | false =>
        rw [hrb2] at HR2
        clear h1 h3 h4
        go_enter Try.func7, Try.ntmps7
        go_wp2_with fail
        refine Calls.mono (HLI.out _ (Below.refl _ _)) ?_
        rintro e W9 ⟨rfl, hw9⟩
        subst W9
        go_wp2_with fail
        refine Calls.mono (HR1.out _ (Below.refl _ _)) ?_
        rintro e W9 ⟨rfl, hw9⟩
        subst W9
        go_wp2_with fail
        refine Calls.mono (HR2.out _ (Below.refl _ _)) ?_
        rintro e W9 ⟨rfl, hw9⟩
        subst W9
        go_wp2_with fail
        refine Calls.mono (HAL.out _) ?_
        rintro e W3 ⟨rfl, hb3⟩
        go_wp2
        go_ret
        exact ⟨rfl, HB0.out.trans (hb3.mono HB0.out.size)⟩
      | true =>
        rw [hrb2] at HR2
        have hrws := h3.few hrb
        have hmws := h4.few hrb2
        have hl60 : rows.length ≤ 60 ∧ more.length ≤ 60 := by
          unfold rowsB at hrb hrb2
          simp only [Bool.and_eq_true, decide_eq_true_eq] at hrb hrb2
          exact ⟨hrb.1.1, hrb2.1.1⟩
        obtain ⟨hnds, hl310⟩ := light_at h1 hv1
        have hfit := known_fit h1.known
        have HAPP : Hid (∀ X, Below W.heap.size W X → ∃ v1 X1 va n c X2, (Builtin.append_ #[24, 24] 24 #[.slice none 0 0, .slice ra rows.length rc]).run Try.prog X = .ok v1 X1 ∧ (Builtin.append_ #[24, 24] 24 #[v1, .slice ma more.length mc]).run Try.prog X1 = .ok (.slice va n c) X2 ∧ n = (rows ++ more).length ∧ RoRow X2 va (rows ++ more) ∧ Below X.heap.size X X2) := fun X hX => rows_appended (hrws.ro.below hX) (hmws.ro.below hX) hr0 hm0 (by omega) (by omega)
        by_cases hfe : faultE (ys.map (·.x)) = 0
        · obtain ⟨y, k, rfl, hok⟩ := tree_of hfe h1.known
          have HA1 : Hid (∀ X, Below W.heap.size W X → Calls Try.prog 13 #[.slice pa (y :: k.flat).length pc, .slice nma names.length nmc, .slice ra rows.length rc] X (AllTells X (verd names rows y k rows.length))) := fun X hX =>
            all_good9 pa pc y k nma nmc names ra rc rows X (hnds.below hX) hfit hok (hrws.below hX) hfe
          have HA2 : Hid (∀ X va c, Below W.heap.size W X → RoRow X va (rows ++ more) → Calls Try.prog 13 #[.slice pa (y :: k.flat).length pc, .slice nma names.length nmc, .slice va (rows ++ more).length c] X (AllTells X (verd names (rows ++ more) y k (rows ++ more).length))) := fun X va c hX hro =>
            all_good9 pa pc y k nma nmc names va c (rows ++ more) X (hnds.below hX) hfit hok ⟨(hrws.below hX).nm, hrws.ns, hro, fun r hr => (List.mem_append.1 hr).elim (hrws.b64 r) (hmws.b64 r), hrws.nl, by rw [List.length_append]; omega⟩ hfe
          have HLC : Hid (∀ i, i < rows.length → (verd names (rows ++ more) y k (rows ++ more).length).getD i 0 = (verd names rows y k rows.length).getD i 0) := fun i hi => verd_local names rows more y k _ i hi (by rw [List.length_append]; omega)
          have HRG : Hid (∀ i, i < (rows ++ more).length → 0 ≤ (verd names (rows ++ more) y k (rows ++ more).length).getD i 0 ∧ (verd names (rows ++ more) y k (rows ++ more).length).getD i 0 ≤ 2) := fun i hi => verd_range names (rows ++ more) y k _ i hi
          have HST : Hid (∀ i, i + 1 < (rows ++ more).length → (verd names (rows ++ more) y k (rows ++ more).length).getD i 0 = 2 → (verd names (rows ++ more) y k (rows ++ more).length).getD (i + 1) 0 = 2) := fun i hi => verd_sticks names (rows ++ more) y k _ i hi
          have HL1 : Hid ((verd names rows y k rows.length).length = rows.length) := by show _ = _; unfold verd; simp
          have HL2 : Hid ((verd names (rows ++ more) y k (rows ++ more).length).length = (rows ++ more).length) := by show _ = _; unfold verd; simp
          have HSUM : Hid ((rows ++ more).length = rows.length + more.length) := List.length_append
          clear h1 h3 h4 hv1 hrb hrb2 hfe hnds hfit hok hrws hmws
          generalize (y :: k.flat).length = np at *
          generalize verd names rows y k rows.length = ll at *
          generalize verd names (rows ++ more) y k (rows ++ more).length = ml at *
          go_enter Try.func7, Try.ntmps7
          go_wp2_with fail
          refine Calls.mono (HLI.out _ (Below.refl _ _)) ?_
          rintro e W9 ⟨rfl, hw9⟩
          subst W9
          go_wp2_with fail
          refine Calls.mono (HR1.out _ (Below.refl _ _)) ?_
          rintro e W9 ⟨rfl, hw9⟩
          subst W9
          go_wp2_with fail
          refine Calls.mono (HR2.out _ (Below.refl _ _)) ?_
          rintro e W9 ⟨rfl, hw9⟩
          subst W9
          go_wp2_with fail
          refine Calls.mono (HA1.out _ (Below.refl _ _)) ?_
          rintro e W5 ⟨la, lc, rfl, ho5, hb5⟩
          have HB5 : Hid (Below W.heap.size W W5) := hb5
          have HO5 : Hid (Own inC 3 1 W5 W.heap.size (.slice la ll.length lc) ll) := ho5
          clear hb5 ho5
          obtain ⟨v1, X1, va, n9, c9, X2, hr1, hr2, hn9, hro2, hb6⟩ := HAPP.out _ HB5.out
          have HB6 : Hid (Below W.heap.size W X2) := HB5.out.trans (hb6.mono HB5.out.size)
          have HU6 : Hid (Below W5.heap.size W5 X2) := hb6
          have hcall := HA2.out X2 va c9 HB6.out hro2
          rw [← hn9] at hcall
          have HCALL : Hid _ := hcall
          have HN9 : Hid (n9 = (rows ++ more).length) := hn9
          clear hcall hro2 hb6 hn9
          go_wp2_with (at_builtin; first | refine append_runO (by rfl) _ _ (by rfl) (by rfl) _ _ _ _ (by rfl) (by rfl) hr1 ?_ | refine append_runO (by rfl) _ _ (by rfl) (by rfl) _ _ _ _ (by rfl) (by rfl) hr2 ?_)
          refine Calls.mono HCALL.out ?_
          rintro e W7 ⟨ba, bc, rfl, ho7, hb7⟩
          have HB7 : Hid (Below W.heap.size W W7) := HB6.out.trans (hb7.mono HB6.out.size)
          have HU7 : Hid (Below W5.heap.size W5 W7) := HU6.out.trans (hb7.mono HU6.out.size)
          have HO7 : Hid (Own inC 3 1 W7 X2.heap.size (.slice ba ml.length bc) ml) := ho7
          clear hb7 ho7 hr1 hr2
          obtain ⟨_, q2, q3, _⟩ := Own.room inC_len 0 HO7.out
          have HROOM : Hid (ml.length ≤ bc ∧ bc ≤ 9223372036854775807) := by
            obtain ⟨_, z1, z2, z3⟩ := Own.room inC_len 0 HO7.out
            exact ⟨by omega, by unfold maxLen at z3; omega⟩
          have HCM : Hid (∀ i, i < ml.length → ∃ g, ba = some ⟨g, 0, none⟩ ∧ ∀ Y, Below W7.heap.size W7 Y → Y.cell? ⟨g, i, none⟩ = some (.int .i64 (ml.getD i 0))) := fun i hi => ver_cells HO7.out rfl i hi
          have HCL : Hid (∀ i, i < ll.length → ∃ g, la = some ⟨g, 0, none⟩ ∧ ∀ Y, Below W5.heap.size W5 Y → Y.cell? ⟨g, i, none⟩ = some (.int .i64 (ll.getD i 0))) := fun i hi => ver_cells HO5.out rfl i hi
          have HLE : Hid (ll.length = rows.length ∧ ml.length = rows.length + more.length) := ⟨HL1.out, HL2.out.trans HSUM.out⟩
          have HLC2 : Hid (∀ i, i < ll.length → ml.getD i 0 = ll.getD i 0) := fun i hi => HLC.out i (by rw [← HL1.out]; exact hi)
          have HRG2 : Hid (∀ i, i < ml.length → 0 ≤ ml.getD i 0 ∧ ml.getD i 0 ≤ 2) := fun i hi => HRG.out i (by rw [← HL2.out]; exact hi)
          have HST2 : Hid (∀ i, i + 1 < ml.length → ml.getD i 0 = 2 → ml.getD (i + 1) 0 = 2) := fun i hi => HST.out i (by rw [← HL2.out]; exact hi)
          have HSA : Hid (∀ X, Below W7.heap.size W7 X → Calls Try.prog 14 #[.slice ba ll.length bc, .slice la ll.length lc] X fun e W' => e = .returned (.bool true) ∧ Below X.heap.size X W') := fun X hX => by
            have h310 := HLE.out
            refine same9_any ba la bc lc ll X (fun i hi => ?_) (fun i hi => ?_) (by omega)
            · obtain ⟨g, e, q⟩ := HCM.out i (by omega)
              exact ⟨g, 0, e, by rw [Nat.zero_add, q X hX, HLC2.out i hi]⟩
            · obtain ⟨g, e, q⟩ := HCL.out i hi
              exact ⟨g, 0, e, by rw [Nat.zero_add, q X (HU7.out.trans (hX.mono HU7.out.size))]⟩
          clear HLC HRG HST HL1 HL2 HSUM HO5 HO7 HA1 HA2 HAPP HU6 HCALL HN9 HCL HLC2 q2 q3
          generalize ll.length = n1 at *
          generalize ml.length = n2 at *
          have hn12 : (n2 : Int) = (rows.length : Int) + (more.length : Int) := by have := HLE.out.2; omega
          have hle2 : ((n2 : Int) == (rows.length : Int) + (more.length : Int)) = true := by simpa using hn12
          have HN2 : Hid (n2 ≤ 200) := by have := HLE.out.2; show _ ≤ _; omega
          have hn200 := HN2.out
          have hsl : ∀ X, (Instr.slice 32 (.slice ba n2 bc) none (some (.int .i64 (min (n2 : Int) (n1 : Int)))) none).run Try.prog X = .ok (.slice ba n1 bc) X := fun X => by
            rw [show min (n2 : Int) (n1 : Int) = ((n1 : Nat) : Int) by have := HLE.out; omega]
            exact past_slice ba n2 bc n1 (by have := HLE.out; have := HROOM.out; omega) (by unfold maxLen; exact HROOM.out.2) X
          clear hn12
          go_wp2_with fail
          go_loopw [13, 14] (fun ov i wr => ∃ (k : Nat) (b : Bool), k ≤ n2 ∧ i = .int .i64 k ∧ ov = .bool b ∧ wr = W7 ∧ (b = true → 0 < k ∧ ml.getD (k - 1) 0 = 2)) (fun _ i _ => n2 - (intOf i).toNat)
          case atStart => exact ⟨0, false, Nat.zero_le _, rfl, rfl, rfl, fun h => (by cases h)⟩
          case round =>
            obtain ⟨k, b, hk, rfl, rfl, rfl, hbk⟩ := hrel
            have HBK : Hid (b = true → 0 < k ∧ ml.getD (k - 1) 0 = 2) := hbk
            clear hbk
            by_cases hlt : k < n2
            · obtain ⟨g, rfl, hc⟩ := HCM.out k hlt
              have cm := hc _ (Below.refl _ _)
              obtain ⟨r0, r2⟩ := HRG2.out k hlt
              have HV2 : Hid (b = true → ml.getD k 0 = 2) := fun hb => by
                obtain ⟨z1, z2⟩ := HBK.out hb
                have := HST2.out (k - 1) (by omega) z2
                rwa [show k - 1 + 1 = k by omega] at this
              have HNX : Hid ((ml.getD k 0 == 2) = true → 0 < k + 1 ∧ ml.getD (k + 1 - 1) 0 = 2) := fun h => ⟨by omega, by simpa using h⟩
              clear hc
              generalize ml.getD k 0 = v at *
              have r2b : ¬ 2 < v := by omega
              have r0b : ¬ v < 0 := by omega
              cases b with
              | true =>
                have hv2 : (v == 2) = true := by have := HV2.out rfl; simpa using this
                have hv3 : (v != 2) = false := by have := HV2.out rfl; simpa using this
                go_wp2
                go_roundw
                case rel => exact ⟨k + 1, true, by omega, by go_num, rfl, by trivial, fun _ => HNX.out hv2⟩
                case measure => simp [intOf]; omega
              | false =>
                go_wp2
                go_roundw
                case rel => exact ⟨k + 1, v == 2, by omega, by go_num, rfl, by trivial, HNX.out⟩
                case measure => simp [intOf]; omega
            · have hkk : k = n2 := by omega
              clear hlt
              subst hkk
              go_wp2_with fail
              refine Calls.mono (HAL.out _) ?_
              rintro e W8 ⟨rfl, hb8⟩
              have HB8 : Hid (Below W.heap.size W W8) := HB7.out.trans (hb8.mono HB7.out.size)
              have HS8 : Hid _ := HSA.out _ hb8
              clear hb8
              go_wp2_with fail
              refine Calls.mono HS8.out ?_
              rintro e W9 ⟨rfl, hb9⟩
              go_wp2
              go_ret
              exact ⟨rfl, HB8.out.trans (hb9.mono HB8.out.size)⟩
        · have HA1 : Hid (∀ X nv rv, Below W.heap.size W X → Calls Try.prog 13 #[.slice pa ys.length pc, nv, rv] X fun e W' => e = .returned (.tuple #[.slice none 0 0, .int .i64 (faultE (ys.map (·.x)))]) ∧ Below X.heap.size X W') := fun X nv rv hX => all_bad9 pa pc ys nv rv X (hnds.below hX) hfit hfe
          have hfe2 : (faultE (ys.map (·.x)) != 0) = true := by simpa using hfe
          clear h1 h3 h4 hv1 hrb hrb2 hfe hnds hfit hrws hmws
          generalize faultE (ys.map (·.x)) = fe at *
          generalize ys.length = np at *
          go_enter Try.func7, Try.ntmps7
          go_wp2_with fail
          refine Calls.mono (HLI.out _ (Below.refl _ _)) ?_
          rintro e W9 ⟨rfl, hw9⟩
          subst W9
          go_wp2_with fail
          refine Calls.mono (HR1.out _ (Below.refl _ _)) ?_
          rintro e W9 ⟨rfl, hw9⟩
          subst W9
          go_wp2_with fail
          refine Calls.mono (HR2.out _ (Below.refl _ _)) ?_
          rintro e W9 ⟨rfl, hw9⟩
          subst W9
          go_wp2_with fail
          refine Calls.mono (HA1.out _ _ _ (Below.refl _ _)) ?_
          rintro e W5 ⟨rfl, hb5⟩
          have HB5 : Hid (Below W.heap.size W W5) := hb5
          clear hb5
          obtain ⟨v1, X1, va, n9, c9, X2, hr1, hr2, _, _, hb6⟩ := HAPP.out _ HB5.out
          have HB6 : Hid (Below W.heap.size W X2) := HB5.out.trans (hb6.mono HB5.out.size)
          clear hb6
          go_wp2_with (at_builtin; first | refine append_runO (by rfl) _ _ (by rfl) (by rfl) _ _ _ _ (by rfl) (by rfl) hr1 ?_ | refine append_runO (by rfl) _ _ (by rfl) (by rfl) _ _ _ _ (by rfl) (by rfl) hr2 ?_)
          refine Calls.mono (HA1.out _ _ _ HB6.out) ?_
          rintro e W7 ⟨rfl, hb7⟩
          have HB7 : Hid (Below W.heap.size W W7) := HB6.out.trans (hb7.mono HB6.out.size)
          clear hb7 hr1 hr2
          go_wp2_with fail
          refine Calls.mono (HAL.out _) ?_
          rintro e W8 ⟨rfl, hb8⟩
          go_wp2
          go_ret
          exact ⟨rfl, HB7.out.trans (hb8.mono HB7.out.size)⟩
end Go.Proofs.Ytcpehjndpookiaa
