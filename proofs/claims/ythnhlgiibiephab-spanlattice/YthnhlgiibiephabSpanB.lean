/- The contracts of span's Of, Join, Meet, Wide. Conditions: at most 400000 spans; the numbers' own ranges. -/
import Derived.Test.YthnhlgiibiephabSpanL
import Derived.Test.YthnhlgiibiephabPickB
import Derived.Deep.RegionHeld3
namespace Go.Proofs.Ythnhlgiibiephab
open Go.RowKit
set_option linter.unusedVariables false
set_option maxRecDepth 100000

/-- The least span of some numbers. -/
def ofLo (zs : List Int) : Int := if zs.length = 0 then 0 else Lib.minOf zs
def ofHi (zs : List Int) : Int := if zs.length = 0 then -1 else Lib.maxOf zs
set_option maxHeartbeats 1000000 in
theorem sof_any (a : Option Addr) (zs : List Int) (cap : Nat) (w : World) (h : IntRow w a zs) (hl : zs.length ≤ 9223372036854775807) :
    Calls Try.prog 36 #[.slice a zs.length cap] w fun e w' => e = .returned ((.agg #[.int .i64 (ofLo zs), .int .i64 (ofHi zs)])) ∧ Below w.heap.size w w' := by
  by_cases h0 : zs.length = 0
  · have HL : Hid (ofLo zs = 0 ∧ ofHi zs = -1) := ⟨by simp [ofLo, h0], by simp [ofHi, h0]⟩
    obtain rfl : zs = [] := List.length_eq_zero_iff.1 h0
    clear h h0
    rw [HL.out.1, HL.out.2]
    clear HL
    go_enter Try.func36, Try.ntmps36
    go_wp2_with fail
    refine Calls.mono (snone_any _) ?_
    rintro e w1 ⟨rfl, hb⟩
    obtain ⟨hc, hf⟩ := bcell hb
    have hz := hb.size
    simp at hz
    have HB : Hid (Below w.heap.size w w1) := ((Below.refl _ w).alloc (Nat.le_refl _) _).trans (hb.mono (by simp))
    clear hb
    go_wp2
    exact bodyPost_ret (v := (.agg #[.int .i64 (0), .int .i64 (-1)])) (by simp [results, Try.results36, go_sem, hc]) rfl ⟨rfl, below_set (below_set HB.out _ _ _ (by omega)) _ _ _ (by omega)⟩
  · have HL : Hid (ofLo zs = Lib.minOf zs ∧ ofHi zs = Lib.maxOf zs) := ⟨by simp [ofLo, h0], by simp [ofHi, h0]⟩
    have hne : ((zs.length : Int) == 0) = false := by rw [beq_eq_false_iff_ne]; omega
    have HR : Hid (∀ o, IntRow (w.alloc o) a zs) := fun o => h.stays ((Below.refl _ w).alloc (Nat.le_refl _) o) (Nat.le_refl _)
    clear h h0
    rw [HL.out.1, HL.out.2]
    clear HL
    go_enter Try.func36, Try.ntmps36
    go_wp2_with fail
    refine Calls.mono (min_any _ _ _ _ (HR.out _) hl) ?_
    rintro e w1 ⟨rfl, hw⟩
    subst hw
    go_wp2_with fail
    refine Calls.mono (max_any _ _ _ _ (HR.out _) hl) ?_
    rintro e w1 ⟨rfl, hw⟩
    subst hw
    go_wp2
    exact bodyPost_ret (v := (.agg #[.int .i64 (Lib.minOf zs), .int .i64 (Lib.maxOf zs)])) (by simp [results, Try.results36, go_sem]) rfl ⟨rfl, by first | exact (Below.refl _ _).alloc (Nat.le_refl _) _ | exact below_set (below_set ((Below.refl _ _).alloc (Nat.le_refl _) _) _ _ _ (by omega)) _ _ _ (by omega)⟩

theorem own_any {W : World} {B : Nat} {v : Value} {xs : List Int} (h : W.ownsRow B 3 1 v xs.length (intCells xs)) : ∃ a cap, v = .slice a xs.length cap ∧ IntRow W a xs := by
  by_cases h0 : xs.length = 0
  · rcases h.2 with ⟨rfl, h2⟩ | ⟨g, cap, cur, rfl, _⟩
    · exact ⟨none, 0, by rw [h0], fun i hi => by omega⟩
    · exact ⟨_, cap, rfl, fun i hi => by omega⟩
  · obtain ⟨g, cap, rfl, _, _, hr⟩ := own_slice h (by omega)
    exact ⟨_, cap, rfl, hr⟩
/-- The ends of those that are not empty. -/
def endsL (ss : List (Int × Int)) : List Int := ss.flatMap fun s => if s.2 < s.1 then [] else [s.1, s.2]
theorem endsL_take (ss : List (Int × Int)) (k : Nat) (h : k < ss.length) : endsL (ss.take (k + 1)) = endsL (ss.take k) ++ (if (ss.getD k (0, 0)).2 < (ss.getD k (0, 0)).1 then [] else [(ss.getD k (0, 0)).1, (ss.getD k (0, 0)).2]) := by
  unfold endsL
  rw [List.take_succ_eq_append_getElem h, List.flatMap_append]
  simp [List.getD_eq_getElem?_getD, List.getElem?_eq_getElem h]
theorem endsL_len (ss : List (Int × Int)) : (endsL ss).length ≤ 2 * ss.length := by
  induction ss with
  | nil => simp [endsL]
  | cons s ss ih =>
    unfold endsL at *
    rw [List.flatMap_cons, List.length_append, List.length_cons]
    split <;> simp only [List.length_nil, List.length_cons] <;> omega
set_option maxHeartbeats 1000000 in
theorem sjoin_any (a : Option Addr) (ss : List (Int × Int)) (cap : Nat) (w : World) (h : SpanRow w a ss) (hl : ss.length ≤ 400000) :
    Calls Try.prog 22 #[.slice a ss.length cap] w fun e w' => e = .returned ((.agg #[.int .i64 (ofLo (endsL ss)), .int .i64 (ofHi (endsL ss))])) ∧ Below w.heap.size w w' := by
  have HR : Hid (SpanRow w a ss) := h
  have HB0 : Hid (Below w.heap.size w (w.alloc (.cells #[.int .i64 0, .int .i64 0] 23))) := (Below.refl _ w).alloc (Nat.le_refl _) _
  have HC0 : Hid (∀ o, o < 2 → (w.alloc (.cells #[.int .i64 0, .int .i64 0] 23)).cell? ⟨w.heap.size, o, none⟩ = some (.int .i64 0) ∧ (w.alloc (.cells #[.int .i64 0, .int .i64 0] 23)).frozen? ⟨w.heap.size, o, none⟩ = false) := by
    intro o ho
    match o, ho with
    | 0, _ => simp
    | 1, _ => simp
  clear h
  go_enter Try.func22, Try.ntmps22
  go_wp2
  go_loopw [3, 8] (fun v i wr => ∃ k : Nat, k ≤ ss.length ∧ i = .int .i64 k ∧ wr.ownsRow (w.heap.size + 1) 3 1 v (endsL (ss.take k)).length (intCells (endsL (ss.take k))) ∧ Below (w.heap.size + 1) (w.alloc (.cells #[.int .i64 0, .int .i64 0] 23)) wr) (fun _ i _ => ss.length - (intOf i).toNat)
  case atStart => exact ⟨0, Nat.zero_le _, rfl, World.ownsRow_nil _ _ _ _, Below.refl _ _⟩
  case round =>
    obtain ⟨k, hk, rfl, hown, hbel⟩ := hrel
    have HOr : Hid (wr.ownsRow (w.heap.size + 1) 3 1 u3 (endsL (ss.take k)).length (intCells (endsL (ss.take k)))) := hown
    have HB : Hid (Below (w.heap.size + 1) (w.alloc (.cells #[.int .i64 0, .int .i64 0] 23)) wr) := hbel
    have HRr : Hid (SpanRow wr a ss) := (HR.out.stays HB0.out (Nat.le_refl _)).stays hbel (by simp)
    have hzr : w.heap.size + 1 ≤ wr.heap.size := by have := hbel.size; simpa using this
    clear hown hbel
    by_cases hlt : k < ss.length
    · obtain ⟨b, off, rfl, hc, hd⟩ := HRr.out k hlt
      have HT : Hid (endsL (ss.take (k + 1)) = endsL (ss.take k) ++ (if (ss.getD k (0, 0)).2 < (ss.getD k (0, 0)).1 then [] else [(ss.getD k (0, 0)).1, (ss.getD k (0, 0)).2])) := endsL_take ss k hlt
      have HLn : Hid ((endsL (ss.take k)).length ≤ 2 * (ss.take k).length) := endsL_len _
      have HLk : (ss.take k).length ≤ k := List.length_take_le _ _
      generalize (ss.getD k (0, 0)).1 = lo at *
      generalize (ss.getD k (0, 0)).2 = hi at *
      by_cases he : hi < lo
      · have HE : Hid (endsL (ss.take (k + 1)) = endsL (ss.take k)) := by
          show _ = _
          rw [HT.out, if_pos he, List.append_nil]
        go_wp2_with fail
        refine Calls.mono (sempty_any _ _ true _ (by simp; omega)) ?_
        rintro e w1 ⟨rfl, hb⟩
        have HB1 : Hid (Below wr.heap.size wr w1) := ((Below.refl _ wr).alloc (Nat.le_refl _) _).trans (hb.mono (by simp))
        clear hb
        go_wp2
        go_roundw
        case rel => exact ⟨k + 1, by omega, by go_num, by rw [HE.out]; exact owns_below HOr.out HB1.out, HB.out.trans (HB1.out.mono hzr)⟩
        case measure => simp [intOf]; omega
      · have HE : Hid (endsL (ss.take (k + 1)) = endsL (ss.take k) ++ [lo, hi]) := by
          show _ = _
          rw [HT.out, if_neg he]
        go_wp2_with fail
        refine Calls.mono (sempty_any _ _ false _ (by simp; omega)) ?_
        rintro e w1 ⟨rfl, hb⟩
        obtain ⟨hc1, hf1⟩ := bcell hb
        have HB1 : Hid (Below wr.heap.size wr w1) := ((Below.refl _ wr).alloc (Nat.le_refl _) _).trans (hb.mono (by simp))
        obtain ⟨v', w', hr, ho, hbl⟩ := append_pair w1 (w.heap.size + 1) u3 (endsL (ss.take k)) lo hi _ rfl (owns_below HOr.out HB1.out) (by have := HLn.out; omega) (by have := HB1.out.size; omega)
        have HR3 : Hid ((Builtin.append_ #[51, 51] 51 #[u3, .slice (some ⟨w1.heap.size, 0, none⟩) 2 2]).run Try.prog (w1.alloc (.cells #[.int .i64 lo, .int .i64 hi] 3)) = .ok v' w') := hr
        have HO3 : Hid (w'.ownsRow (w.heap.size + 1) 3 1 v' (endsL (ss.take (k + 1))).length (intCells (endsL (ss.take (k + 1))))) := by rw [HE.out]; exact ho
        have HB3 : Hid (Below (w.heap.size + 1) (w.alloc (.cells #[.int .i64 0, .int .i64 0] 23)) w') := (HB.out.trans (HB1.out.mono hzr)).trans hbl
        clear hr ho hbl hb HB1
        go_wp2_with (at_builtin; go_must (refine append_run (by rfl) _ _ (by rfl) (by rfl) _ _ _ _ (by rfl) (by rfl) HR3.out ?_))
        go_roundw
        case rel => exact ⟨k + 1, by omega, by go_num, HO3.out, HB3.out⟩
        case measure => simp [intOf]; omega
    · have HE : Hid (wr.ownsRow (w.heap.size + 1) 3 1 u3 (endsL ss).length (intCells (endsL ss))) := by
        have := HOr.out
        rw [List.take_of_length_le (by omega)] at this; exact this
      obtain ⟨a', cap', hv, hrow⟩ := own_any HE.out
      have HV : Hid (IntRow wr a' (endsL ss)) := hrow
      have hln := endsL_len ss
      have hca := (HB.out.cell (p := ⟨w.heap.size, 0, none⟩) (by simp)).trans (HC0.out 0 (by omega)).1
      have hcb := (HB.out.cell (p := ⟨w.heap.size, 1, none⟩) (by simp)).trans (HC0.out 1 (by omega)).1
      have hfa := (HB.out.frozen (p := ⟨w.heap.size, 0, none⟩) (by simp)).trans (HC0.out 0 (by omega)).2
      have hfb := (HB.out.frozen (p := ⟨w.heap.size, 1, none⟩) (by simp)).trans (HC0.out 1 (by omega)).2
      rw [hv]
      clear hv hrow HOr HE HRr
      go_wp2_with fail
      refine Calls.mono (sof_any _ _ _ _ HV.out (by omega)) ?_
      rintro e w1 ⟨rfl, hb⟩
      have hca1 := (hb.cell (p := ⟨w.heap.size, 0, none⟩) (by show w.heap.size < _; omega)).trans hca
      have hcb1 := (hb.cell (p := ⟨w.heap.size, 1, none⟩) (by show w.heap.size < _; omega)).trans hcb
      have hfa1 := (hb.frozen (p := ⟨w.heap.size, 0, none⟩) (by show w.heap.size < _; omega)).trans hfa
      have hfb1 := (hb.frozen (p := ⟨w.heap.size, 1, none⟩) (by show w.heap.size < _; omega)).trans hfb
      have HB1 : Hid (Below w.heap.size w w1) := (HB0.out.trans (HB.out.mono (by omega))).trans (hb.mono (by omega))
      clear hb hca hcb hfa hfb HB HV
      go_wp2
      exact bodyPost_ret (v := (.agg #[.int .i64 (ofLo (endsL ss)), .int .i64 (ofHi (endsL ss))])) (by simp [results, Try.results22, go_sem, hca1, hcb1]) rfl ⟨rfl, below_set (below_set HB1.out _ _ _ (by omega)) _ _ _ (by omega)⟩

/-- What is in all. -/
def meetLo (ss : List (Int × Int)) : Int := Lib.maxOf (ss.map Prod.fst ++ [-9223372036854775808])
def meetHi (ss : List (Int × Int)) : Int := Lib.minOf (ss.map Prod.snd ++ [9223372036854775807])
set_option maxHeartbeats 1000000 in
theorem smeet_run (a : Option Addr) (ss : List (Int × Int)) (cap : Nat) (w : World) (h : SpanRow w a ss) (hl : ss.length ≤ 400000) (tl th : Int)
    (ht : ∀ w, Calls Try.prog 37 #[(.agg #[.int .i64 (meetLo ss), .int .i64 (meetHi ss)])] w fun e w' => e = .returned ((.agg #[.int .i64 tl, .int .i64 th])) ∧ Below w.heap.size w w') :
    Calls Try.prog 23 #[.slice a ss.length cap] w fun e w' => e = .returned ((.agg #[.int .i64 tl, .int .i64 th])) ∧ Below w.heap.size w w' := by
  have HR : Hid (SpanRow w a ss) := h
  have HT : Hid (∀ w, Calls Try.prog 37 #[(.agg #[.int .i64 (meetLo ss), .int .i64 (meetHi ss)])] w fun e w' => e = .returned ((.agg #[.int .i64 tl, .int .i64 th])) ∧ Below w.heap.size w w') := ht
  have HL : Hid (ss.length ≤ 400000) := hl
  clear h ht
  go_enter Try.func23, Try.ntmps23
  go_wp2_with fail
  have HB0 : Hid (Below w.heap.size w (w.alloc (.cells #[.int .i64 0, .int .i64 0] 23))) := (Below.refl _ w).alloc (Nat.le_refl _) _
  refine Calls.mono (lows_any _ _ _ _ (HR.out.stays HB0.out (Nat.le_refl _)) (by omega)) ?_
  rintro e w1 ⟨v1, rfl, ho1, hb1⟩
  obtain ⟨v2, w2, hr2, ho2, hb2⟩ := append_one w1 _ v1 _ (-9223372036854775808) _ rfl ho1 (by simp; omega) hb1.size
  have HR2 : Hid ((Builtin.append_ #[51, 51] 51 #[v1, .slice (some ⟨w1.heap.size, 0, none⟩) 1 1]).run Try.prog (w1.alloc (.cells #[.int .i64 (-9223372036854775808)] 3)) = .ok v2 w2) := hr2
  have B2 := hb1.trans hb2
  have HB2 : Hid (Below w.heap.size w w2) := HB0.out.trans (B2.mono (by simp))
  have HS2 : Hid (SpanRow w2 a ss) := HR.out.stays HB2.out (Nat.le_refl _)
  have HC2 : Hid (Below (w.heap.size + 1) (w.alloc (.cells #[.int .i64 0, .int .i64 0] 23)) w2) := by simpa [Hid] using B2
  have HO2 : Hid (w2.ownsRow (w.heap.size + 1) 3 1 v2 (ss.map Prod.fst ++ [-9223372036854775808]).length (intCells (ss.map Prod.fst ++ [-9223372036854775808]))) := by simpa [Hid] using ho2
  clear hr2 ho1 hb1 ho2 hb2 B2
  go_wp2_with (at_builtin; go_must (refine append_run (by rfl) _ _ (by rfl) (by rfl) _ _ _ _ (by rfl) (by rfl) HR2.out ?_))
  refine Calls.mono (highs_any _ _ _ _ HS2.out (by have := HL.out; omega)) ?_
  rintro e w3 ⟨v3, rfl, ho3, hb3⟩
  obtain ⟨v4, w4, hr4, ho4, hb4⟩ := append_one w3 _ v3 _ 9223372036854775807 _ rfl ho3 (by have := HL.out; simp; omega) hb3.size
  have HR4 : Hid ((Builtin.append_ #[51, 51] 51 #[v3, .slice (some ⟨w3.heap.size, 0, none⟩) 1 1]).run Try.prog (w3.alloc (.cells #[.int .i64 9223372036854775807] 3)) = .ok v4 w4) := hr4
  have B4 := hb3.trans hb4
  have HB4 : Hid (Below w.heap.size w w4) := HB2.out.trans (B4.mono HB2.out.size)
  have hz2 : w.heap.size + 1 ≤ w2.heap.size := by have := HC2.out.size; simpa using this
  have HC4 : Hid (Below (w.heap.size + 1) (w.alloc (.cells #[.int .i64 0, .int .i64 0] 23)) w4) := HC2.out.trans (B4.mono hz2)
  obtain ⟨a2, c2, hv2, row2⟩ := own_any (owns_below HO2.out B4)
  obtain ⟨a4, c4, hv4, row4⟩ := own_any ho4
  have HM2 : Hid (Calls Try.prog 29 #[v2] w4 fun e w' => e = .returned (.int .i64 (meetLo ss)) ∧ w' = w4) := by rw [hv2]; exact max_any _ _ _ _ row2 (by simp; omega)
  have HM4 : Hid (Calls Try.prog 30 #[v4] w4 fun e w' => e = .returned (.int .i64 (meetHi ss)) ∧ w' = w4) := by rw [hv4]; exact min_any _ _ _ _ row4 (by simp; omega)
  clear hr4 ho3 hb3 ho4 hb4 B4 hv2 row2 hv4 row4 HR2 HB2 HS2 HC2 HO2
  go_wp2_with (at_builtin; go_must (refine append_run (by rfl) _ _ (by rfl) (by rfl) _ _ _ _ (by rfl) (by rfl) HR4.out ?_))
  refine Calls.mono HM2.out ?_
  rintro e w' ⟨rfl, hw⟩
  subst hw
  go_wp2_with fail
  refine Calls.mono HM4.out ?_
  rintro e w' ⟨rfl, hw⟩
  subst hw
  go_wp2_with fail
  refine Calls.mono (HT.out _) ?_
  rintro e w5 ⟨rfl, hb⟩
  have hz4 : w.heap.size + 1 ≤ w'.heap.size := by have := HC4.out.size; simpa using this
  have hca := (hb.cell (p := ⟨w.heap.size, 0, none⟩) (by show w.heap.size < _; omega)).trans (HC4.out.cell (p := ⟨w.heap.size, 0, none⟩) (by simp))
  have hcb := (hb.cell (p := ⟨w.heap.size, 1, none⟩) (by show w.heap.size < _; omega)).trans (HC4.out.cell (p := ⟨w.heap.size, 1, none⟩) (by simp))
  have hfa := (hb.frozen (p := ⟨w.heap.size, 0, none⟩) (by show w.heap.size < _; omega)).trans (HC4.out.frozen (p := ⟨w.heap.size, 0, none⟩) (by simp))
  have hfb := (hb.frozen (p := ⟨w.heap.size, 1, none⟩) (by show w.heap.size < _; omega)).trans (HC4.out.frozen (p := ⟨w.heap.size, 1, none⟩) (by simp))
  simp at hca hcb hfa hfb
  have HB5 : Hid (Below w.heap.size w w5) := HB4.out.trans (hb.mono (by omega))
  clear hb HC4 HB4 HM2 HM4 HR4 HT
  go_wp2
  exact bodyPost_ret (v := (.agg #[.int .i64 tl, .int .i64 th])) (by simp [results, Try.results23, go_sem, hca, hcb]) rfl ⟨rfl, below_set (below_set HB5.out _ _ _ (by omega)) _ _ _ (by omega)⟩
theorem smeet_any (a : Option Addr) (ss : List (Int × Int)) (cap : Nat) (w : World) (h : SpanRow w a ss) (hl : ss.length ≤ 400000) :
    Calls Try.prog 23 #[.slice a ss.length cap] w fun e w' => e = .returned ((.agg #[.int .i64 (toldLo (meetLo ss) (meetHi ss)), .int .i64 (toldHi (meetLo ss) (meetHi ss))])) ∧ Below w.heap.size w w' := by
  unfold toldLo toldHi
  by_cases he : meetHi ss < meetLo ss
  · rw [if_pos he, if_pos he]
    exact smeet_run a ss cap w h hl 0 (-1) fun w => stold_none _ _ w he
  · rw [if_neg he, if_neg he]
    exact smeet_run a ss cap w h hl _ _ fun w => stold_some _ _ w (by omega)
end Go.Proofs.Ythnhlgiibiephab
