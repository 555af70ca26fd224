/- The contract of span's Plus. Conditions: the numbers' own ranges; at most 400000 spans, that do not lie in the Acc itself. -/
import Derived.Test.YtjnnjjajlafchaaSpanE
namespace Go.Proofs.Ytjnnjjajlafchaa
open Go.RowKit
set_option linter.unusedVariables false
set_option maxRecDepth 100000

theorem SpanRow.kept {w w' : World} {a : Option Addr} {ss : List (Int × Int)} {v : Nat} (h : SpanRow w a ss) (k : Kept v w w') (ha : ∀ x, a = some x → x.block ≠ v) : SpanRow w' a ss := by
  intro i hi
  obtain ⟨b, off, rfl, hc, hd⟩ := h i hi
  have hb := ha _ rfl
  exact ⟨b, off, rfl, k.cell hc hb, k.cell hd hb⟩
set_option maxHeartbeats 1000000 in
theorem splus_none {w W : World} {v : Nat} {o : Bool} (L : Live w v W o) (a : Option Addr) (ss : List (Int × Int)) (cap : Nat) (hr : SpanRow W a ss) (hl : ss.length ≤ 400000) (h : anyE ss = true) :
    Calls Try.prog 47 #[.pointer (some ⟨v, 0, none⟩), .slice a ss.length cap] W (SpanSays w v o W 0 (-1) false) := by
  have HL : Hid (Live w v W o) := L
  have hv := L.old
  have HR : Hid (∀ ob, SpanRow (W.alloc ob) a ss) := fun ob => hr.stays ((Below.refl _ W).alloc (Nat.le_refl _) ob) (Nat.le_refl _)
  have HE : Hid (anyE ss = true) := h
  clear L hr h
  go_enter Try.func47, Try.ntmps47
  go_wp2_with fail
  refine Calls.mono (anyEmpty_any _ _ _ _ (HR.out _) (by omega)) ?_
  rintro e w1 ⟨he, hb⟩
  rw [HE.out] at he
  subst he
  have HB1 : Hid (Below (W.heap.size + 1) (W.alloc (.cells #[.int .i64 0, .int .i64 0] 25)) w1) := by simpa [Hid] using hb
  clear hb
  go_wp2_with fail
  refine Calls.mono (snone_any _) ?_
  rintro e w2 ⟨rfl, hb⟩
  have B2 : Below (W.heap.size + 1) (W.alloc (.cells #[.int .i64 0, .int .i64 0] 25)) w2 := HB1.out.trans (hb.mono (by have := HB1.out.size; simpa using this))
  have r1 : w2.cell? ⟨W.heap.size, 0, none⟩ = some (.int .i64 0) := (B2.cell (p := ⟨W.heap.size, 0, none⟩) (by simp)).trans (by simp [go_sem])
  have r2 : w2.cell? ⟨W.heap.size, 1, none⟩ = some (.int .i64 0) := (B2.cell (p := ⟨W.heap.size, 1, none⟩) (by simp)).trans (by simp [go_sem])
  have r3 : w2.frozen? ⟨W.heap.size, 0, none⟩ = false := (B2.frozen (p := ⟨W.heap.size, 0, none⟩) (by simp)).trans (by simp [go_sem])
  have r4 : w2.frozen? ⟨W.heap.size, 1, none⟩ = false := (B2.frozen (p := ⟨W.heap.size, 1, none⟩) (by simp)).trans (by simp [go_sem])
  have HB2 : Hid (Below W.heap.size W w2) := ((Below.refl _ W).alloc (Nat.le_refl _) _).trans (B2.mono (by omega))
  clear hb HB1 B2
  go_wp2
  refine bodyPost_ret (v := (.agg #[.int .i64 (0), .int .i64 (-1)])) (by simp [results, Try.results47, go_sem, r1, r2]) rfl ⟨rfl, ?_⟩
  rw [Bool.or_false]
  exact says_set (HL.out.stays HB2.out) (Kept.of_below HB2.out) _ (by omega) _ _ hv
/-- All ends are ints. -/
def FitsS (ss : List (Int × Int)) : Prop := Fits (ss.map Prod.fst) ∧ Fits (ss.map Prod.snd)
set_option maxHeartbeats 4000000 in
theorem splus_some {w W : World} {v : Nat} {o : Bool} (L : Live w v W o) (a : Option Addr) (ss : List (Int × Int)) (cap : Nat) (hr : SpanRow W a ss) (hn : ∀ x, a = some x → x.block ≠ v) (hf : FitsS ss) (hl : ss.length ≤ 400000) (h : anyE ss = false) :
    Calls Try.prog 47 #[.pointer (some ⟨v, 0, none⟩), .slice a ss.length cap] W (SpanSays w v o W (clampF (sumL (ss.map Prod.fst))) (clampF (sumL (ss.map Prod.snd))) (overF (sumL (ss.map Prod.fst)) || overF (sumL (ss.map Prod.snd)))) := by
  have hv := L.old
  have HKW : Hid (∀ W', Kept v (W.alloc (.cells #[.int .i64 0, .int .i64 0] 25)) W' → Kept v W W') := fun W' k => (Kept.alloc v W _).trans k
  have HRr : Hid (∀ W', Kept v (W.alloc (.cells #[.int .i64 0, .int .i64 0] 25)) W' → W'.cell? ⟨W.heap.size, 0, none⟩ = some (.int .i64 0) ∧ W'.cell? ⟨W.heap.size, 1, none⟩ = some (.int .i64 0) ∧ W'.frozen? ⟨W.heap.size, 0, none⟩ = false ∧ W'.frozen? ⟨W.heap.size, 1, none⟩ = false) := fun W' k => ⟨k.cell (by simp [go_sem]) (by omega), k.cell (by simp [go_sem]) (by omega), (k.frz (by simp) (by omega)).trans (by simp [go_sem]), (k.frz (by simp) (by omega)).trans (by simp [go_sem])⟩
  have HR : Hid (∀ W', Kept v W W' → SpanRow W' a ss) := fun W' k => hr.kept k hn
  have HLo : Hid (∀ W2 o2, Live w v W2 o2 → Kept v (W.alloc (.cells #[.int .i64 0, .int .i64 0] 25)) W2 → Calls Try.prog 67 #[.slice a ss.length cap] W2 fun e W' => ∃ a' cap', e = .returned (.slice a' ss.length cap') ∧ IntRow W' a' (ss.map Prod.fst) ∧ Live w v W' o2 ∧ Kept v (W.alloc (.cells #[.int .i64 0, .int .i64 0] 25)) W') := fun W2 o2 l k => Calls.mono (lows_any a ss cap W2 (HR.out _ (HKW.out _ k)) (by omega)) fun e W' t => by
    obtain ⟨u, t1, t2, t3⟩ := t
    obtain ⟨a', cap', hu, hrow⟩ := own_any t2
    rw [List.length_map] at hu
    exact ⟨a', cap', by rw [t1, hu], hrow, l.stays t3, k.below t3⟩
  have HHi : Hid (∀ W2 o2, Live w v W2 o2 → Kept v (W.alloc (.cells #[.int .i64 0, .int .i64 0] 25)) W2 → Calls Try.prog 68 #[.slice a ss.length cap] W2 fun e W' => ∃ a' cap', e = .returned (.slice a' ss.length cap') ∧ IntRow W' a' (ss.map Prod.snd) ∧ Live w v W' o2 ∧ Kept v (W.alloc (.cells #[.int .i64 0, .int .i64 0] 25)) W') := fun W2 o2 l k => Calls.mono (highs_any a ss cap W2 (HR.out _ (HKW.out _ k)) (by omega)) fun e W' t => by
    obtain ⟨u, t1, t2, t3⟩ := t
    obtain ⟨a', cap', hu, hrow⟩ := own_any t2
    rw [List.length_map] at hu
    exact ⟨a', cap', by rw [t1, hu], hrow, l.stays t3, k.below t3⟩
  obtain ⟨X, hX⟩ : ∃ X, clampF (sumL (ss.map Prod.fst)) = X := ⟨_, rfl⟩
  obtain ⟨Y, hY⟩ : ∃ Y, clampF (sumL (ss.map Prod.snd)) = Y := ⟨_, rfl⟩
  obtain ⟨p, hp⟩ : ∃ p, overF (sumL (ss.map Prod.fst)) = p := ⟨_, rfl⟩
  obtain ⟨q, hq⟩ : ∃ q, overF (sumL (ss.map Prod.snd)) = q := ⟨_, rfl⟩
  have HA1 : Hid (∀ W2 o2 a' cap', IntRow W2 a' (ss.map Prod.fst) → Live w v W2 o2 → Kept v (W.alloc (.cells #[.int .i64 0, .int .i64 0] 25)) W2 → Calls Try.prog 66 #[.pointer (some ⟨v, 0, none⟩), .slice a' ss.length cap'] W2 fun e W' => e = .returned (.int .i64 X) ∧ Live w v W' (o2 || p) ∧ Kept v (W.alloc (.cells #[.int .i64 0, .int .i64 0] 25)) W') := fun W2 o2 a' cap' hrow l k => by
    have t0 := add_live l a' (ss.map Prod.fst) cap' hrow hf.1 (by simp; omega)
    rw [List.length_map] at t0
    refine Calls.mono t0 fun e W' t => ?_
    rw [← hX, ← hp]
    exact ⟨t.1, t.2.1, k.trans t.2.2⟩
  have HA2 : Hid (∀ W2 o2 a' cap', IntRow W2 a' (ss.map Prod.snd) → Live w v W2 o2 → Kept v (W.alloc (.cells #[.int .i64 0, .int .i64 0] 25)) W2 → Calls Try.prog 66 #[.pointer (some ⟨v, 0, none⟩), .slice a' ss.length cap'] W2 fun e W' => e = .returned (.int .i64 Y) ∧ (W'.cell? ⟨W.heap.size, 0, none⟩ = some (.int .i64 0) ∧ W'.cell? ⟨W.heap.size, 1, none⟩ = some (.int .i64 0) ∧ W'.frozen? ⟨W.heap.size, 0, none⟩ = false ∧ W'.frozen? ⟨W.heap.size, 1, none⟩ = false) ∧ Live w v W' (o2 || q) ∧ Kept v (W.alloc (.cells #[.int .i64 0, .int .i64 0] 25)) W') := fun W2 o2 a' cap' hrow l k => by
    have t0 := add_live l a' (ss.map Prod.snd) cap' hrow hf.2 (by simp; omega)
    rw [List.length_map] at t0
    refine Calls.mono t0 fun e W' t => ?_
    rw [← hY, ← hq]
    exact ⟨t.1, HRr.out _ (k.trans t.2.2), t.2.1, k.trans t.2.2⟩
  rw [hX, hY, hp, hq]
  have HL : Hid (Live w v W o) := L
  have HE : Hid (anyE ss = false) := h
  clear L hr h hX hY hp hq hf hn
  go_enter Try.func47, Try.ntmps47
  go_wp2_with fail
  refine Calls.mono (anyEmpty_any _ _ _ _ (HR.out _ (Kept.alloc v W _)) (by omega)) ?_
  rintro e w1 ⟨he, hb⟩
  rw [HE.out] at he
  subst he
  have l0 : Live w v w1.drew o := ((HL.out.alloc _).stays hb).drew
  have k0 : Kept v (W.alloc (.cells #[.int .i64 0, .int .i64 0] 25)) w1.drew := (Kept.of_below hb).trans (Kept.drew v w1)
  clear hb
  go_wp2_with fail
  go_region_held3 (fun W' => True) (exact trivial) (first
    | (go_at_call 67; refine (HLo.out _ _ (by assumption) (by assumption)).mono ?_; rintro e W2 ⟨a2, cap2, rfl, row2, l2, k2⟩)
    | (go_at_call 68; refine (HHi.out _ _ (by assumption) (by assumption)).mono ?_; rintro e W4 ⟨a4, cap4, rfl, row4, l4, k4⟩)
    | (go_at_call 66; refine (HA1.out _ _ _ _ (by assumption) (by assumption) (by assumption)).mono ?_; rintro e W3 ⟨rfl, l3, k3⟩)
    | (go_at_call 66; refine (HA2.out _ _ _ _ (by assumption) (by assumption) (by assumption)).mono ?_; rintro e W5 ⟨rfl, ⟨r1, r2, r3, r4⟩, l5, k5⟩))
  go_wp2
  refine bodyPost_ret (v := (.agg #[.int .i64 X, .int .i64 Y])) (by simp [results, Try.results47, go_sem, r1, r2]) rfl ⟨rfl, ?_⟩
  rw [← Bool.or_assoc]
  exact says_set l5 (HKW.out _ k5) _ (by omega) _ _ hv
end Go.Proofs.Ytjnnjjajlafchaa
