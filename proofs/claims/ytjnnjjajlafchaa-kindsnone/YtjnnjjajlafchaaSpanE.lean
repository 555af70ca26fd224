/- The contracts of span's Cross and Times. Conditions: the numbers' own ranges. -/
import Derived.Test.YtjnnjjajlafchaaSpanD
namespace Go.Proofs.Ytjnnjjajlafchaa
open Go.RowKit
set_option linter.unusedVariables false
set_option maxRecDepth 100000

set_option maxHeartbeats 1000000 in
theorem scross_none {w W : World} {v : Nat} {o : Bool} (L : Live w v W o) (a b c d : Int) (h : b < a ∨ d < c) :
    Calls Try.prog 63 #[.pointer (some ⟨v, 0, none⟩), (.agg #[.int .i64 a, .int .i64 b]), (.agg #[.int .i64 c, .int .i64 d])] W (SpanSays w v o W 0 (-1) false) := by
  have HL : Hid (Live w v W o) := L
  have hv := L.old
  clear L
  go_enter Try.func63, Try.ntmps63
  go_wp2_with fail
  refine Calls.mono (anyEmpty_two _ a b c d true (by simp; omega) _ (by simp)) ?_
  rintro e w1 ⟨rfl, hb⟩
  have HB1 : Hid (Below (W.heap.size + 1 + 1 + 1) (((W.alloc (.cells #[.int .i64 a, .int .i64 b] 25)).alloc (.cells #[.int .i64 c, .int .i64 d] 25)).alloc (.cells #[.int .i64 0, .int .i64 0] 25)) w1) := by simpa [Hid] using hb
  clear hb
  go_wp2_with fail
  refine Calls.mono (snone_any _) ?_
  rintro e w2 ⟨rfl, hb⟩
  have B2 : Below (W.heap.size + 1 + 1 + 1) (((W.alloc (.cells #[.int .i64 a, .int .i64 b] 25)).alloc (.cells #[.int .i64 c, .int .i64 d] 25)).alloc (.cells #[.int .i64 0, .int .i64 0] 25)) w2 := HB1.out.trans (hb.mono (by have := HB1.out.size; simpa using this))
  have r1 : w2.cell? ⟨W.heap.size + 1 + 1, 0, none⟩ = some (.int .i64 0) := (B2.cell (p := ⟨W.heap.size + 1 + 1, 0, none⟩) (by simp)).trans (by simp [go_sem])
  have r2 : w2.cell? ⟨W.heap.size + 1 + 1, 1, none⟩ = some (.int .i64 0) := (B2.cell (p := ⟨W.heap.size + 1 + 1, 1, none⟩) (by simp)).trans (by simp [go_sem])
  have r3 : w2.frozen? ⟨W.heap.size + 1 + 1, 0, none⟩ = false := (B2.frozen (p := ⟨W.heap.size + 1 + 1, 0, none⟩) (by simp)).trans (by simp [go_sem])
  have r4 : w2.frozen? ⟨W.heap.size + 1 + 1, 1, none⟩ = false := (B2.frozen (p := ⟨W.heap.size + 1 + 1, 1, none⟩) (by simp)).trans (by simp [go_sem])
  have HB2 : Hid (Below W.heap.size W w2) := ((((Below.refl _ W).alloc (Nat.le_refl _) _).alloc (by simp) _).alloc (by simp; omega) _).trans (B2.mono (by omega))
  clear hb HB1 B2
  go_wp2
  refine bodyPost_ret (v := (.agg #[.int .i64 (0), .int .i64 (-1)])) (by simp [results, Try.results63, go_sem, r1, r2]) rfl ⟨rfl, ?_⟩
  rw [Bool.or_false]
  exact says_set (HL.out.stays HB2.out) (Kept.of_below HB2.out) _ (by omega) _ _ hv

theorem min_prods (a b c d : Int) : Lib.minOf (prods a b c d false) = crossLo a b c d := by simp [Lib.minOf, prods, crossLo, min4]
theorem max_prods (a b c d : Int) : Lib.maxOf (prods a b c d true) = crossHi a b c d := by simp [Lib.maxOf, prods, crossHi, max4]
set_option maxHeartbeats 4000000 in
theorem scross_some {w W : World} {v : Nat} {o : Bool} (L : Live w v W o) (a b c d : Int) (h1 : a ≤ b) (h2 : c ≤ d) (ha : B64 a) (hb : B64 b) (hc : B64 c) (hd : B64 d) :
    Calls Try.prog 63 #[.pointer (some ⟨v, 0, none⟩), (.agg #[.int .i64 a, .int .i64 b]), (.agg #[.int .i64 c, .int .i64 d])] W (SpanSays w v o W (crossLo a b c d) (crossHi a b c d) (crossOv a b c d false || crossOv a b c d true)) := by
  have hv := L.old
  have HK : Hid (∀ W', Kept v (((W.alloc (.cells #[.int .i64 a, .int .i64 b] 25)).alloc (.cells #[.int .i64 c, .int .i64 d] 25)).alloc (.cells #[.int .i64 0, .int .i64 0] 25)) W' → W'.cell? ⟨W.heap.size, 0, none⟩ = some (.int .i64 a) ∧ W'.cell? ⟨W.heap.size, 1, none⟩ = some (.int .i64 b) ∧ W'.cell? ⟨W.heap.size + 1, 0, none⟩ = some (.int .i64 c) ∧ W'.cell? ⟨W.heap.size + 1, 1, none⟩ = some (.int .i64 d)) := fun W' k => ⟨k.cell (by simp [go_sem]) (by omega), k.cell (by simp [go_sem]) (by omega), k.cell (by simp [go_sem]) (by omega), k.cell (by simp [go_sem]) (by omega)⟩
  have HRr : Hid (∀ W', Kept v (((W.alloc (.cells #[.int .i64 a, .int .i64 b] 25)).alloc (.cells #[.int .i64 c, .int .i64 d] 25)).alloc (.cells #[.int .i64 0, .int .i64 0] 25)) W' → W'.cell? ⟨W.heap.size + 1 + 1, 0, none⟩ = some (.int .i64 0) ∧ W'.cell? ⟨W.heap.size + 1 + 1, 1, none⟩ = some (.int .i64 0) ∧ W'.frozen? ⟨W.heap.size + 1 + 1, 0, none⟩ = false ∧ W'.frozen? ⟨W.heap.size + 1 + 1, 1, none⟩ = false) := fun W' k => ⟨k.cell (by simp [go_sem]) (by omega), k.cell (by simp [go_sem]) (by omega), (k.frz (by simp) (by omega)).trans (by simp [go_sem]), (k.frz (by simp) (by omega)).trans (by simp [go_sem])⟩
  have HKW : Hid (∀ W', Kept v (((W.alloc (.cells #[.int .i64 a, .int .i64 b] 25)).alloc (.cells #[.int .i64 c, .int .i64 d] 25)).alloc (.cells #[.int .i64 0, .int .i64 0] 25)) W' → Kept v W W') := fun W' k => (((Kept.alloc v W _).trans (Kept.alloc v _ _)).trans (Kept.alloc v _ _)).trans k
  have HP : Hid (∀ W2 o2 up, Live w v W2 o2 → Kept v (((W.alloc (.cells #[.int .i64 a, .int .i64 b] 25)).alloc (.cells #[.int .i64 c, .int .i64 d] 25)).alloc (.cells #[.int .i64 0, .int .i64 0] 25)) W2 → Calls Try.prog 77 #[.pointer (some ⟨v, 0, none⟩), (.agg #[.int .i64 a, .int .i64 b]), (.agg #[.int .i64 c, .int .i64 d]), .bool up] W2 fun e W' => ∃ g, e = .returned (.slice (some ⟨g, 0, none⟩) 4 4) ∧ IntRow W' (some ⟨g, 0, none⟩) (prods a b c d up) ∧ (W'.cell? ⟨W.heap.size, 0, none⟩ = some (.int .i64 a) ∧ W'.cell? ⟨W.heap.size, 1, none⟩ = some (.int .i64 b) ∧ W'.cell? ⟨W.heap.size + 1, 0, none⟩ = some (.int .i64 c) ∧ W'.cell? ⟨W.heap.size + 1, 1, none⟩ = some (.int .i64 d)) ∧ Live w v W' (o2 || crossOv a b c d up) ∧ Kept v (((W.alloc (.cells #[.int .i64 a, .int .i64 b] 25)).alloc (.cells #[.int .i64 c, .int .i64 d] 25)).alloc (.cells #[.int .i64 0, .int .i64 0] 25)) W') := fun W2 o2 up l k => Calls.mono (sproducts_any l a b c d up ha hb hc hd) fun e W' t => by
    obtain ⟨g, t1, t2, t3, t4⟩ := t
    have k2 := k.trans t4
    exact ⟨g, t1, t2, HK.out _ k2, t3, k2⟩
  have HMn : Hid (∀ W2 o2 g, IntRow W2 (some ⟨g, 0, none⟩) (prods a b c d false) → Live w v W2 o2 → Kept v (((W.alloc (.cells #[.int .i64 a, .int .i64 b] 25)).alloc (.cells #[.int .i64 c, .int .i64 d] 25)).alloc (.cells #[.int .i64 0, .int .i64 0] 25)) W2 → Calls Try.prog 76 #[.slice (some ⟨g, 0, none⟩) 4 4] W2 fun e W' => e = .returned (.int .i64 (crossLo a b c d)) ∧ (W'.cell? ⟨W.heap.size, 0, none⟩ = some (.int .i64 a) ∧ W'.cell? ⟨W.heap.size, 1, none⟩ = some (.int .i64 b) ∧ W'.cell? ⟨W.heap.size + 1, 0, none⟩ = some (.int .i64 c) ∧ W'.cell? ⟨W.heap.size + 1, 1, none⟩ = some (.int .i64 d)) ∧ Live w v W' o2 ∧ Kept v (((W.alloc (.cells #[.int .i64 a, .int .i64 b] 25)).alloc (.cells #[.int .i64 c, .int .i64 d] 25)).alloc (.cells #[.int .i64 0, .int .i64 0] 25)) W') := fun W2 o2 g hr l k => Calls.mono (min_any (some ⟨g, 0, none⟩) (prods a b c d false) 4 W2 hr (by simp [prods])) fun e W' t => by
    obtain ⟨t1, t2⟩ := t
    subst t2
    rw [min_prods] at t1
    exact ⟨t1, HK.out _ k, l, k⟩
  have HMx : Hid (∀ W2 o2 g, IntRow W2 (some ⟨g, 0, none⟩) (prods a b c d true) → Live w v W2 o2 → Kept v (((W.alloc (.cells #[.int .i64 a, .int .i64 b] 25)).alloc (.cells #[.int .i64 c, .int .i64 d] 25)).alloc (.cells #[.int .i64 0, .int .i64 0] 25)) W2 → Calls Try.prog 78 #[.slice (some ⟨g, 0, none⟩) 4 4] W2 fun e W' => e = .returned (.int .i64 (crossHi a b c d)) ∧ (W'.cell? ⟨W.heap.size, 0, none⟩ = some (.int .i64 a) ∧ W'.cell? ⟨W.heap.size, 1, none⟩ = some (.int .i64 b) ∧ W'.cell? ⟨W.heap.size + 1, 0, none⟩ = some (.int .i64 c) ∧ W'.cell? ⟨W.heap.size + 1, 1, none⟩ = some (.int .i64 d)) ∧ (W'.cell? ⟨W.heap.size + 1 + 1, 0, none⟩ = some (.int .i64 0) ∧ W'.cell? ⟨W.heap.size + 1 + 1, 1, none⟩ = some (.int .i64 0) ∧ W'.frozen? ⟨W.heap.size + 1 + 1, 0, none⟩ = false ∧ W'.frozen? ⟨W.heap.size + 1 + 1, 1, none⟩ = false) ∧ Live w v W' o2 ∧ Kept v (((W.alloc (.cells #[.int .i64 a, .int .i64 b] 25)).alloc (.cells #[.int .i64 c, .int .i64 d] 25)).alloc (.cells #[.int .i64 0, .int .i64 0] 25)) W') := fun W2 o2 g hr l k => Calls.mono (max_any (some ⟨g, 0, none⟩) (prods a b c d true) 4 W2 hr (by simp [prods])) fun e W' t => by
    obtain ⟨t1, t2⟩ := t
    subst t2
    rw [max_prods] at t1
    exact ⟨t1, HK.out _ k, HRr.out _ k, l, k⟩
  have HL : Hid (Live w v W o) := L
  clear L ha hb hc hd
  go_enter Try.func63, Try.ntmps63
  go_wp2_with fail
  refine Calls.mono (anyEmpty_two _ a b c d false (by simp; omega) _ (by simp)) ?_
  rintro e w1 ⟨rfl, hb1⟩
  have l0 : Live w v w1.drew o := (((HL.out.alloc _).alloc _).alloc _).stays hb1 |>.drew
  have k0 : Kept v (((W.alloc (.cells #[.int .i64 a, .int .i64 b] 25)).alloc (.cells #[.int .i64 c, .int .i64 d] 25)).alloc (.cells #[.int .i64 0, .int .i64 0] 25)) w1.drew := (Kept.of_below hb1).trans (Kept.drew v w1)
  have cc : ∀ W' : World, W' = w1.drew → W'.cell? ⟨W.heap.size, 0, none⟩ = some (.int .i64 a) ∧ W'.cell? ⟨W.heap.size, 1, none⟩ = some (.int .i64 b) ∧ W'.cell? ⟨W.heap.size + 1, 0, none⟩ = some (.int .i64 c) ∧ W'.cell? ⟨W.heap.size + 1, 1, none⟩ = some (.int .i64 d) := fun W' hW => by subst hW; exact HK.out _ k0
  have c1 := (cc _ rfl).1
  have c2 := (cc _ rfl).2.1
  have c3 := (cc _ rfl).2.2.1
  have c4 := (cc _ rfl).2.2.2
  simp only [World.cell?_drew] at c1 c2 c3 c4
  have hne1 : W.heap.size ≠ W.heap.size + 1 + 1 := by omega
  have hne2 : W.heap.size + 1 + 1 ≠ W.heap.size := by omega
  clear hb1 cc
  go_wp2_with fail
  go_region_held3 (fun W' => W'.cell? ⟨W.heap.size, 0, none⟩ = some (.int .i64 a) ∧ W'.cell? ⟨W.heap.size, 1, none⟩ = some (.int .i64 b) ∧ W'.cell? ⟨W.heap.size + 1, 0, none⟩ = some (.int .i64 c) ∧ W'.cell? ⟨W.heap.size + 1, 1, none⟩ = some (.int .i64 d)) (first | exact ⟨by assumption, by assumption, by assumption, by assumption⟩ | go_keep) (first
    | (go_at_call 77; refine (HP.out _ _ _ (by assumption) (by assumption)).mono ?_; rintro e W2 ⟨g2, rfl, row2, ⟨c21, c22, c23, c24⟩, l2, k2⟩)
    | (go_at_call 76; refine (HMn.out _ _ _ (by assumption) (by assumption) (by assumption)).mono ?_; rintro e W2 ⟨rfl, ⟨c21, c22, c23, c24⟩, l2, k2⟩)
    | (go_at_call 78; refine (HMx.out _ _ _ (by assumption) (by assumption) (by assumption)).mono ?_; rintro e W2 ⟨rfl, ⟨c21, c22, c23, c24⟩, ⟨r1, r2, r3, r4⟩, l2, k2⟩))
  go_wp2
  refine bodyPost_ret (v := (.agg #[.int .i64 (crossLo a b c d), .int .i64 (crossHi a b c d)])) (by simp [results, Try.results63, go_sem, r1, r2]) rfl ⟨rfl, ?_⟩
  rw [← Bool.or_assoc]
  exact says_set l2 (HKW.out _ k2) _ (by omega) _ _ hv

set_option maxHeartbeats 1000000 in
theorem stimes_run {w W : World} {v : Nat} {o : Bool} (L : Live w v W o) (a b c lo hi : Int) (ov : Bool)
    (hx : ∀ W2, Live w v W2 o → Calls Try.prog 63 #[.pointer (some ⟨v, 0, none⟩), (.agg #[.int .i64 a, .int .i64 b]), (.agg #[.int .i64 c, .int .i64 c])] W2 (SpanSays w v o W2 lo hi ov)) :
    Calls Try.prog 45 #[.pointer (some ⟨v, 0, none⟩), (.agg #[.int .i64 a, .int .i64 b]), .int .i64 c] W (SpanSays w v o W lo hi ov) := by
  have hv := L.old
  have HL : Hid (Live w v W o) := L
  have HX : Hid (∀ W2, Live w v W2 o → Calls Try.prog 63 #[.pointer (some ⟨v, 0, none⟩), (.agg #[.int .i64 a, .int .i64 b]), (.agg #[.int .i64 c, .int .i64 c])] W2 (SpanSays w v o W2 lo hi ov)) := hx
  clear L hx
  go_enter Try.func45, Try.ntmps45
  go_wp2_with fail
  refine Calls.mono (HX.out _ ((HL.out.alloc _).alloc _)) ?_
  rintro e W2 ⟨rfl, l2, k2⟩
  have r1 : W2.cell? ⟨W.heap.size + 1, 0, none⟩ = some (.int .i64 0) := k2.cell (by simp [go_sem]) (by omega)
  have r2 : W2.cell? ⟨W.heap.size + 1, 1, none⟩ = some (.int .i64 0) := k2.cell (by simp [go_sem]) (by omega)
  have r3 : W2.frozen? ⟨W.heap.size + 1, 0, none⟩ = false := (k2.frz (by simp) (by omega)).trans (by simp [go_sem])
  have r4 : W2.frozen? ⟨W.heap.size + 1, 1, none⟩ = false := (k2.frz (by simp) (by omega)).trans (by simp [go_sem])
  have HLK : Hid (Live w v W2 (o || ov) ∧ Kept v W W2) := ⟨l2, ((Kept.alloc v W _).trans (Kept.alloc v _ _)).trans k2⟩
  clear l2 k2 HX
  go_wp2
  refine bodyPost_ret (v := (.agg #[.int .i64 lo, .int .i64 hi])) (by simp [results, Try.results45, go_sem, r1, r2]) rfl ⟨rfl, ?_⟩
  exact says_set HLK.out.1 HLK.out.2 _ (by omega) _ _ hv
theorem stimes_none {w W : World} {v : Nat} {o : Bool} (L : Live w v W o) (a b c : Int) (h : b < a) :
    Calls Try.prog 45 #[.pointer (some ⟨v, 0, none⟩), (.agg #[.int .i64 a, .int .i64 b]), .int .i64 c] W (SpanSays w v o W 0 (-1) false) :=
  stimes_run L a b c 0 (-1) false fun W2 l => scross_none l a b c c (.inl h)
theorem stimes_some {w W : World} {v : Nat} {o : Bool} (L : Live w v W o) (a b c : Int) (h : a ≤ b) (ha : B64 a) (hb : B64 b) (hc : B64 c) :
    Calls Try.prog 45 #[.pointer (some ⟨v, 0, none⟩), (.agg #[.int .i64 a, .int .i64 b]), .int .i64 c] W (SpanSays w v o W (crossLo a b c c) (crossHi a b c c) (crossOv a b c c false || crossOv a b c c true)) :=
  stimes_run L a b c _ _ _ fun W2 l => scross_some l a b c c h (Int.le_refl c) ha hb hc hc
end Go.Proofs.Ytjnnjjajlafchaa
