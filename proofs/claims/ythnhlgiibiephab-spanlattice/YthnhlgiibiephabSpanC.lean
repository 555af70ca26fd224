/- The contracts of span's Acc: Minus, products, Cross, Times, Plus. Conditions: the numbers' own ranges; of Plus at most 400000 spans. -/
import Derived.Test.YthnhlgiibiephabSpanB
namespace Go.Proofs.Ythnhlgiibiephab
open Go.RowKit
set_option linter.unusedVariables false
set_option maxRecDepth 100000

/-- An int. -/
def B64 (p : Int) : Prop := -9223372036854775808 ≤ p ∧ p ≤ 9223372036854775807
/-- How a method that tells a span ends. -/
def SpanSays (w : World) (b : Nat) (o : Bool) (W : World) (lo hi : Int) (ov : Bool) (e : Ending) (W' : World) : Prop := e = .returned ((.agg #[.int .i64 lo, .int .i64 hi])) ∧ Live w b W' (o || ov) ∧ Kept b W W'
theorem Kept.below {b : Nat} {x y z : World} (h : Kept b x y) (k : Below y.heap.size y z) : Kept b x z := h.trans (Kept.of_below k)
theorem Kept.cell {b : Nat} {x y : World} (h : Kept b x y) {g i : Nat} {v : Value} (hv : x.cell? ⟨g, i, none⟩ = some v) (hg : g ≠ b) : y.cell? ⟨g, i, none⟩ = some v := by
  have hlt : g < x.heap.size := World.block_lt_of_cell? x ⟨g, i, none⟩ hv
  rw [World.cell?_of_block (w := x) (a := ⟨g, i, none⟩) (h.block g hlt hg)]; exact hv
theorem Kept.frz {b : Nat} {x y : World} (h : Kept b x y) {g i : Nat} (hlt : g < x.heap.size) (hg : g ≠ b) : y.frozen? ⟨g, i, none⟩ = x.frozen? ⟨g, i, none⟩ :=
  World.frozen?_of_block (w := x) (a := ⟨g, i, none⟩) (h.block g hlt hg)
theorem Kept.set {b : Nat} {x y : World} (h : Kept b x y) (g i : Nat) (v : Value) (hg : x.heap.size ≤ g) : Kept b x (y.setCell ⟨g, i, none⟩ v) :=
  ⟨h.os, h.tape, h.output, by have := h.size; simpa using this, fun k hk hb => (Below.heap_setCell _ _ _ _ (by show k ≠ g; omega)).trans (h.block k hk hb)⟩
theorem Live.setOther {w W : World} {b : Nat} {o : Bool} (h : Live w b W o) (g i : Nat) (v : Value) (hg : b < g) : Live w b (W.setCell ⟨g, i, none⟩ v) o :=
  h.kept (Kept.setCell g W i v) (by omega) (by have := h.new; omega)
/-- A row of two spans that was just laid. -/
theorem row_two (W : World) (a b c d : Int) (g : Nat) (hg : g = W.heap.size) : SpanRow (W.alloc (.cells #[.int .i64 a, .int .i64 b, .int .i64 c, .int .i64 d] 23)) (some ⟨g, 0, none⟩) [(a, b), (c, d)] := by
  subst hg
  intro i hi
  refine ⟨W.heap.size, 0, rfl, ?_⟩
  match i, hi with
  | 0, _ => simp
  | 1, _ => simp
theorem anyEmpty_two (W : World) (a b c d : Int) (r : Bool) (hr : (decide (b < a) || decide (d < c)) = r) (g : Nat) (hg : g = W.heap.size) :
    Calls Try.prog 25 #[.slice (some ⟨g, 0, none⟩) 2 2] (W.alloc (.cells #[.int .i64 a, .int .i64 b, .int .i64 c, .int .i64 d] 23)) fun e w' => e = .returned (.bool r) ∧ Below W.heap.size W w' := by
  have h := anyEmpty_any (some ⟨g, 0, none⟩) [(a, b), (c, d)] 2 _ (row_two W a b c d g hg) (by simp)
  have e : anyE [(a, b), (c, d)] = r := by rw [← hr]; simp [anyE]
  rw [e] at h
  exact Calls.mono h fun e w' t => ⟨t.1, ((Below.refl _ W).alloc (Nat.le_refl _) _).trans (t.2.mono (by simp))⟩

theorem says_set {w W W2 : World} {v : Nat} {o : Bool} (l : Live w v W2 o) (k : Kept v W W2) (g : Nat) (hg : W.heap.size ≤ g) (x y : Value) (hv : v < W.heap.size) :
    Live w v ((W2.setCell ⟨g, 0, none⟩ x).setCell ⟨g, 1, none⟩ y) o ∧ Kept v W ((W2.setCell ⟨g, 0, none⟩ x).setCell ⟨g, 1, none⟩ y) :=
  ⟨(l.setOther g 0 x (by omega)).setOther g 1 y (by omega), (k.set g 0 x hg).set g 1 y hg⟩

set_option maxHeartbeats 1000000 in
theorem sminus_none {w W : World} {v : Nat} {o : Bool} (L : Live w v W o) (a b c d : Int) (h : b < a ∨ d < c) :
    Calls Try.prog 11 #[.pointer (some ⟨v, 0, none⟩), (.agg #[.int .i64 a, .int .i64 b]), (.agg #[.int .i64 c, .int .i64 d])] W (SpanSays w v o W 0 (-1) false) := by
  have HL : Hid (Live w v W o) := L
  have hv := L.old
  clear L
  go_enter Try.func11, Try.ntmps11
  go_wp2_with fail
  refine Calls.mono (anyEmpty_two _ a b c d true (by simp; omega) _ (by simp)) ?_
  rintro e w1 ⟨rfl, hb⟩
  have HB1 : Hid (Below (W.heap.size + 1 + 1 + 1) (((W.alloc (.cells #[.int .i64 a, .int .i64 b] 23)).alloc (.cells #[.int .i64 c, .int .i64 d] 23)).alloc (.cells #[.int .i64 0, .int .i64 0] 23)) w1) := by simpa [Hid] using hb
  clear hb
  go_wp2_with fail
  refine Calls.mono (snone_any _) ?_
  rintro e w2 ⟨rfl, hb⟩
  have B2 : Below (W.heap.size + 1 + 1 + 1) (((W.alloc (.cells #[.int .i64 a, .int .i64 b] 23)).alloc (.cells #[.int .i64 c, .int .i64 d] 23)).alloc (.cells #[.int .i64 0, .int .i64 0] 23)) w2 := HB1.out.trans (hb.mono (by have := HB1.out.size; simpa using this))
  have r1 : w2.cell? ⟨W.heap.size + 1 + 1, 0, none⟩ = some (.int .i64 0) := (B2.cell (p := ⟨W.heap.size + 1 + 1, 0, none⟩) (by simp)).trans (by simp [go_sem])
  have r2 : w2.cell? ⟨W.heap.size + 1 + 1, 1, none⟩ = some (.int .i64 0) := (B2.cell (p := ⟨W.heap.size + 1 + 1, 1, none⟩) (by simp)).trans (by simp [go_sem])
  have r3 : w2.frozen? ⟨W.heap.size + 1 + 1, 0, none⟩ = false := (B2.frozen (p := ⟨W.heap.size + 1 + 1, 0, none⟩) (by simp)).trans (by simp [go_sem])
  have r4 : w2.frozen? ⟨W.heap.size + 1 + 1, 1, none⟩ = false := (B2.frozen (p := ⟨W.heap.size + 1 + 1, 1, none⟩) (by simp)).trans (by simp [go_sem])
  have HB2 : Hid (Below W.heap.size W w2) := ((((Below.refl _ W).alloc (Nat.le_refl _) _).alloc (by simp) _).alloc (by simp; omega) _).trans (B2.mono (by omega))
  clear hb HB1 B2
  go_wp2
  refine bodyPost_ret (v := (.agg #[.int .i64 (0), .int .i64 (-1)])) (by simp [results, Try.results11, go_sem, r1, r2]) rfl ⟨rfl, ?_⟩
  rw [Bool.or_false]
  exact says_set (HL.out.stays HB2.out) (Kept.of_below HB2.out) _ (by omega) _ _ hv

set_option maxHeartbeats 2000000 in
theorem sminus_some {w W : World} {v : Nat} {o : Bool} (L : Live w v W o) (a b c d : Int) (h1 : a ≤ b) (h2 : c ≤ d) (ha : B64 a) (hb : B64 b) (hc : B64 c) (hd : B64 d) :
    Calls Try.prog 11 #[.pointer (some ⟨v, 0, none⟩), (.agg #[.int .i64 a, .int .i64 b]), (.agg #[.int .i64 c, .int .i64 d])] W (SpanSays w v o W (clampF (a - d)) (clampF (b - c)) (overF (a - d) || overF (b - c))) := by
  have hv := L.old
  have HK : Hid (∀ W', Kept v (((W.alloc (.cells #[.int .i64 a, .int .i64 b] 23)).alloc (.cells #[.int .i64 c, .int .i64 d] 23)).alloc (.cells #[.int .i64 0, .int .i64 0] 23)) W' → W'.cell? ⟨W.heap.size, 0, none⟩ = some (.int .i64 a) ∧ W'.cell? ⟨W.heap.size, 1, none⟩ = some (.int .i64 b) ∧ W'.cell? ⟨W.heap.size + 1, 0, none⟩ = some (.int .i64 c) ∧ W'.cell? ⟨W.heap.size + 1, 1, none⟩ = some (.int .i64 d)) := fun W' k => ⟨k.cell (by simp [go_sem]) (by omega), k.cell (by simp [go_sem]) (by omega), k.cell (by simp [go_sem]) (by omega), k.cell (by simp [go_sem]) (by omega)⟩
  have HRr : Hid (∀ W', Kept v (((W.alloc (.cells #[.int .i64 a, .int .i64 b] 23)).alloc (.cells #[.int .i64 c, .int .i64 d] 23)).alloc (.cells #[.int .i64 0, .int .i64 0] 23)) W' → W'.cell? ⟨W.heap.size + 1 + 1, 0, none⟩ = some (.int .i64 0) ∧ W'.cell? ⟨W.heap.size + 1 + 1, 1, none⟩ = some (.int .i64 0) ∧ W'.frozen? ⟨W.heap.size + 1 + 1, 0, none⟩ = false ∧ W'.frozen? ⟨W.heap.size + 1 + 1, 1, none⟩ = false) := fun W' k => ⟨k.cell (by simp [go_sem]) (by omega), k.cell (by simp [go_sem]) (by omega), (k.frz (by simp) (by omega)).trans (by simp [go_sem]), (k.frz (by simp) (by omega)).trans (by simp [go_sem])⟩
  have HKW : Hid (∀ W', Kept v (((W.alloc (.cells #[.int .i64 a, .int .i64 b] 23)).alloc (.cells #[.int .i64 c, .int .i64 d] 23)).alloc (.cells #[.int .i64 0, .int .i64 0] 23)) W' → Kept v W W') := fun W' k => (((Kept.alloc v W _).trans (Kept.alloc v _ _)).trans (Kept.alloc v _ _)).trans k
  have HS : Hid (∀ W2 o2 p q, B64 p → B64 q → Live w v W2 o2 → Kept v (((W.alloc (.cells #[.int .i64 a, .int .i64 b] 23)).alloc (.cells #[.int .i64 c, .int .i64 d] 23)).alloc (.cells #[.int .i64 0, .int .i64 0] 23)) W2 → Calls Try.prog 20 #[.pointer (some ⟨v, 0, none⟩), .int .i64 p, .int .i64 q] W2 fun e W' => e = .returned (.int .i64 (clampF (p - q))) ∧ (W'.cell? ⟨W.heap.size, 0, none⟩ = some (.int .i64 a) ∧ W'.cell? ⟨W.heap.size, 1, none⟩ = some (.int .i64 b) ∧ W'.cell? ⟨W.heap.size + 1, 0, none⟩ = some (.int .i64 c) ∧ W'.cell? ⟨W.heap.size + 1, 1, none⟩ = some (.int .i64 d)) ∧ (W'.cell? ⟨W.heap.size + 1 + 1, 0, none⟩ = some (.int .i64 0) ∧ W'.cell? ⟨W.heap.size + 1 + 1, 1, none⟩ = some (.int .i64 0) ∧ W'.frozen? ⟨W.heap.size + 1 + 1, 0, none⟩ = false ∧ W'.frozen? ⟨W.heap.size + 1 + 1, 1, none⟩ = false) ∧ Live w v W' (o2 || overF (p - q)) ∧ Kept v (((W.alloc (.cells #[.int .i64 a, .int .i64 b] 23)).alloc (.cells #[.int .i64 c, .int .i64 d] 23)).alloc (.cells #[.int .i64 0, .int .i64 0] 23)) W') := fun W2 o2 p q hp hq l k => Calls.mono (sub_live l hp.1 hp.2 hq.1 hq.2) fun e W' t => by
    have k2 := k.trans t.2.2
    exact ⟨t.1, HK.out _ k2, HRr.out _ k2, t.2.1, k2⟩
  have HL : Hid (Live w v W o) := L
  have HBs : Hid (B64 a ∧ B64 b ∧ B64 c ∧ B64 d) := ⟨ha, hb, hc, hd⟩
  clear L ha hb hc hd
  go_enter Try.func11, Try.ntmps11
  go_wp2_with fail
  refine Calls.mono (anyEmpty_two _ a b c d false (by simp; omega) _ (by simp)) ?_
  rintro e w1 ⟨rfl, hb1⟩
  have l0 : Live w v w1.drew o := (((HL.out.alloc _).alloc _).alloc _).stays hb1 |>.drew
  have k0 : Kept v (((W.alloc (.cells #[.int .i64 a, .int .i64 b] 23)).alloc (.cells #[.int .i64 c, .int .i64 d] 23)).alloc (.cells #[.int .i64 0, .int .i64 0] 23)) w1.drew := (Kept.of_below hb1).trans (Kept.drew v w1)
  have cc : ∀ W' : World, W' = w1.drew → W'.cell? ⟨W.heap.size, 0, none⟩ = some (.int .i64 a) ∧ W'.cell? ⟨W.heap.size, 1, none⟩ = some (.int .i64 b) ∧ W'.cell? ⟨W.heap.size + 1, 0, none⟩ = some (.int .i64 c) ∧ W'.cell? ⟨W.heap.size + 1, 1, none⟩ = some (.int .i64 d) := fun W' hW => by subst hW; exact HK.out _ k0
  have c1 := (cc _ rfl).1
  have c2 := (cc _ rfl).2.1
  have c3 := (cc _ rfl).2.2.1
  have c4 := (cc _ rfl).2.2.2
  simp only [World.cell?_drew] at c1 c2 c3 c4
  obtain ⟨B1, B2, B3, B4⟩ := HBs.out
  have hne1 : W.heap.size ≠ W.heap.size + 1 + 1 := by omega
  have hne2 : W.heap.size + 1 + 1 ≠ W.heap.size := by omega
  clear hb1 cc
  go_wp2_with fail
  go_region_held3 (fun W' => W'.cell? ⟨W.heap.size, 0, none⟩ = some (.int .i64 a) ∧ W'.cell? ⟨W.heap.size, 1, none⟩ = some (.int .i64 b) ∧ W'.cell? ⟨W.heap.size + 1, 0, none⟩ = some (.int .i64 c) ∧ W'.cell? ⟨W.heap.size + 1, 1, none⟩ = some (.int .i64 d)) (first | exact ⟨by assumption, by assumption, by assumption, by assumption⟩ | go_keep) (first
    | (go_at_call 20; refine (HS.out _ _ _ _ (by assumption) (by assumption) (by assumption) (by assumption)).mono ?_; rintro e W2 ⟨rfl, ⟨c21, c22, c23, c24⟩, ⟨r1, r2, r3, r4⟩, l2, k2⟩))
  go_wp2
  refine bodyPost_ret (v := (.agg #[.int .i64 (clampF (a - d)), .int .i64 (clampF (b - c))])) (by simp [results, Try.results11, go_sem, r1, r2]) rfl ⟨rfl, ?_⟩
  rw [← Bool.or_assoc]
  exact says_set l2 (HKW.out _ k2) _ (by omega) _ _ hv
end Go.Proofs.Ythnhlgiibiephab
