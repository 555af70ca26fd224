/- The contracts of span's Of, Join, Meet, Wide. Conditions: at most 400000 spans; the numbers' own ranges. -/
import Derived.Test.YtjnnjjajlafchaaSpanL
import Derived.Test.YtjnnjjajlafchaaPickB
import Derived.Deep.RegionHeld3
namespace Go.Proofs.Ytjnnjjajlafchaa
open Go.RowKit
set_option linter.unusedVariables false
set_option maxRecDepth 100000

/-- The least span of some numbers. -/
def ofLo (zs : List Int) : Int := if zs.length = 0 then 0 else Lib.minOf zs
def ofHi (zs : List Int) : Int := if zs.length = 0 then -1 else Lib.maxOf zs
theorem own_any {W : World} {B : Nat} {v : Value} {xs : List Int} (h : W.ownsRow B 3 1 v xs.length (intCells xs)) : ∃ a cap, v = .slice a xs.length cap ∧ IntRow W a xs := by
  by_cases h0 : xs.length = 0
  · rcases h.2 with ⟨rfl, h2⟩ | ⟨g, cap, cur, rfl, _⟩
    · exact ⟨none, 0, by rw [h0], fun i hi => by omega⟩
    · exact ⟨_, cap, rfl, fun i hi => by omega⟩
  · obtain ⟨g, cap, rfl, _, _, hr⟩ := own_slice h (by omega)
    exact ⟨_, cap, rfl, hr⟩
/-- The ends of those that are not empty. -/
def endsL (ss : List (Int × Int)) : List Int := ss.flatMap fun s => if s.2 < s.1 then [] else [s.1, s.2]
theorem endsL_take (ss : List (Int × Int)) (k : Nat) (h : k < ss.length) : endsL (ss.take (k + 1)) = endsL (ss.take k) ++ (if (ss.getD k (0, 0)).2 < (ss.getD k (0, 0)).1 then [] else [(ss.getD k (0, 0)).1, (ss.getD k (0, 0)).2]) := by
  unfold endsL
  rw [List.take_succ_eq_append_getElem h, List.flatMap_append]
  simp [List.getD_eq_getElem?_getD, List.getElem?_eq_getElem h]
theorem endsL_len (ss : List (Int × Int)) : (endsL ss).length ≤ 2 * ss.length := by
  induction ss with
  | nil => simp [endsL]
  | cons s ss ih =>
    unfold endsL at *
    rw [List.flatMap_cons, List.length_append, List.length_cons]
    split <;> simp only [List.length_nil, List.length_cons] <;> omega
/-- What is in all. -/
def meetLo (ss : List (Int × Int)) : Int := Lib.maxOf (ss.map Prod.fst ++ [-9223372036854775808])
def meetHi (ss : List (Int × Int)) : Int := Lib.minOf (ss.map Prod.snd ++ [9223372036854775807])
end Go.Proofs.Ytjnnjjajlafchaa

namespace Go.Proofs.Ytjnnjjajlafchaa
open Go.RowKit
set_option linter.unusedVariables false
set_option maxRecDepth 100000

/-- An int. -/
def B64 (p : Int) : Prop := -9223372036854775808 ≤ p ∧ p ≤ 9223372036854775807
/-- How a method that tells a span ends. -/
def SpanSays (w : World) (b : Nat) (o : Bool) (W : World) (lo hi : Int) (ov : Bool) (e : Ending) (W' : World) : Prop := e = .returned ((.agg #[.int .i64 lo, .int .i64 hi])) ∧ Live w b W' (o || ov) ∧ Kept b W W'
theorem Kept.below {b : Nat} {x y z : World} (h : Kept b x y) (k : Below y.heap.size y z) : Kept b x z := h.trans (Kept.of_below k)
theorem Kept.cell {b : Nat} {x y : World} (h : Kept b x y) {g i : Nat} {v : Value} (hv : x.cell? ⟨g, i, none⟩ = some v) (hg : g ≠ b) : y.cell? ⟨g, i, none⟩ = some v := by
  have hlt : g < x.heap.size := World.block_lt_of_cell? x ⟨g, i, none⟩ hv
  rw [World.cell?_of_block (w := x) (a := ⟨g, i, none⟩) (h.block g hlt hg)]; exact hv
theorem Kept.frz {b : Nat} {x y : World} (h : Kept b x y) {g i : Nat} (hlt : g < x.heap.size) (hg : g ≠ b) : y.frozen? ⟨g, i, none⟩ = x.frozen? ⟨g, i, none⟩ :=
  World.frozen?_of_block (w := x) (a := ⟨g, i, none⟩) (h.block g hlt hg)
theorem Kept.set {b : Nat} {x y : World} (h : Kept b x y) (g i : Nat) (v : Value) (hg : x.heap.size ≤ g) : Kept b x (y.setCell ⟨g, i, none⟩ v) :=
  ⟨h.os, h.tape, h.output, by have := h.size; simpa using this, fun k hk hb => (Below.heap_setCell _ _ _ _ (by show k ≠ g; omega)).trans (h.block k hk hb)⟩
theorem Live.setOther {w W : World} {b : Nat} {o : Bool} (h : Live w b W o) (g i : Nat) (v : Value) (hg : b < g) : Live w b (W.setCell ⟨g, i, none⟩ v) o :=
  h.kept (Kept.setCell g W i v) (by omega) (by have := h.new; omega)
/-- A row of two spans that was just laid. -/
theorem row_two (W : World) (a b c d : Int) (g : Nat) (hg : g = W.heap.size) : SpanRow (W.alloc (.cells #[.int .i64 a, .int .i64 b, .int .i64 c, .int .i64 d] 25)) (some ⟨g, 0, none⟩) [(a, b), (c, d)] := by
  subst hg
  intro i hi
  refine ⟨W.heap.size, 0, rfl, ?_⟩
  match i, hi with
  | 0, _ => simp
  | 1, _ => simp
theorem anyEmpty_two (W : World) (a b c d : Int) (r : Bool) (hr : (decide (b < a) || decide (d < c)) = r) (g : Nat) (hg : g = W.heap.size) :
    Calls Try.prog 64 #[.slice (some ⟨g, 0, none⟩) 2 2] (W.alloc (.cells #[.int .i64 a, .int .i64 b, .int .i64 c, .int .i64 d] 25)) fun e w' => e = .returned (.bool r) ∧ Below W.heap.size W w' := by
  have h := anyEmpty_any (some ⟨g, 0, none⟩) [(a, b), (c, d)] 2 _ (row_two W a b c d g hg) (by simp)
  have e : anyE [(a, b), (c, d)] = r := by rw [← hr]; simp [anyE]
  rw [e] at h
  exact Calls.mono h fun e w' t => ⟨t.1, ((Below.refl _ W).alloc (Nat.le_refl _) _).trans (t.2.mono (by simp))⟩

theorem says_set {w W W2 : World} {v : Nat} {o : Bool} (l : Live w v W2 o) (k : Kept v W W2) (g : Nat) (hg : W.heap.size ≤ g) (x y : Value) (hv : v < W.heap.size) :
    Live w v ((W2.setCell ⟨g, 0, none⟩ x).setCell ⟨g, 1, none⟩ y) o ∧ Kept v W ((W2.setCell ⟨g, 0, none⟩ x).setCell ⟨g, 1, none⟩ y) :=
  ⟨(l.setOther g 0 x (by omega)).setOther g 1 y (by omega), (k.set g 0 x hg).set g 1 y hg⟩

end Go.Proofs.Ytjnnjjajlafchaa

namespace Go.Proofs.Ytjnnjjajlafchaa
open Go.RowKit
set_option linter.unusedVariables false
set_option maxRecDepth 100000

theorem or_assoc4 (o p q r s : Bool) : ((((o || p) || q) || r) || s) = (o || (p || q || r || s)) := by cases o <;> simp
theorem row_four (W : World) (p q r s : Int) (g : Nat) (hg : g = W.heap.size) : IntRow (W.alloc (.cells #[.int .i64 p, .int .i64 q, .int .i64 r, .int .i64 s] 3)) (some ⟨g, 0, none⟩) [p, q, r, s] := by
  subst hg
  intro i hi
  refine ⟨W.heap.size, 0, rfl, ?_⟩
  match i, hi with
  | 0, _ => simp
  | 1, _ => simp
  | 2, _ => simp
  | 3, _ => simp
/-- The four products of ends. -/
def prods (a b c d : Int) (up : Bool) : List Int := [clampF (mulF a c up), clampF (mulF a d up), clampF (mulF b c up), clampF (mulF b d up)]
set_option maxHeartbeats 4000000 in
theorem sproducts_any {w W : World} {v : Nat} {o : Bool} (L : Live w v W o) (a b c d : Int) (up : Bool) (ha : B64 a) (hb : B64 b) (hc : B64 c) (hd : B64 d) :
    Calls Try.prog 77 #[.pointer (some ⟨v, 0, none⟩), (.agg #[.int .i64 a, .int .i64 b]), (.agg #[.int .i64 c, .int .i64 d]), .bool up] W fun e W' => ∃ g, e = .returned (.slice (some ⟨g, 0, none⟩) 4 4) ∧ IntRow W' (some ⟨g, 0, none⟩) (prods a b c d up) ∧ Live w v W' (o || crossOv a b c d up) ∧ Kept v W W' := by
  have hv := L.old
  have HK : Hid (∀ W', Kept v ((W.alloc (.cells #[.int .i64 a, .int .i64 b] 25)).alloc (.cells #[.int .i64 c, .int .i64 d] 25)) W' → W'.cell? ⟨W.heap.size, 0, none⟩ = some (.int .i64 a) ∧ W'.cell? ⟨W.heap.size, 1, none⟩ = some (.int .i64 b) ∧ W'.cell? ⟨W.heap.size + 1, 0, none⟩ = some (.int .i64 c) ∧ W'.cell? ⟨W.heap.size + 1, 1, none⟩ = some (.int .i64 d)) := fun W' k => ⟨k.cell (by simp [go_sem]) (by omega), k.cell (by simp [go_sem]) (by omega), k.cell (by simp [go_sem]) (by omega), k.cell (by simp [go_sem]) (by omega)⟩
  have HKW : Hid (∀ W', Kept v ((W.alloc (.cells #[.int .i64 a, .int .i64 b] 25)).alloc (.cells #[.int .i64 c, .int .i64 d] 25)) W' → Kept v W W') := fun W' k => ((Kept.alloc v W _).trans (Kept.alloc v _ _)).trans k
  have HS : Hid (∀ W2 o2 p q, B64 p → B64 q → Live w v W2 o2 → Kept v ((W.alloc (.cells #[.int .i64 a, .int .i64 b] 25)).alloc (.cells #[.int .i64 c, .int .i64 d] 25)) W2 → Calls Try.prog 85 #[.pointer (some ⟨v, 0, none⟩), .int .i64 p, .int .i64 q, .bool up] W2 fun e W' => e = .returned (.int .i64 (clampF (mulF p q up))) ∧ (W'.cell? ⟨W.heap.size, 0, none⟩ = some (.int .i64 a) ∧ W'.cell? ⟨W.heap.size, 1, none⟩ = some (.int .i64 b) ∧ W'.cell? ⟨W.heap.size + 1, 0, none⟩ = some (.int .i64 c) ∧ W'.cell? ⟨W.heap.size + 1, 1, none⟩ = some (.int .i64 d)) ∧ Live w v W' (o2 || overF (mulF p q up)) ∧ Kept v ((W.alloc (.cells #[.int .i64 a, .int .i64 b] 25)).alloc (.cells #[.int .i64 c, .int .i64 d] 25)) W') := fun W2 o2 p q hp hq l k => Calls.mono (mul_live l up hp.1 hp.2 hq.1 hq.2) fun e W' t => by
    have k2 := k.trans t.2.2
    exact ⟨t.1, HK.out _ k2, t.2.1, k2⟩
  have l0 : Live w v ((W.alloc (.cells #[.int .i64 a, .int .i64 b] 25)).alloc (.cells #[.int .i64 c, .int .i64 d] 25)).drew o := ((L.alloc _).alloc _).drew
  have k0 : Kept v ((W.alloc (.cells #[.int .i64 a, .int .i64 b] 25)).alloc (.cells #[.int .i64 c, .int .i64 d] 25)) ((W.alloc (.cells #[.int .i64 a, .int .i64 b] 25)).alloc (.cells #[.int .i64 c, .int .i64 d] 25)).drew := Kept.drew v _
  have HO : Hid ((((((o || overF (mulF a c up)) || overF (mulF a d up)) || overF (mulF b c up)) || overF (mulF b d up)) = (o || crossOv a b c d up))) := or_assoc4 _ _ _ _ _
  clear L
  go_enter Try.func77, Try.ntmps77
  go_wp2_with fail
  go_region_held3 (fun W' => W'.cell? ⟨W.heap.size, 0, none⟩ = some (.int .i64 a) ∧ W'.cell? ⟨W.heap.size, 1, none⟩ = some (.int .i64 b) ∧ W'.cell? ⟨W.heap.size + 1, 0, none⟩ = some (.int .i64 c) ∧ W'.cell? ⟨W.heap.size + 1, 1, none⟩ = some (.int .i64 d)) (first | exact ⟨by assumption, by assumption, by assumption, by assumption⟩ | go_keep) (first
    | (go_at_call 85; refine (HS.out _ _ _ _ (by assumption) (by assumption) (by assumption) (by assumption)).mono ?_; rintro e W2 ⟨rfl, ⟨c21, c22, c23, c24⟩, l2, k2⟩))
  go_wp2
  go_ret
  refine ⟨_, rfl, row_four W2 _ _ _ _ _ rfl, ?_, HKW.out _ (k2.trans (Kept.alloc v W2 _))⟩
  rw [← HO.out]
  exact l2.alloc _
end Go.Proofs.Ytjnnjjajlafchaa

namespace Go.Proofs.Ytjnnjjajlafchaa
open Go.RowKit
set_option linter.unusedVariables false
set_option maxRecDepth 100000

set_option maxHeartbeats 1000000 in
theorem scross_none {w W : World} {v : Nat} {o : Bool} (L : Live w v W o) (a b c d : Int) (h : b < a ∨ d < c) :
    Calls Try.prog 63 #[.pointer (some ⟨v, 0, none⟩), (.agg #[.int .i64 a, .int .i64 b]), (.agg #[.int .i64 c, .int .i64 d])] W (SpanSays w v o W 0 (-1) false) := by
  have HL : Hid (Live w v W o) := L
  have hv := L.old
  clear L
  go_enter Try.func63, Try.ntmps63
  go_wp2_with fail
  refine Calls.mono (anyEmpty_two _ a b c d true (by simp; omega) _ (by simp)) ?_
  rintro e w1 ⟨rfl, hb⟩
  have HB1 : Hid (Below (W.heap.size + 1 + 1 + 1) (((W.alloc (.cells #[.int .i64 a, .int .i64 b] 25)).alloc (.cells #[.int .i64 c, .int .i64 d] 25)).alloc (.cells #[.int .i64 0, .int .i64 0] 25)) w1) := by simpa [Hid] using hb
  clear hb
  go_wp2_with fail
  refine Calls.mono (snone_any _) ?_
  rintro e w2 ⟨rfl, hb⟩
  have B2 : Below (W.heap.size + 1 + 1 + 1) (((W.alloc (.cells #[.int .i64 a, .int .i64 b] 25)).alloc (.cells #[.int .i64 c, .int .i64 d] 25)).alloc (.cells #[.int .i64 0, .int .i64 0] 25)) w2 := HB1.out.trans (hb.mono (by have := HB1.out.size; simpa using this))
  have r1 : w2.cell? ⟨W.heap.size + 1 + 1, 0, none⟩ = some (.int .i64 0) := (B2.cell (p := ⟨W.heap.size + 1 + 1, 0, none⟩) (by simp)).trans (by simp [go_sem])
  have r2 : w2.cell? ⟨W.heap.size + 1 + 1, 1, none⟩ = some (.int .i64 0) := (B2.cell (p := ⟨W.heap.size + 1 + 1, 1, none⟩) (by simp)).trans (by simp [go_sem])
  have r3 : w2.frozen? ⟨W.heap.size + 1 + 1, 0, none⟩ = false := (B2.frozen (p := ⟨W.heap.size + 1 + 1, 0, none⟩) (by simp)).trans (by simp [go_sem])
  have r4 : w2.frozen? ⟨W.heap.size + 1 + 1, 1, none⟩ = false := (B2.frozen (p := ⟨W.heap.size + 1 + 1, 1, none⟩) (by simp)).trans (by simp [go_sem])
  have HB2 : Hid (Below W.heap.size W w2) := ((((Below.refl _ W).alloc (Nat.le_refl _) _).alloc (by simp) _).alloc (by simp; omega) _).trans (B2.mono (by omega))
  clear hb HB1 B2
  go_wp2
  refine bodyPost_ret (v := (.agg #[.int .i64 (0), .int .i64 (-1)])) (by simp [results, Try.results63, go_sem, r1, r2]) rfl ⟨rfl, ?_⟩
  rw [Bool.or_false]
  exact says_set (HL.out.stays HB2.out) (Kept.of_below HB2.out) _ (by omega) _ _ hv

theorem min_prods (a b c d : Int) : Lib.minOf (prods a b c d false) = crossLo a b c d := by simp [Lib.minOf, prods, crossLo, min4]
theorem max_prods (a b c d : Int) : Lib.maxOf (prods a b c d true) = crossHi a b c d := by simp [Lib.maxOf, prods, crossHi, max4]
set_option maxHeartbeats 4000000 in
theorem scross_some {w W : World} {v : Nat} {o : Bool} (L : Live w v W o) (a b c d : Int) (h1 : a ≤ b) (h2 : c ≤ d) (ha : B64 a) (hb : B64 b) (hc : B64 c) (hd : B64 d) :
    Calls Try.prog 63 #[.pointer (some ⟨v, 0, none⟩), (.agg #[.int .i64 a, .int .i64 b]), (.agg #[.int .i64 c, .int .i64 d])] W (SpanSays w v o W (crossLo a b c d) (crossHi a b c d) (crossOv a b c d false || crossOv a b c d true)) := by
  have hv := L.old
  have HK : Hid (∀ W', Kept v (((W.alloc (.cells #[.int .i64 a, .int .i64 b] 25)).alloc (.cells #[.int .i64 c, .int .i64 d] 25)).alloc (.cells #[.int .i64 0, .int .i64 0] 25)) W' → W'.cell? ⟨W.heap.size, 0, none⟩ = some (.int .i64 a) ∧ W'.cell? ⟨W.heap.size, 1, none⟩ = some (.int .i64 b) ∧ W'.cell? ⟨W.heap.size + 1, 0, none⟩ = some (.int .i64 c) ∧ W'.cell? ⟨W.heap.size + 1, 1, none⟩ = some (.int .i64 d)) := fun W' k => ⟨k.cell (by simp [go_sem]) (by omega), k.cell (by simp [go_sem]) (by omega), k.cell (by simp [go_sem]) (by omega), k.cell (by simp [go_sem]) (by omega)⟩
  have HRr : Hid (∀ W', Kept v (((W.alloc (.cells #[.int .i64 a, .int .i64 b] 25)).alloc (.cells #[.int .i64 c, .int .i64 d] 25)).alloc (.cells #[.int .i64 0, .int .i64 0] 25)) W' → W'.cell? ⟨W.heap.size + 1 + 1, 0, none⟩ = some (.int .i64 0) ∧ W'.cell? ⟨W.heap.size + 1 + 1, 1, none⟩ = some (.int .i64 0) ∧ W'.frozen? ⟨W.heap.size + 1 + 1, 0, none⟩ = false ∧ W'.frozen? ⟨W.heap.size + 1 + 1, 1, none⟩ = false) := fun W' k => ⟨k.cell (by simp [go_sem]) (by omega), k.cell (by simp [go_sem]) (by omega), (k.frz (by simp) (by omega)).trans (by simp [go_sem]), (k.frz (by simp) (by omega)).trans (by simp [go_sem])⟩
  have HKW : Hid (∀ W', Kept v (((W.alloc (.cells #[.int .i64 a, .int .i64 b] 25)).alloc (.cells #[.int .i64 c, .int .i64 d] 25)).alloc (.cells #[.int .i64 0, .int .i64 0] 25)) W' → Kept v W W') := fun W' k => (((Kept.alloc v W _).trans (Kept.alloc v _ _)).trans (Kept.alloc v _ _)).trans k
  have HP : Hid (∀ W2 o2 up, Live w v W2 o2 → Kept v (((W.alloc (.cells #[.int .i64 a, .int .i64 b] 25)).alloc (.cells #[.int .i64 c, .int .i64 d] 25)).alloc (.cells #[.int .i64 0, .int .i64 0] 25)) W2 → Calls Try.prog 77 #[.pointer (some ⟨v, 0, none⟩), (.agg #[.int .i64 a, .int .i64 b]), (.agg #[.int .i64 c, .int .i64 d]), .bool up] W2 fun e W' => ∃ g, e = .returned (.slice (some ⟨g, 0, none⟩) 4 4) ∧ IntRow W' (some ⟨g, 0, none⟩) (prods a b c d up) ∧ (W'.cell? ⟨W.heap.size, 0, none⟩ = some (.int .i64 a) ∧ W'.cell? ⟨W.heap.size, 1, none⟩ = some (.int .i64 b) ∧ W'.cell? ⟨W.heap.size + 1, 0, none⟩ = some (.int .i64 c) ∧ W'.cell? ⟨W.heap.size + 1, 1, none⟩ = some (.int .i64 d)) ∧ Live w v W' (o2 || crossOv a b c d up) ∧ Kept v (((W.alloc (.cells #[.int .i64 a, .int .i64 b] 25)).alloc (.cells #[.int .i64 c, .int .i64 d] 25)).alloc (.cells #[.int .i64 0, .int .i64 0] 25)) W') := fun W2 o2 up l k => Calls.mono (sproducts_any l a b c d up ha hb hc hd) fun e W' t => by
    obtain ⟨g, t1, t2, t3, t4⟩ := t
    have k2 := k.trans t4
    exact ⟨g, t1, t2, HK.out _ k2, t3, k2⟩
  have HMn : Hid (∀ W2 o2 g, IntRow W2 (some ⟨g, 0, none⟩) (prods a b c d false) → Live w v W2 o2 → Kept v (((W.alloc (.cells #[.int .i64 a, .int .i64 b] 25)).alloc (.cells #[.int .i64 c, .int .i64 d] 25)).alloc (.cells #[.int .i64 0, .int .i64 0] 25)) W2 → Calls Try.prog 76 #[.slice (some ⟨g, 0, none⟩) 4 4] W2 fun e W' => e = .returned (.int .i64 (crossLo a b c d)) ∧ (W'.cell? ⟨W.heap.size, 0, none⟩ = some (.int .i64 a) ∧ W'.cell? ⟨W.heap.size, 1, none⟩ = some (.int .i64 b) ∧ W'.cell? ⟨W.heap.size + 1, 0, none⟩ = some (.int .i64 c) ∧ W'.cell? ⟨W.heap.size + 1, 1, none⟩ = some (.int .i64 d)) ∧ Live w v W' o2 ∧ Kept v (((W.alloc (.cells #[.int .i64 a, .int .i64 b] 25)).alloc (.cells #[.int .i64 c, .int .i64 d] 25)).alloc (.cells #[.int .i64 0, .int .i64 0] 25)) W') := fun W2 o2 g hr l k => Calls.mono (min_any (some ⟨g, 0, none⟩) (prods a b c d false) 4 W2 hr (by simp [prods])) fun e W' t => by
    obtain ⟨t1, t2⟩ := t
    subst t2
    rw [min_prods] at t1
    exact ⟨t1, HK.out _ k, l, k⟩
  have HMx : Hid (∀ W2 o2 g, IntRow W2 (some ⟨g, 0, none⟩) (prods a b c d true) → Live w v W2 o2 → Kept v (((W.alloc (.cells #[.int .i64 a, .int .i64 b] 25)).alloc (.cells #[.int .i64 c, .int .i64 d] 25)).alloc (.cells #[.int .i64 0, .int .i64 0] 25)) W2 → Calls Try.prog 78 #[.slice (some ⟨g, 0, none⟩) 4 4] W2 fun e W' => e = .returned (.int .i64 (crossHi a b c d)) ∧ (W'.cell? ⟨W.heap.size, 0, none⟩ = some (.int .i64 a) ∧ W'.cell? ⟨W.heap.size, 1, none⟩ = some (.int .i64 b) ∧ W'.cell? ⟨W.heap.size + 1, 0, none⟩ = some (.int .i64 c) ∧ W'.cell? ⟨W.heap.size + 1, 1, none⟩ = some (.int .i64 d)) ∧ (W'.cell? ⟨W.heap.size + 1 + 1, 0, none⟩ = some (.int .i64 0) ∧ W'.cell? ⟨W.heap.size + 1 + 1, 1, none⟩ = some (.int .i64 0) ∧ W'.frozen? ⟨W.heap.size + 1 + 1, 0, none⟩ = false ∧ W'.frozen? ⟨W.heap.size + 1 + 1, 1, none⟩ = false) ∧ Live w v W' o2 ∧ Kept v (((W.alloc (.cells #[.int .i64 a, .int .i64 b] 25)).alloc (.cells #[.int .i64 c, .int .i64 d] 25)).alloc (.cells #[.int .i64 0, .int .i64 0] 25)) W') := fun W2 o2 g hr l k => Calls.mono (max_any (some ⟨g, 0, none⟩) (prods a b c d true) 4 W2 hr (by simp [prods])) fun e W' t => by
    obtain ⟨t1, t2⟩ := t
    subst t2
    rw [max_prods] at t1
    exact ⟨t1, HK.out _ k, HRr.out _ k, l, k⟩
  have HL : Hid (Live w v W o) := L
  clear L ha hb hc hd
  go_enter Try.func63, Try.ntmps63
  go_wp2_with fail
  refine Calls.mono (anyEmpty_two _ a b c d false (by simp; omega) _ (by simp)) ?_
  rintro e w1 ⟨rfl, hb1⟩
  have l0 : Live w v w1.drew o := (((HL.out.alloc _).alloc _).alloc _).stays hb1 |>.drew
  have k0 : Kept v (((W.alloc (.cells #[.int .i64 a, .int .i64 b] 25)).alloc (.cells #[.int .i64 c, .int .i64 d] 25)).alloc (.cells #[.int .i64 0, .int .i64 0] 25)) w1.drew := (Kept.of_below hb1).trans (Kept.drew v w1)
  have cc : ∀ W' : World, W' = w1.drew → W'.cell? ⟨W.heap.size, 0, none⟩ = some (.int .i64 a) ∧ W'.cell? ⟨W.heap.size, 1, none⟩ = some (.int .i64 b) ∧ W'.cell? ⟨W.heap.size + 1, 0, none⟩ = some (.int .i64 c) ∧ W'.cell? ⟨W.heap.size + 1, 1, none⟩ = some (.int .i64 d) := fun W' hW => by subst hW; exact HK.out _ k0
  have c1 := (cc _ rfl).1
  have c2 := (cc _ rfl).2.1
  have c3 := (cc _ rfl).2.2.1
  have c4 := (cc _ rfl).2.2.2
  simp only [World.cell?_drew] at c1 c2 c3 c4
  have hne1 : W.heap.size ≠ W.heap.size + 1 + 1 := by omega
  have hne2 : W.heap.size + 1 + 1 ≠ W.heap.size := by omega
  clear hb1 cc
  go_wp2_with fail
  go_region_held3 (fun W' => W'.cell? ⟨W.heap.size, 0, none⟩ = some (.int .i64 a) ∧ W'.cell? ⟨W.heap.size, 1, none⟩ = some (.int .i64 b) ∧ W'.cell? ⟨W.heap.size + 1, 0, none⟩ = some (.int .i64 c) ∧ W'.cell? ⟨W.heap.size + 1, 1, none⟩ = some (.int .i64 d)) (first | exact ⟨by assumption, by assumption, by assumption, by assumption⟩ | go_keep) (first
    | (go_at_call 77; refine (HP.out _ _ _ (by assumption) (by assumption)).mono ?_; rintro e W2 ⟨g2, rfl, row2, ⟨c21, c22, c23, c24⟩, l2, k2⟩)
    | (go_at_call 76; refine (HMn.out _ _ _ (by assumption) (by assumption) (by assumption)).mono ?_; rintro e W2 ⟨rfl, ⟨c21, c22, c23, c24⟩, l2, k2⟩)
    | (go_at_call 78; refine (HMx.out _ _ _ (by assumption) (by assumption) (by assumption)).mono ?_; rintro e W2 ⟨rfl, ⟨c21, c22, c23, c24⟩, ⟨r1, r2, r3, r4⟩, l2, k2⟩))
  go_wp2
  refine bodyPost_ret (v := (.agg #[.int .i64 (crossLo a b c d), .int .i64 (crossHi a b c d)])) (by simp [results, Try.results63, go_sem, r1, r2]) rfl ⟨rfl, ?_⟩
  rw [← Bool.or_assoc]
  exact says_set l2 (HKW.out _ k2) _ (by omega) _ _ hv

set_option maxHeartbeats 1000000 in
theorem stimes_run {w W : World} {v : Nat} {o : Bool} (L : Live w v W o) (a b c lo hi : Int) (ov : Bool)
    (hx : ∀ W2, Live w v W2 o → Calls Try.prog 63 #[.pointer (some ⟨v, 0, none⟩), (.agg #[.int .i64 a, .int .i64 b]), (.agg #[.int .i64 c, .int .i64 c])] W2 (SpanSays w v o W2 lo hi ov)) :
    Calls Try.prog 45 #[.pointer (some ⟨v, 0, none⟩), (.agg #[.int .i64 a, .int .i64 b]), .int .i64 c] W (SpanSays w v o W lo hi ov) := by
  have hv := L.old
  have HL : Hid (Live w v W o) := L
  have HX : Hid (∀ W2, Live w v W2 o → Calls Try.prog 63 #[.pointer (some ⟨v, 0, none⟩), (.agg #[.int .i64 a, .int .i64 b]), (.agg #[.int .i64 c, .int .i64 c])] W2 (SpanSays w v o W2 lo hi ov)) := hx
  clear L hx
  go_enter Try.func45, Try.ntmps45
  go_wp2_with fail
  refine Calls.mono (HX.out _ ((HL.out.alloc _).alloc _)) ?_
  rintro e W2 ⟨rfl, l2, k2⟩
  have r1 : W2.cell? ⟨W.heap.size + 1, 0, none⟩ = some (.int .i64 0) := k2.cell (by simp [go_sem]) (by omega)
  have r2 : W2.cell? ⟨W.heap.size + 1, 1, none⟩ = some (.int .i64 0) := k2.cell (by simp [go_sem]) (by omega)
  have r3 : W2.frozen? ⟨W.heap.size + 1, 0, none⟩ = false := (k2.frz (by simp) (by omega)).trans (by simp [go_sem])
  have r4 : W2.frozen? ⟨W.heap.size + 1, 1, none⟩ = false := (k2.frz (by simp) (by omega)).trans (by simp [go_sem])
  have HLK : Hid (Live w v W2 (o || ov) ∧ Kept v W W2) := ⟨l2, ((Kept.alloc v W _).trans (Kept.alloc v _ _)).trans k2⟩
  clear l2 k2 HX
  go_wp2
  refine bodyPost_ret (v := (.agg #[.int .i64 lo, .int .i64 hi])) (by simp [results, Try.results45, go_sem, r1, r2]) rfl ⟨rfl, ?_⟩
  exact says_set HLK.out.1 HLK.out.2 _ (by omega) _ _ hv
theorem stimes_none {w W : World} {v : Nat} {o : Bool} (L : Live w v W o) (a b c : Int) (h : b < a) :
    Calls Try.prog 45 #[.pointer (some ⟨v, 0, none⟩), (.agg #[.int .i64 a, .int .i64 b]), .int .i64 c] W (SpanSays w v o W 0 (-1) false) :=
  stimes_run L a b c 0 (-1) false fun W2 l => scross_none l a b c c (.inl h)
theorem stimes_some {w W : World} {v : Nat} {o : Bool} (L : Live w v W o) (a b c : Int) (h : a ≤ b) (ha : B64 a) (hb : B64 b) (hc : B64 c) :
    Calls Try.prog 45 #[.pointer (some ⟨v, 0, none⟩), (.agg #[.int .i64 a, .int .i64 b]), .int .i64 c] W (SpanSays w v o W (crossLo a b c c) (crossHi a b c c) (crossOv a b c c false || crossOv a b c c true)) :=
  stimes_run L a b c _ _ _ fun W2 l => scross_some l a b c c h (Int.le_refl c) ha hb hc hc
end Go.Proofs.Ytjnnjjajlafchaa

namespace Go.Proofs.Ytjnnjjajlafchaa
open Go.RowKit
set_option linter.unusedVariables false
set_option maxRecDepth 100000

theorem SpanRow.kept {w w' : World} {a : Option Addr} {ss : List (Int × Int)} {v : Nat} (h : SpanRow w a ss) (k : Kept v w w') (ha : ∀ x, a = some x → x.block ≠ v) : SpanRow w' a ss := by
  intro i hi
  obtain ⟨b, off, rfl, hc, hd⟩ := h i hi
  have hb := ha _ rfl
  exact ⟨b, off, rfl, k.cell hc hb, k.cell hd hb⟩
set_option maxHeartbeats 1000000 in
theorem splus_none {w W : World} {v : Nat} {o : Bool} (L : Live w v W o) (a : Option Addr) (ss : List (Int × Int)) (cap : Nat) (hr : SpanRow W a ss) (hl : ss.length ≤ 400000) (h : anyE ss = true) :
    Calls Try.prog 47 #[.pointer (some ⟨v, 0, none⟩), .slice a ss.length cap] W (SpanSays w v o W 0 (-1) false) := by
  have HL : Hid (Live w v W o) := L
  have hv := L.old
  have HR : Hid (∀ ob, SpanRow (W.alloc ob) a ss) := fun ob => hr.stays ((Below.refl _ W).alloc (Nat.le_refl _) ob) (Nat.le_refl _)
  have HE : Hid (anyE ss = true) := h
  clear L hr h
  go_enter Try.func47, Try.ntmps47
  go_wp2_with fail
  refine Calls.mono (anyEmpty_any _ _ _ _ (HR.out _) (by omega)) ?_
  rintro e w1 ⟨he, hb⟩
  rw [HE.out] at he
  subst he
  have HB1 : Hid (Below (W.heap.size + 1) (W.alloc (.cells #[.int .i64 0, .int .i64 0] 25)) w1) := by simpa [Hid] using hb
  clear hb
  go_wp2_with fail
  refine Calls.mono (snone_any _) ?_
  rintro e w2 ⟨rfl, hb⟩
  have B2 : Below (W.heap.size + 1) (W.alloc (.cells #[.int .i64 0, .int .i64 0] 25)) w2 := HB1.out.trans (hb.mono (by have := HB1.out.size; simpa using this))
  have r1 : w2.cell? ⟨W.heap.size, 0, none⟩ = some (.int .i64 0) := (B2.cell (p := ⟨W.heap.size, 0, none⟩) (by simp)).trans (by simp [go_sem])
  have r2 : w2.cell? ⟨W.heap.size, 1, none⟩ = some (.int .i64 0) := (B2.cell (p := ⟨W.heap.size, 1, none⟩) (by simp)).trans (by simp [go_sem])
  have r3 : w2.frozen? ⟨W.heap.size, 0, none⟩ = false := (B2.frozen (p := ⟨W.heap.size, 0, none⟩) (by simp)).trans (by simp [go_sem])
  have r4 : w2.frozen? ⟨W.heap.size, 1, none⟩ = false := (B2.frozen (p := ⟨W.heap.size, 1, none⟩) (by simp)).trans (by simp [go_sem])
  have HB2 : Hid (Below W.heap.size W w2) := ((Below.refl _ W).alloc (Nat.le_refl _) _).trans (B2.mono (by omega))
  clear hb HB1 B2
  go_wp2
  refine bodyPost_ret (v := (.agg #[.int .i64 (0), .int .i64 (-1)])) (by simp [results, Try.results47, go_sem, r1, r2]) rfl ⟨rfl, ?_⟩
  rw [Bool.or_false]
  exact says_set (HL.out.stays HB2.out) (Kept.of_below HB2.out) _ (by omega) _ _ hv
/-- All ends are ints. -/
def FitsS (ss : List (Int × Int)) : Prop := Fits (ss.map Prod.fst) ∧ Fits (ss.map Prod.snd)
set_option maxHeartbeats 4000000 in
theorem splus_some {w W : World} {v : Nat} {o : Bool} (L : Live w v W o) (a : Option Addr) (ss : List (Int × Int)) (cap : Nat) (hr : SpanRow W a ss) (hn : ∀ x, a = some x → x.block ≠ v) (hf : FitsS ss) (hl : ss.length ≤ 400000) (h : anyE ss = false) :
    Calls Try.prog 47 #[.pointer (some ⟨v, 0, none⟩), .slice a ss.length cap] W (SpanSays w v o W (clampF (sumL (ss.map Prod.fst))) (clampF (sumL (ss.map Prod.snd))) (overF (sumL (ss.map Prod.fst)) || overF (sumL (ss.map Prod.snd)))) := by
  have hv := L.old
  have HKW : Hid (∀ W', Kept v (W.alloc (.cells #[.int .i64 0, .int .i64 0] 25)) W' → Kept v W W') := fun W' k => (Kept.alloc v W _).trans k
  have HRr : Hid (∀ W', Kept v (W.alloc (.cells #[.int .i64 0, .int .i64 0] 25)) W' → W'.cell? ⟨W.heap.size, 0, none⟩ = some (.int .i64 0) ∧ W'.cell? ⟨W.heap.size, 1, none⟩ = some (.int .i64 0) ∧ W'.frozen? ⟨W.heap.size, 0, none⟩ = false ∧ W'.frozen? ⟨W.heap.size, 1, none⟩ = false) := fun W' k => ⟨k.cell (by simp [go_sem]) (by omega), k.cell (by simp [go_sem]) (by omega), (k.frz (by simp) (by omega)).trans (by simp [go_sem]), (k.frz (by simp) (by omega)).trans (by simp [go_sem])⟩
  have HR : Hid (∀ W', Kept v W W' → SpanRow W' a ss) := fun W' k => hr.kept k hn
  have HLo : Hid (∀ W2 o2, Live w v W2 o2 → Kept v (W.alloc (.cells #[.int .i64 0, .int .i64 0] 25)) W2 → Calls Try.prog 67 #[.slice a ss.length cap] W2 fun e W' => ∃ a' cap', e = .returned (.slice a' ss.length cap') ∧ IntRow W' a' (ss.map Prod.fst) ∧ Live w v W' o2 ∧ Kept v (W.alloc (.cells #[.int .i64 0, .int .i64 0] 25)) W') := fun W2 o2 l k => Calls.mono (lows_any a ss cap W2 (HR.out _ (HKW.out _ k)) (by omega)) fun e W' t => by
    obtain ⟨u, t1, t2, t3⟩ := t
    obtain ⟨a', cap', hu, hrow⟩ := own_any t2
    rw [List.length_map] at hu
    exact ⟨a', cap', by rw [t1, hu], hrow, l.stays t3, k.below t3⟩
  have HHi : Hid (∀ W2 o2, Live w v W2 o2 → Kept v (W.alloc (.cells #[.int .i64 0, .int .i64 0] 25)) W2 → Calls Try.prog 68 #[.slice a ss.length cap] W2 fun e W' => ∃ a' cap', e = .returned (.slice a' ss.length cap') ∧ IntRow W' a' (ss.map Prod.snd) ∧ Live w v W' o2 ∧ Kept v (W.alloc (.cells #[.int .i64 0, .int .i64 0] 25)) W') := fun W2 o2 l k => Calls.mono (highs_any a ss cap W2 (HR.out _ (HKW.out _ k)) (by omega)) fun e W' t => by
    obtain ⟨u, t1, t2, t3⟩ := t
    obtain ⟨a', cap', hu, hrow⟩ := own_any t2
    rw [List.length_map] at hu
    exact ⟨a', cap', by rw [t1, hu], hrow, l.stays t3, k.below t3⟩
  obtain ⟨X, hX⟩ : ∃ X, clampF (sumL (ss.map Prod.fst)) = X := ⟨_, rfl⟩
  obtain ⟨Y, hY⟩ : ∃ Y, clampF (sumL (ss.map Prod.snd)) = Y := ⟨_, rfl⟩
  obtain ⟨p, hp⟩ : ∃ p, overF (sumL (ss.map Prod.fst)) = p := ⟨_, rfl⟩
  obtain ⟨q, hq⟩ : ∃ q, overF (sumL (ss.map Prod.snd)) = q := ⟨_, rfl⟩
  have HA1 : Hid (∀ W2 o2 a' cap', IntRow W2 a' (ss.map Prod.fst) → Live w v W2 o2 → Kept v (W.alloc (.cells #[.int .i64 0, .int .i64 0] 25)) W2 → Calls Try.prog 66 #[.pointer (some ⟨v, 0, none⟩), .slice a' ss.length cap'] W2 fun e W' => e = .returned (.int .i64 X) ∧ Live w v W' (o2 || p) ∧ Kept v (W.alloc (.cells #[.int .i64 0, .int .i64 0] 25)) W') := fun W2 o2 a' cap' hrow l k => by
    have t0 := add_live l a' (ss.map Prod.fst) cap' hrow hf.1 (by simp; omega)
    rw [List.length_map] at t0
    refine Calls.mono t0 fun e W' t => ?_
    rw [← hX, ← hp]
    exact ⟨t.1, t.2.1, k.trans t.2.2⟩
  have HA2 : Hid (∀ W2 o2 a' cap', IntRow W2 a' (ss.map Prod.snd) → Live w v W2 o2 → Kept v (W.alloc (.cells #[.int .i64 0, .int .i64 0] 25)) W2 → Calls Try.prog 66 #[.pointer (some ⟨v, 0, none⟩), .slice a' ss.length cap'] W2 fun e W' => e = .returned (.int .i64 Y) ∧ (W'.cell? ⟨W.heap.size, 0, none⟩ = some (.int .i64 0) ∧ W'.cell? ⟨W.heap.size, 1, none⟩ = some (.int .i64 0) ∧ W'.frozen? ⟨W.heap.size, 0, none⟩ = false ∧ W'.frozen? ⟨W.heap.size, 1, none⟩ = false) ∧ Live w v W' (o2 || q) ∧ Kept v (W.alloc (.cells #[.int .i64 0, .int .i64 0] 25)) W') := fun W2 o2 a' cap' hrow l k => by
    have t0 := add_live l a' (ss.map Prod.snd) cap' hrow hf.2 (by simp; omega)
    rw [List.length_map] at t0
    refine Calls.mono t0 fun e W' t => ?_
    rw [← hY, ← hq]
    exact ⟨t.1, HRr.out _ (k.trans t.2.2), t.2.1, k.trans t.2.2⟩
  rw [hX, hY, hp, hq]
  have HL : Hid (Live w v W o) := L
  have HE : Hid (anyE ss = false) := h
  clear L hr h hX hY hp hq hf hn
  go_enter Try.func47, Try.ntmps47
  go_wp2_with fail
  refine Calls.mono (anyEmpty_any _ _ _ _ (HR.out _ (Kept.alloc v W _)) (by omega)) ?_
  rintro e w1 ⟨he, hb⟩
  rw [HE.out] at he
  subst he
  have l0 : Live w v w1.drew o := ((HL.out.alloc _).stays hb).drew
  have k0 : Kept v (W.alloc (.cells #[.int .i64 0, .int .i64 0] 25)) w1.drew := (Kept.of_below hb).trans (Kept.drew v w1)
  clear hb
  go_wp2_with fail
  go_region_held3 (fun W' => True) (exact trivial) (first
    | (go_at_call 67; refine (HLo.out _ _ (by assumption) (by assumption)).mono ?_; rintro e W2 ⟨a2, cap2, rfl, row2, l2, k2⟩)
    | (go_at_call 68; refine (HHi.out _ _ (by assumption) (by assumption)).mono ?_; rintro e W4 ⟨a4, cap4, rfl, row4, l4, k4⟩)
    | (go_at_call 66; refine (HA1.out _ _ _ _ (by assumption) (by assumption) (by assumption)).mono ?_; rintro e W3 ⟨rfl, l3, k3⟩)
    | (go_at_call 66; refine (HA2.out _ _ _ _ (by assumption) (by assumption) (by assumption)).mono ?_; rintro e W5 ⟨rfl, ⟨r1, r2, r3, r4⟩, l5, k5⟩))
  go_wp2
  refine bodyPost_ret (v := (.agg #[.int .i64 X, .int .i64 Y])) (by simp [results, Try.results47, go_sem, r1, r2]) rfl ⟨rfl, ?_⟩
  rw [← Bool.or_assoc]
  exact says_set l5 (HKW.out _ k5) _ (by omega) _ _ hv
end Go.Proofs.Ytjnnjjajlafchaa
