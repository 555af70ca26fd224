/- Plus of spans that the law laid; the law's own first call: 'alive' tells true, and turns nothing that was there. Conditions: the numbers' own ranges. -/
import Derived.Test.YthnhlgiibiephabSpanF
import Derived.Test.YthnhlgiibiephabSpanW
namespace Go.Proofs.Ythnhlgiibiephab
open Go.RowKit
set_option linter.unusedVariables false
set_option maxRecDepth 100000

theorem SpanSays.from {w W0 W : World} {v : Nat} {o : Bool} {lo hi : Int} {ov : Bool} {e : Ending} {W' : World} (k : Kept v W0 W) (t : SpanSays w v o W lo hi ov e W') : SpanSays w v o W0 lo hi ov e W' := ⟨t.1, t.2.1, k.trans t.2.2⟩
theorem splus_two {w W : World} {v : Nat} {o : Bool} (L : Live w v W o) (a b c d : Int) (h1 : a ≤ b) (h2 : c ≤ d) (ha : B64 a) (hb : B64 b) (hc : B64 c) (hd : B64 d) (g : Nat) (hg : g = W.heap.size) :
    Calls Try.prog 14 #[.pointer (some ⟨v, 0, none⟩), .slice (some ⟨g, 0, none⟩) 2 2] (W.alloc (.cells #[.int .i64 a, .int .i64 b, .int .i64 c, .int .i64 d] 23)) (SpanSays w v o W (clampF (a + c)) (clampF (b + d)) (overF (a + c) || overF (b + d))) := by
  have hv := L.old
  have t := splus_some (L.alloc (.cells #[.int .i64 a, .int .i64 b, .int .i64 c, .int .i64 d] 23)) (some ⟨g, 0, none⟩) [(a, b), (c, d)] 2 (row_two W a b c d g hg) (fun x hx => by cases hx; show g ≠ v; omega)
    ⟨fun x hx => by simp at hx; rcases hx with rfl | rfl; exact ha; exact hc, fun x hx => by simp at hx; rcases hx with rfl | rfl; exact hb; exact hd⟩ (by simp) (by simp [anyE]; omega)
  have e1 : sumL ([(a, b), (c, d)].map Prod.fst) = a + c := by simp [sumL]
  have e2 : sumL ([(a, b), (c, d)].map Prod.snd) = b + d := by simp [sumL]
  rw [e1, e2] at t
  exact Calls.mono t fun e W' t => t.from (Kept.alloc v W _)
theorem splus_two_none {w W : World} {v : Nat} {o : Bool} (L : Live w v W o) (a b c d : Int) (h : b < a ∨ d < c) (g : Nat) (hg : g = W.heap.size) :
    Calls Try.prog 14 #[.pointer (some ⟨v, 0, none⟩), .slice (some ⟨g, 0, none⟩) 2 2] (W.alloc (.cells #[.int .i64 a, .int .i64 b, .int .i64 c, .int .i64 d] 23)) (SpanSays w v o W 0 (-1) false) := by
  have t := splus_none (L.alloc (.cells #[.int .i64 a, .int .i64 b, .int .i64 c, .int .i64 d] 23)) (some ⟨g, 0, none⟩) [(a, b), (c, d)] 2 (row_two W a b c d g hg) (by simp) (by simp [anyE]; omega)
  exact Calls.mono t fun e W' t => t.from (Kept.alloc v W _)
theorem row_one (W : World) (a b : Int) (g : Nat) (hg : g = W.heap.size) : SpanRow (W.alloc (.cells #[.int .i64 a, .int .i64 b] 23)) (some ⟨g, 0, none⟩) [(a, b)] := by
  subst hg
  intro i hi
  refine ⟨W.heap.size, 0, rfl, ?_⟩
  match i, hi with
  | 0, _ => simp
theorem row_three (W : World) (a b c d p q : Int) (g : Nat) (hg : g = W.heap.size) : SpanRow (W.alloc (.cells #[.int .i64 a, .int .i64 b, .int .i64 c, .int .i64 d, .int .i64 p, .int .i64 q] 23)) (some ⟨g, 0, none⟩) [(a, b), (c, d), (p, q)] := by
  subst hg
  intro i hi
  refine ⟨W.heap.size, 0, rfl, ?_⟩
  match i, hi with
  | 0, _ => simp
  | 1, _ => simp
  | 2, _ => simp
theorem splus_one {w W : World} {v : Nat} {o : Bool} (L : Live w v W o) (a b : Int) (h1 : a ≤ b) (ha : B64 a) (hb : B64 b) (g : Nat) (hg : g = W.heap.size) :
    Calls Try.prog 14 #[.pointer (some ⟨v, 0, none⟩), .slice (some ⟨g, 0, none⟩) 1 1] (W.alloc (.cells #[.int .i64 a, .int .i64 b] 23)) (SpanSays w v o W (clampF a) (clampF b) (overF a || overF b)) := by
  have hv := L.old
  have t := splus_some (L.alloc (.cells #[.int .i64 a, .int .i64 b] 23)) (some ⟨g, 0, none⟩) [(a, b)] 1 (row_one W a b g hg) (fun x hx => by cases hx; show g ≠ v; omega)
    ⟨fun x hx => by simp at hx; rcases hx with rfl; exact ha, fun x hx => by simp at hx; rcases hx with rfl; exact hb⟩ (by simp) (by simp [anyE]; omega)
  have e1 : sumL ([(a, b)].map Prod.fst) = a := by simp [sumL]
  have e2 : sumL ([(a, b)].map Prod.snd) = b := by simp [sumL]
  rw [e1, e2] at t
  exact Calls.mono t fun e W' t => t.from (Kept.alloc v W _)
theorem splus_zero {w W : World} {v : Nat} {o : Bool} (L : Live w v W o) :
    Calls Try.prog 14 #[.pointer (some ⟨v, 0, none⟩), .slice none 0 0] W (SpanSays w v o W 0 0 false) := by
  have t := splus_some L none [] 0 (fun i hi => by simp at hi) (fun x hx => by cases hx) ⟨fun x hx => by simp at hx, fun x hx => by simp at hx⟩ (by simp) rfl
  exact t
/-- '&span.Acc{}' -/
theorem Live.sacc (w W : World) (o : Bool) (t : Nat) (h : Below w.heap.size w W) : Live w W.heap.size (W.alloc (.cells #[.bool o] t)) o :=
  ⟨by simp, by simp, h.size, by simp, h.alloc h.size _⟩
theorem halves_03 (W : World) : Calls Try.prog 24 #[(.agg #[.int .i64 0, .int .i64 3])] W fun e w' => e = .returned (.tuple #[(.agg #[.int .i64 0, .int .i64 1]), (.agg #[.int .i64 2, .int .i64 3])]) ∧ Below W.heap.size W w' :=
  shalves_two 0 3 W (by omega) (by omega) (by omega) (by omega) (by omega)
theorem plus_22 {w W : World} {v : Nat} (L : Live w v W false) (g : Nat) (hg : g = W.heap.size) :
    Calls Try.prog 14 #[.pointer (some ⟨v, 0, none⟩), .slice (some ⟨g, 0, none⟩) 2 2] (W.alloc (.cells #[.int .i64 1, .int .i64 2, .int .i64 10, .int .i64 20] 23)) (SpanSays w v false W 11 22 false) :=
  splus_two L 1 2 10 20 (by omega) (by omega) ⟨by omega, by omega⟩ ⟨by omega, by omega⟩ ⟨by omega, by omega⟩ ⟨by omega, by omega⟩ g hg
theorem add_12 {w W : World} {v : Nat} (L : Live w v W false) (g : Nat) (hg : g = W.heap.size) :
    Calls Try.prog 19 #[.pointer (some ⟨v, 0, none⟩), .slice (some ⟨g, 0, none⟩) 2 2] (W.alloc (.cells #[.int .i64 1, .int .i64 2] 3)) fun e W' => e = .returned (.int .i64 3) ∧ Live w v W' false :=
  Calls.mono (add_two L g hg (by omega) (by omega) (by omega) (by omega)) fun e W' t => ⟨t.1, t.2.1⟩
set_option maxHeartbeats 2000000 in
theorem salive_any (w : World) :
    Calls Try.prog 10 #[] w fun e w' => e = .returned (.bool true) ∧ Below w.heap.size w w' := by
  have HL0 : Hid (∀ t, Live w w.heap.size (w.alloc (.cells #[.bool false] t)) false) := fun t => Live.sacc w w false t (Below.refl _ w)
  go_enter Try.func10, Try.ntmps10
  go_wp2_with fail
  refine Calls.mono (plus_22 (HL0.out _) _ (by simp)) ?_
  rintro e w1 ⟨rfl, l1, k1⟩
  have HL1 : Hid (Live w w.heap.size w1 false) := l1
  clear l1 k1 HL0
  go_wp2_with fail
  refine Calls.mono (halves_03 _) ?_
  rintro e w2 ⟨rfl, hb⟩
  have l2 : Live w w.heap.size w2 false := (HL1.out.alloc _).stays hb
  have q1 : w2.cell? ⟨w1.heap.size, 0, none⟩ = some (.int .i64 11) := cell_later hb (by simp)
  have q2 : w2.cell? ⟨w1.heap.size, 1, none⟩ = some (.int .i64 22) := cell_later hb (by simp)
  have q3 := l2.cell
  have z1 : w1.heap.size < w2.heap.size := by have := hb.size; simp at this; omega
  have z2 : w.heap.size < w2.heap.size := l2.old
  have HL2 : Hid (Live w w.heap.size ((w2.alloc (.cells #[.int .i64 0, .int .i64 1] 23)).alloc (.cells #[.int .i64 2, .int .i64 3] 23)) false) := (l2.alloc _).alloc _
  clear hb l2 HL1
  go_wp2_with fail
  refine Calls.mono (add_12 HL2.out _ (by simp)) ?_
  rintro e w3 ⟨rfl, l3⟩
  go_wp2
  go_ret
  exact ⟨rfl, l3.below⟩
theorem salive_live {w W : World} {b : Nat} {o : Bool} (h : Live w b W o) :
    Calls Try.prog 10 #[] W fun e W' => e = .returned (.bool true) ∧ Live w b W' o ∧ Below W.heap.size W W' :=
  Calls.mono (salive_any W) fun _ _ t => ⟨t.1, h.stays t.2, t.2⟩
end Go.Proofs.Ythnhlgiibiephab
