/- The contract of span's products. Conditions: the numbers' own ranges. -/
import Derived.Test.YtjnnjjajlafchaaSpanC
namespace Go.Proofs.Ytjnnjjajlafchaa
open Go.RowKit
set_option linter.unusedVariables false
set_option maxRecDepth 100000

theorem or_assoc4 (o p q r s : Bool) : ((((o || p) || q) || r) || s) = (o || (p || q || r || s)) := by cases o <;> simp
theorem row_four (W : World) (p q r s : Int) (g : Nat) (hg : g = W.heap.size) : IntRow (W.alloc (.cells #[.int .i64 p, .int .i64 q, .int .i64 r, .int .i64 s] 3)) (some ⟨g, 0, none⟩) [p, q, r, s] := by
  subst hg
  intro i hi
  refine ⟨W.heap.size, 0, rfl, ?_⟩
  match i, hi with
  | 0, _ => simp
  | 1, _ => simp
  | 2, _ => simp
  | 3, _ => simp
/-- The four products of ends. -/
def prods (a b c d : Int) (up : Bool) : List Int := [clampF (mulF a c up), clampF (mulF a d up), clampF (mulF b c up), clampF (mulF b d up)]
set_option maxHeartbeats 4000000 in
theorem sproducts_any {w W : World} {v : Nat} {o : Bool} (L : Live w v W o) (a b c d : Int) (up : Bool) (ha : B64 a) (hb : B64 b) (hc : B64 c) (hd : B64 d) :
    Calls Try.prog 77 #[.pointer (some ⟨v, 0, none⟩), (.agg #[.int .i64 a, .int .i64 b]), (.agg #[.int .i64 c, .int .i64 d]), .bool up] W fun e W' => ∃ g, e = .returned (.slice (some ⟨g, 0, none⟩) 4 4) ∧ IntRow W' (some ⟨g, 0, none⟩) (prods a b c d up) ∧ Live w v W' (o || crossOv a b c d up) ∧ Kept v W W' := by
  have hv := L.old
  have HK : Hid (∀ W', Kept v ((W.alloc (.cells #[.int .i64 a, .int .i64 b] 25)).alloc (.cells #[.int .i64 c, .int .i64 d] 25)) W' → W'.cell? ⟨W.heap.size, 0, none⟩ = some (.int .i64 a) ∧ W'.cell? ⟨W.heap.size, 1, none⟩ = some (.int .i64 b) ∧ W'.cell? ⟨W.heap.size + 1, 0, none⟩ = some (.int .i64 c) ∧ W'.cell? ⟨W.heap.size + 1, 1, none⟩ = some (.int .i64 d)) := fun W' k => ⟨k.cell (by simp [go_sem]) (by omega), k.cell (by simp [go_sem]) (by omega), k.cell (by simp [go_sem]) (by omega), k.cell (by simp [go_sem]) (by omega)⟩
  have HKW : Hid (∀ W', Kept v ((W.alloc (.cells #[.int .i64 a, .int .i64 b] 25)).alloc (.cells #[.int .i64 c, .int .i64 d] 25)) W' → Kept v W W') := fun W' k => ((Kept.alloc v W _).trans (Kept.alloc v _ _)).trans k
  have HS : Hid (∀ W2 o2 p q, B64 p → B64 q → Live w v W2 o2 → Kept v ((W.alloc (.cells #[.int .i64 a, .int .i64 b] 25)).alloc (.cells #[.int .i64 c, .int .i64 d] 25)) W2 → Calls Try.prog 85 #[.pointer (some ⟨v, 0, none⟩), .int .i64 p, .int .i64 q, .bool up] W2 fun e W' => e = .returned (.int .i64 (clampF (mulF p q up))) ∧ (W'.cell? ⟨W.heap.size, 0, none⟩ = some (.int .i64 a) ∧ W'.cell? ⟨W.heap.size, 1, none⟩ = some (.int .i64 b) ∧ W'.cell? ⟨W.heap.size + 1, 0, none⟩ = some (.int .i64 c) ∧ W'.cell? ⟨W.heap.size + 1, 1, none⟩ = some (.int .i64 d)) ∧ Live w v W' (o2 || overF (mulF p q up)) ∧ Kept v ((W.alloc (.cells #[.int .i64 a, .int .i64 b] 25)).alloc (.cells #[.int .i64 c, .int .i64 d] 25)) W') := fun W2 o2 p q hp hq l k => Calls.mono (mul_live l up hp.1 hp.2 hq.1 hq.2) fun e W' t => by
    have k2 := k.trans t.2.2
    exact ⟨t.1, HK.out _ k2, t.2.1, k2⟩
  have l0 : Live w v ((W.alloc (.cells #[.int .i64 a, .int .i64 b] 25)).alloc (.cells #[.int .i64 c, .int .i64 d] 25)).drew o := ((L.alloc _).alloc _).drew
  have k0 : Kept v ((W.alloc (.cells #[.int .i64 a, .int .i64 b] 25)).alloc (.cells #[.int .i64 c, .int .i64 d] 25)) ((W.alloc (.cells #[.int .i64 a, .int .i64 b] 25)).alloc (.cells #[.int .i64 c, .int .i64 d] 25)).drew := Kept.drew v _
  have HO : Hid ((((((o || overF (mulF a c up)) || overF (mulF a d up)) || overF (mulF b c up)) || overF (mulF b d up)) = (o || crossOv a b c d up))) := or_assoc4 _ _ _ _ _
  clear L
  go_enter Try.func77, Try.ntmps77
  go_wp2_with fail
  go_region_held3 (fun W' => W'.cell? ⟨W.heap.size, 0, none⟩ = some (.int .i64 a) ∧ W'.cell? ⟨W.heap.size, 1, none⟩ = some (.int .i64 b) ∧ W'.cell? ⟨W.heap.size + 1, 0, none⟩ = some (.int .i64 c) ∧ W'.cell? ⟨W.heap.size + 1, 1, none⟩ = some (.int .i64 d)) (first | exact ⟨by assumption, by assumption, by assumption, by assumption⟩ | go_keep) (first
    | (go_at_call 85; refine (HS.out _ _ _ _ (by assumption) (by assumption) (by assumption) (by assumption)).mono ?_; rintro e W2 ⟨rfl, ⟨c21, c22, c23, c24⟩, l2, k2⟩))
  go_wp2
  go_ret
  refine ⟨_, rfl, row_four W2 _ _ _ _ _ rfl, ?_, HKW.out _ (k2.trans (Kept.alloc v W2 _))⟩
  rw [← HO.out]
  exact l2.alloc _
end Go.Proofs.Ytjnnjjajlafchaa
