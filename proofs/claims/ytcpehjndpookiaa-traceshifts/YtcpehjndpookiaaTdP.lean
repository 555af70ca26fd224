/- TraceSteps: the law returns true. Conditions: none but what is known of what came in. -/
import Derived.Test.YtcpehjndpookiaaBz7
import Derived.Test.YtcpehjndpookiaaBz8
namespace Go.Proofs.Ytcpehjndpookiaa
open Go.RowKit
set_option linter.unusedVariables false
set_option maxRecDepth 100000

/-- What is known of names and rows that came in. -/
structure RwsIn (W : World) (nma : Option Addr) (names : List ByteArray) (ra : Option Addr) (rows : List RwV) : Prop where
  nm : NamRow W nma names
  ns : ∀ s ∈ names, s.size ≤ 9223372036854775807
  ro : RoRow W ra rows
  b64 : ∀ r ∈ rows, ∀ z ∈ r.zs, B64 z
theorem RwsIn.few {W : World} {nma : Option Addr} {names : List ByteArray} {ra : Option Addr} {rows : List RwV} (h : RwsIn W nma names ra rows) (hr : rowsB rows names.length = true) : RwsAt W nma names ra rows := by
  unfold rowsB at hr
  simp only [Bool.and_eq_true, decide_eq_true_eq] at hr
  exact ⟨h.nm, h.ns, h.ro, h.b64, by omega, by omega⟩
/-- What is known of a list of nodes that came in. -/
structure NdsIn (W : World) (a : Option Addr) (cap : Nat) (ys : List NdV) : Prop where
  row : RowOf ndC 6 W a ys
  known : ∀ y ∈ ys, NdKnown W y
  le : ys.length ≤ cap
  nil : a = none → cap = 0
  len : ys.length ≤ 9223372036854775807
theorem NdsIn.valid {W : World} {a : Option Addr} {cap : Nat} {ys : List NdV} (h : NdsIn W a cap ys) (X : World) (hX : Below W.heap.size W X) : Calls Try.prog 9 #[.slice a ys.length cap] X fun e W' => e = .returned (.bool (validB (ys.map (·.x)))) ∧ Below X.heap.size X W' := by
  have := valid_any a cap (ys.map (·.x)) X ((nodeRow_of h.row h.known).below hX) (by rw [List.length_map]; exact h.le) (known_fit h.known) (by rw [List.length_map]; exact h.len)
  rw [List.length_map] at this; exact this
theorem AllSays.up {W X : World} {fe : Int} {l : List Int} {e : Ending} {W' : World} (h : AllSays X fe l e W') (k : Below W.heap.size W X) : AllSays W fe l e W' := by
  obtain ⟨va, n, c, h1, h2, h3⟩ := h
  exact ⟨va, n, c, h1, k.trans (h2.mono k.size), fun q => ⟨(h3 q).1, Own.lower (h3 q).2 k.size⟩⟩
/-- The verdicts' cells, in every world that grew. -/
theorem ver_cells {X : World} {B : Nat} {va : Option Addr} {n c : Nat} {l : List Int} (h : Own inC 3 1 X B (.slice va n c) l) (hn : n = l.length) (i : Nat) (hi : i < n) : ∃ g, va = some ⟨g, 0, none⟩ ∧ ∀ Y, Below X.heap.size X Y → Y.cell? ⟨g, i, none⟩ = some (.int .i64 (l.getD i 0)) := by
  obtain ⟨_, _, e, _, _, hrow⟩ := h.sl inC_len 0
  simp only [Value.slice.injEq] at e
  obtain ⟨rfl, _, rfl⟩ := e
  obtain ⟨g, rfl, _, _, hc⟩ := hrow i (by omega)
  refine ⟨g, rfl, fun Y hY => cell_up hY ?_⟩
  have := hc 0 (by omega)
  simpa [inC] using this
theorem steps_verd (names : List ByteArray) (rows : List RwV) (yp yq z : NdV) (kp kq k : Fo) (hz : z.x = ⟨10, 2, 0, -1, [], 0⟩) (hs : k.sem names rows = (Fo.cons yp kp (.cons yq kq .nil)).sem names rows) (hf : k.flat.map (·.x) = (Fo.cons yp kp (.cons yq kq .nil)).flat.map (·.x)) (n i : Nat) (hi : i < n) :
    (((verd names rows yp kp n).getD i 0 = 2 ∨ (verd names rows yq kq n).getD i 0 = 2) → (verd names rows z k n).getD i 0 = 2) ∧ ((verd names rows yp kp n).getD i 0 ≠ 2 → (verd names rows yq kq n).getD i 0 ≠ 2 → ((verd names rows z k n).getD i 0 = 1 ↔ (verd names rows yq kq n).getD i 0 = 1 ∨ ((verd names rows yp kp n).getD i 0 = 1 ∧ 0 < i ∧ (verd names rows z k n).getD (i - 1) 0 = 1))) := by
  rw [verd_at _ _ _ _ _ _ hi, verd_at _ _ _ _ _ _ hi, verd_at _ _ _ _ _ _ hi, verd_at _ _ _ _ _ _ (show i - 1 < n by omega)]
  have hc : combF names rows z.x (k.sem names rows) = sinceF 0 (-1) (combF names rows yp.x (kp.sem names rows)) (combF names rows yq.x (kq.sem names rows)) := by
    rw [hs, hz]
    show twoF ⟨10, 2, 0, -1, [], 0⟩ _ _ = _
    unfold twoF
    rw [if_neg (by simp), if_neg (by simp), if_pos rfl]
  rw [hc]
  refine steps_pure _ _ _ _ _ (fun j => ?_) i
  rw [exO_cons, exO_congr names rows hf, show (Fo.cons yp kp (.cons yq kq .nil)).flat = (yp :: kp.flat) ++ (yq :: kq.flat) by simp [Fo.flat], exO_append]
  refine ⟨fun h => h.elim (fun h => ?_) id, .inr⟩
  have h1 := h.1
  rw [hz] at h1; exact absurd h1 (by simp)
end Go.Proofs.Ytcpehjndpookiaa
