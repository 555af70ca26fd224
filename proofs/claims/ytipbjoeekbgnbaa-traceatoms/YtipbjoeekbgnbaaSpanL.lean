/- Lists of spans: the contracts of span's anyEmpty, lows, highs. Conditions: at most 1000000 spans. -/
import Derived.Test.YtipbjoeekbgnbaaSpanA
import Derived.Test.YtipbjoeekbgnbaaInts
import Derived.Deep.DeepMust
import Derived.Deep.OwnRows
namespace Go.Proofs.Ytipbjoeekbgnbaa
open Go.RowKit
set_option linter.unusedVariables false
set_option maxRecDepth 100000

/-- A slice's spans in memory. -/
def SpanRow (w : World) (a : Option Addr) (ss : List (Int × Int)) : Prop := ∀ i, i < ss.length → ∃ b off, a = some ⟨b, off, none⟩ ∧ w.cell? ⟨b, off + i * 2, none⟩ = some (.int .i64 (ss.getD i (0, 0)).1) ∧ w.cell? ⟨b, off + i * 2 + 1, none⟩ = some (.int .i64 (ss.getD i (0, 0)).2)
theorem SpanRow.stays {w w' : World} {a : Option Addr} {ss : List (Int × Int)} {B : Nat} (h : SpanRow w a ss) (k : Below B w w') (hB : w.heap.size ≤ B) : SpanRow w' a ss := by
  intro i hi
  obtain ⟨b, off, rfl, hc, hd⟩ := h i hi
  have hb : b < w.heap.size := by
    rcases Nat.lt_or_ge b w.heap.size with h | h
    · exact h
    · simp [World.cell?, Array.getElem?_eq_none h] at hc
  refine ⟨b, off, rfl, ?_, ?_⟩
  · rw [k.cell (p := ⟨b, off + i * 2, none⟩) (by show b < B; omega)]; exact hc
  · rw [k.cell (p := ⟨b, off + i * 2 + 1, none⟩) (by show b < B; omega)]; exact hd
/-- Whether one is empty. -/
def anyE (ss : List (Int × Int)) : Bool := ss.any fun s => decide (s.2 < s.1)
theorem anyE_take (ss : List (Int × Int)) (k : Nat) (h : k < ss.length) : anyE (ss.take (k + 1)) = (anyE (ss.take k) || decide ((ss.getD k (0, 0)).2 < (ss.getD k (0, 0)).1)) := by
  unfold anyE
  rw [List.take_succ_eq_append_getElem h, List.any_append]
  simp [List.getD_eq_getElem?_getD, List.getElem?_eq_getElem h]
theorem anyE_more (ss : List (Int × Int)) (k : Nat) (h : anyE (ss.take k) = true) : anyE ss = true := by
  unfold anyE at *
  rw [List.any_eq_true] at *
  obtain ⟨x, hx, hd⟩ := h
  exact ⟨x, List.mem_of_mem_take hx, hd⟩

theorem owns_stays {W W' : World} {B e s n : Nat} {v : Value} {xs : List Value} (h : W.ownsRow B e s v n xs) (k : ∀ g, g < W.heap.size → W'.heap[g]? = W.heap[g]?) : W'.ownsRow B e s v n xs := by
  have hlt := h.lt
  refine ⟨h.1, ?_⟩
  rcases h.2 with h2 | ⟨g, cap, cur, rfl, h3, h4, h5⟩
  · exact .inl h2
  · exact .inr ⟨g, cap, cur, rfl, h3, by rw [k g (hlt g rfl).2]; exact h4, h5⟩
theorem owns_below {W W' : World} {B e s n : Nat} {v : Value} {xs : List Value} (h : W.ownsRow B e s v n xs) (k : Below W.heap.size W W') : W'.ownsRow B e s v n xs := owns_stays h k.block
theorem map_take_fst (ss : List (Int × Int)) (k : Nat) (h : k < ss.length) : (ss.map Prod.fst).take (k + 1) = (ss.map Prod.fst).take k ++ [(ss.getD k (0, 0)).1] := by
  rw [List.take_succ_eq_append_getElem (by simpa using h)]
  simp [List.getD_eq_getElem?_getD, List.getElem?_eq_getElem h]
theorem map_take_snd (ss : List (Int × Int)) (k : Nat) (h : k < ss.length) : (ss.map Prod.snd).take (k + 1) = (ss.map Prod.snd).take k ++ [(ss.getD k (0, 0)).2] := by
  rw [List.take_succ_eq_append_getElem (by simpa using h)]
  simp [List.getD_eq_getElem?_getD, List.getElem?_eq_getElem h]
/-- A number put behind a row of the function's own: what 'append(out, x)' does, x in a new row. -/
theorem append_one (W : World) (B : Nat) (v : Value) (xs : List Int) (x : Int) (g : Nat) (hg : g = W.heap.size) (hown : W.ownsRow B 3 1 v xs.length (intCells xs)) (hn : xs.length < 1000000) (hB : B ≤ W.heap.size) :
    ∃ v' w', (Builtin.append_ #[26, 26] 26 #[v, .slice (some ⟨g, 0, none⟩) 1 1]).run Try.prog (W.alloc (.cells #[.int .i64 x] 3)) = .ok v' w' ∧ w'.ownsRow B 3 1 v' (xs ++ [x]).length (intCells (xs ++ [x])) ∧ Below B W w' := by
  subst hg
  obtain ⟨v', w', h1, h2, h3⟩ := append_ints (W.alloc (.cells #[.int .i64 x] 3)) B v xs (owns_stays hown fun g hg => Below.heap_alloc _ _ _ hg) (some ⟨W.heap.size, 0, none⟩) [x] 1 (fun h => by cases h)
    (fun i hi => ⟨W.heap.size, 0, rfl, by
      match i, hi with
      | 0, _ => simp⟩) (by simp; omega) (by simp; omega)
  exact ⟨v', w', h1, h2, ((Below.refl B W).alloc hB _).trans h3⟩
/-- The same of two numbers. -/
theorem append_pair (W : World) (B : Nat) (v : Value) (xs : List Int) (x y : Int) (g : Nat) (hg : g = W.heap.size) (hown : W.ownsRow B 3 1 v xs.length (intCells xs)) (hn : xs.length < 999999) (hB : B ≤ W.heap.size) :
    ∃ v' w', (Builtin.append_ #[26, 26] 26 #[v, .slice (some ⟨g, 0, none⟩) 2 2]).run Try.prog (W.alloc (.cells #[.int .i64 x, .int .i64 y] 3)) = .ok v' w' ∧ w'.ownsRow B 3 1 v' (xs ++ [x, y]).length (intCells (xs ++ [x, y])) ∧ Below B W w' := by
  subst hg
  obtain ⟨v', w', h1, h2, h3⟩ := append_ints (W.alloc (.cells #[.int .i64 x, .int .i64 y] 3)) B v xs (owns_stays hown fun g hg => Below.heap_alloc _ _ _ hg) (some ⟨W.heap.size, 0, none⟩) [x, y] 2 (fun h => by cases h)
    (fun i hi => ⟨W.heap.size, 0, rfl, by
      match i, hi with
      | 0, _ => simp
      | 1, _ => simp⟩) (by simp; omega) (by simp; omega)
  exact ⟨v', w', h1, h2, ((Below.refl B W).alloc hB _).trans h3⟩

end Go.Proofs.Ytipbjoeekbgnbaa
