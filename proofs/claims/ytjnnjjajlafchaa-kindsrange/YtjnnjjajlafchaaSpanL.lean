/- Lists of spans: the contracts of span's anyEmpty, lows, highs. Conditions: at most 1000000 spans. -/
import Derived.Test.YtjnnjjajlafchaaSpanA
import Derived.Test.YtjnnjjajlafchaaInts
import Derived.Deep.DeepMust
import Derived.Deep.OwnRows
namespace Go.Proofs.Ytjnnjjajlafchaa
open Go.RowKit
set_option linter.unusedVariables false
set_option maxRecDepth 100000

/-- A slice's spans in memory. -/
def SpanRow (w : World) (a : Option Addr) (ss : List (Int × Int)) : Prop := ∀ i, i < ss.length → ∃ b off, a = some ⟨b, off, none⟩ ∧ w.cell? ⟨b, off + i * 2, none⟩ = some (.int .i64 (ss.getD i (0, 0)).1) ∧ w.cell? ⟨b, off + i * 2 + 1, none⟩ = some (.int .i64 (ss.getD i (0, 0)).2)
theorem SpanRow.stays {w w' : World} {a : Option Addr} {ss : List (Int × Int)} {B : Nat} (h : SpanRow w a ss) (k : Below B w w') (hB : w.heap.size ≤ B) : SpanRow w' a ss := by
  intro i hi
  obtain ⟨b, off, rfl, hc, hd⟩ := h i hi
  have hb : b < w.heap.size := by
    rcases Nat.lt_or_ge b w.heap.size with h | h
    · exact h
    · simp [World.cell?, Array.getElem?_eq_none h] at hc
  refine ⟨b, off, rfl, ?_, ?_⟩
  · rw [k.cell (p := ⟨b, off + i * 2, none⟩) (by show b < B; omega)]; exact hc
  · rw [k.cell (p := ⟨b, off + i * 2 + 1, none⟩) (by show b < B; omega)]; exact hd
/-- Whether one is empty. -/
def anyE (ss : List (Int × Int)) : Bool := ss.any fun s => decide (s.2 < s.1)
theorem anyE_take (ss : List (Int × Int)) (k : Nat) (h : k < ss.length) : anyE (ss.take (k + 1)) = (anyE (ss.take k) || decide ((ss.getD k (0, 0)).2 < (ss.getD k (0, 0)).1)) := by
  unfold anyE
  rw [List.take_succ_eq_append_getElem h, List.any_append]
  simp [List.getD_eq_getElem?_getD, List.getElem?_eq_getElem h]
theorem anyE_more (ss : List (Int × Int)) (k : Nat) (h : anyE (ss.take k) = true) : anyE ss = true := by
  unfold anyE at *
  rw [List.any_eq_true] at *
  obtain ⟨x, hx, hd⟩ := h
  exact ⟨x, List.mem_of_mem_take hx, hd⟩

set_option maxHeartbeats 1000000 in
theorem anyEmpty_any (a : Option Addr) (ss : List (Int × Int)) (cap : Nat) (w : World) (h : SpanRow w a ss) (hl : ss.length ≤ 9223372036854775806) :
    Calls Try.prog 64 #[.slice a ss.length cap] w fun e w' => e = .returned (.bool (anyE ss)) ∧ Below w.heap.size w w' := by
  have HR : Hid (SpanRow w a ss) := h
  clear h
  go_enter Try.func64, Try.ntmps64
  go_wp2
  go_loopw [7] (fun i wr => ∃ k : Nat, k ≤ ss.length ∧ i = .int .i64 k ∧ anyE (ss.take k) = false ∧ Below w.heap.size w wr) (fun i _ => ss.length - (intOf i).toNat)
  case atStart => exact ⟨0, Nat.zero_le _, rfl, rfl, Below.refl _ _⟩
  case round =>
    obtain ⟨k, hk, rfl, hn, hbel⟩ := hrel
    have HN : Hid (anyE (ss.take k) = false) := hn
    have HB : Hid (Below w.heap.size w wr) := hbel
    have HRr : Hid (SpanRow wr a ss) := HR.out.stays hbel (Nat.le_refl _)
    clear hn hbel
    by_cases hlt : k < ss.length
    · obtain ⟨b, off, rfl, hc, hd⟩ := HRr.out k hlt
      have HT : Hid (anyE (ss.take (k + 1)) = (anyE (ss.take k) || decide ((ss.getD k (0, 0)).2 < (ss.getD k (0, 0)).1))) := anyE_take ss k hlt
      generalize (ss.getD k (0, 0)).1 = lo at *
      generalize (ss.getD k (0, 0)).2 = hi at *
      by_cases he : hi < lo
      · have HE : Hid (anyE ss = true) := anyE_more ss (k + 1) (by rw [HT.out]; simp [he])
        go_wp2_with fail
        refine Calls.mono (sempty_any _ _ true _ (by simp; omega)) ?_
        rintro e w1 ⟨rfl, hb⟩
        have HB1 : Hid (Below w.heap.size w w1) := (HB.out.alloc HB.out.size _).trans (hb.mono (by have := HB.out.size; simp; omega))
        clear hb
        go_wp2
        go_ret
        exact ⟨by rw [HE.out]; rfl, HB1.out⟩
      · have HE : Hid (anyE (ss.take (k + 1)) = false) := by
          show anyE (ss.take (k + 1)) = false
          rw [HT.out, HN.out]; simp; omega
        go_wp2_with fail
        refine Calls.mono (sempty_any _ _ false _ (by simp; omega)) ?_
        rintro e w1 ⟨rfl, hb⟩
        have HB1 : Hid (Below w.heap.size w w1) := (HB.out.alloc HB.out.size _).trans (hb.mono (by have := HB.out.size; simp; omega))
        clear hb
        go_wp2
        go_roundw
        case rel => exact ⟨k + 1, by omega, by go_num, HE.out, HB1.out⟩
        case measure => simp [intOf]; omega
    · have HE : Hid (anyE ss = false) := by
        have := HN.out
        rw [List.take_of_length_le (by omega)] at this; exact this
      go_wp2
      go_ret
      exact ⟨by rw [HE.out]; rfl, HB.out⟩

theorem owns_stays {W W' : World} {B e s n : Nat} {v : Value} {xs : List Value} (h : W.ownsRow B e s v n xs) (k : ∀ g, g < W.heap.size → W'.heap[g]? = W.heap[g]?) : W'.ownsRow B e s v n xs := by
  have hlt := h.lt
  refine ⟨h.1, ?_⟩
  rcases h.2 with h2 | ⟨g, cap, cur, rfl, h3, h4, h5⟩
  · exact .inl h2
  · exact .inr ⟨g, cap, cur, rfl, h3, by rw [k g (hlt g rfl).2]; exact h4, h5⟩
theorem owns_below {W W' : World} {B e s n : Nat} {v : Value} {xs : List Value} (h : W.ownsRow B e s v n xs) (k : Below W.heap.size W W') : W'.ownsRow B e s v n xs := owns_stays h k.block
theorem map_take_fst (ss : List (Int × Int)) (k : Nat) (h : k < ss.length) : (ss.map Prod.fst).take (k + 1) = (ss.map Prod.fst).take k ++ [(ss.getD k (0, 0)).1] := by
  rw [List.take_succ_eq_append_getElem (by simpa using h)]
  simp [List.getD_eq_getElem?_getD, List.getElem?_eq_getElem h]
theorem map_take_snd (ss : List (Int × Int)) (k : Nat) (h : k < ss.length) : (ss.map Prod.snd).take (k + 1) = (ss.map Prod.snd).take k ++ [(ss.getD k (0, 0)).2] := by
  rw [List.take_succ_eq_append_getElem (by simpa using h)]
  simp [List.getD_eq_getElem?_getD, List.getElem?_eq_getElem h]
/-- A number put behind a row of the function's own: what 'append(out, x)' does, x in a new row. -/
theorem append_one (W : World) (B : Nat) (v : Value) (xs : List Int) (x : Int) (g : Nat) (hg : g = W.heap.size) (hown : W.ownsRow B 3 1 v xs.length (intCells xs)) (hn : xs.length < 1000000) (hB : B ≤ W.heap.size) :
    ∃ v' w', (Builtin.append_ #[62, 62] 62 #[v, .slice (some ⟨g, 0, none⟩) 1 1]).run Try.prog (W.alloc (.cells #[.int .i64 x] 3)) = .ok v' w' ∧ w'.ownsRow B 3 1 v' (xs ++ [x]).length (intCells (xs ++ [x])) ∧ Below B W w' := by
  subst hg
  obtain ⟨v', w', h1, h2, h3⟩ := append_ints (W.alloc (.cells #[.int .i64 x] 3)) B v xs (owns_stays hown fun g hg => Below.heap_alloc _ _ _ hg) (some ⟨W.heap.size, 0, none⟩) [x] 1 (fun h => by cases h)
    (fun i hi => ⟨W.heap.size, 0, rfl, by
      match i, hi with
      | 0, _ => simp⟩) (by simp; omega) (by simp; omega)
  exact ⟨v', w', h1, h2, ((Below.refl B W).alloc hB _).trans h3⟩
/-- The same of two numbers. -/
theorem append_pair (W : World) (B : Nat) (v : Value) (xs : List Int) (x y : Int) (g : Nat) (hg : g = W.heap.size) (hown : W.ownsRow B 3 1 v xs.length (intCells xs)) (hn : xs.length < 999999) (hB : B ≤ W.heap.size) :
    ∃ v' w', (Builtin.append_ #[62, 62] 62 #[v, .slice (some ⟨g, 0, none⟩) 2 2]).run Try.prog (W.alloc (.cells #[.int .i64 x, .int .i64 y] 3)) = .ok v' w' ∧ w'.ownsRow B 3 1 v' (xs ++ [x, y]).length (intCells (xs ++ [x, y])) ∧ Below B W w' := by
  subst hg
  obtain ⟨v', w', h1, h2, h3⟩ := append_ints (W.alloc (.cells #[.int .i64 x, .int .i64 y] 3)) B v xs (owns_stays hown fun g hg => Below.heap_alloc _ _ _ hg) (some ⟨W.heap.size, 0, none⟩) [x, y] 2 (fun h => by cases h)
    (fun i hi => ⟨W.heap.size, 0, rfl, by
      match i, hi with
      | 0, _ => simp
      | 1, _ => simp⟩) (by simp; omega) (by simp; omega)
  exact ⟨v', w', h1, h2, ((Below.refl B W).alloc hB _).trans h3⟩

set_option maxHeartbeats 1000000 in
theorem lows_any (a : Option Addr) (ss : List (Int × Int)) (cap : Nat) (w : World) (h : SpanRow w a ss) (hl : ss.length ≤ 1000000) :
    Calls Try.prog 67 #[.slice a ss.length cap] w fun e w' => ∃ v, e = .returned v ∧ w'.ownsRow w.heap.size 3 1 v (ss.map Prod.fst).length (intCells (ss.map Prod.fst)) ∧ Below w.heap.size w w' := by
  have HR : Hid (SpanRow w a ss) := h
  obtain ⟨i0, hi, hz0, hz1, hz2⟩ := info_parts infoInt
  obtain ⟨w1, hrun, hown, hgr⟩ := run_make_own (P := Try.prog) w w.heap.size 62 3 i0 (.int .i64 0) 1 Try.underlying62 hi hz0 hz1 .i64 .i64 ss.length (by rw [hz2]; omega) (by unfold maxLen; omega) (Nat.le_refl _)
  have HB1 : Hid (Below w.heap.size w w1) := (Below.refl _ w).grown hgr (Nat.le_refl _) (fun k hk => by cases hk)
  have HO : Hid (w1.ownsRow w.heap.size 3 1 (.slice (some ⟨w.heap.size, 0, none⟩) 0 ss.length) 0 []) := hown
  clear h hi hz0 hz1 hz2 hown hgr
  go_enter Try.func67, Try.ntmps67
  go_wp2
  go_loopw [3, 11] (fun v i wr => ∃ k : Nat, k ≤ ss.length ∧ i = .int .i64 k ∧ wr.ownsRow w.heap.size 3 1 v ((ss.map Prod.fst).take k).length (intCells ((ss.map Prod.fst).take k)) ∧ Below w.heap.size w wr) (fun _ i _ => ss.length - (intOf i).toNat)
  case atStart => exact ⟨0, Nat.zero_le _, rfl, HO.out, HB1.out⟩
  case round =>
    obtain ⟨k, hk, rfl, hown, hbel⟩ := hrel
    have HOr : Hid (wr.ownsRow w.heap.size 3 1 u3 ((ss.map Prod.fst).take k).length (intCells ((ss.map Prod.fst).take k))) := hown
    have HB : Hid (Below w.heap.size w wr) := hbel
    have HRr : Hid (SpanRow wr a ss) := HR.out.stays hbel (Nat.le_refl _)
    clear hown hbel
    by_cases hlt : k < ss.length
    · obtain ⟨b, off, rfl, hc, hd⟩ := HRr.out k hlt
      have HT : Hid ((ss.map Prod.fst).take (k + 1) = (ss.map Prod.fst).take k ++ [(ss.getD k (0, 0)).1]) := map_take_fst ss k hlt
      generalize (ss.getD k (0, 0)).1 = lo at *
      generalize (ss.getD k (0, 0)).2 = hi at *
      obtain ⟨v', w', hr, ho, hbl⟩ := append_one (wr.alloc (.cells #[.int .i64 lo, .int .i64 hi] 25)) w.heap.size u3 ((ss.map Prod.fst).take k) lo (wr.heap.size + 1) (by simp) (owns_stays HOr.out fun g hg => Below.heap_alloc _ _ _ hg) (by simp; omega) (by have := HB.out.size; simp; omega)
      have HR3 : Hid ((Builtin.append_ #[62, 62] 62 #[u3, .slice (some ⟨wr.heap.size + 1, 0, none⟩) 1 1]).run Try.prog ((wr.alloc (.cells #[.int .i64 lo, .int .i64 hi] 25)).alloc (.cells #[.int .i64 lo] 3)) = .ok v' w') := hr
      have HO3 : Hid (w'.ownsRow w.heap.size 3 1 v' ((ss.map Prod.fst).take (k + 1)).length (intCells ((ss.map Prod.fst).take (k + 1)))) := by rw [HT.out]; exact ho
      have HB3 : Hid (Below w.heap.size w w') := (HB.out.alloc HB.out.size _).trans hbl
      clear hr ho hbl HOr HB HRr HT
      go_wp2_with (at_builtin; go_must (refine append_run (by rfl) _ _ (by rfl) (by rfl) _ _ _ _ (by rfl) (by rfl) HR3.out ?_))
      go_roundw
      case rel => exact ⟨k + 1, by omega, by go_num, HO3.out, HB3.out⟩
      case measure => simp [intOf]; omega
    · have HE : Hid (wr.ownsRow w.heap.size 3 1 u3 (ss.map Prod.fst).length (intCells (ss.map Prod.fst))) := by
        have := HOr.out
        rw [List.take_of_length_le (by simp; omega)] at this; exact this
      go_wp2
      go_ret
      exact ⟨_, rfl, HE.out, HB.out⟩

set_option maxHeartbeats 1000000 in
theorem highs_any (a : Option Addr) (ss : List (Int × Int)) (cap : Nat) (w : World) (h : SpanRow w a ss) (hl : ss.length ≤ 1000000) :
    Calls Try.prog 68 #[.slice a ss.length cap] w fun e w' => ∃ v, e = .returned v ∧ w'.ownsRow w.heap.size 3 1 v (ss.map Prod.snd).length (intCells (ss.map Prod.snd)) ∧ Below w.heap.size w w' := by
  have HR : Hid (SpanRow w a ss) := h
  obtain ⟨i0, hi, hz0, hz1, hz2⟩ := info_parts infoInt
  obtain ⟨w1, hrun, hown, hgr⟩ := run_make_own (P := Try.prog) w w.heap.size 62 3 i0 (.int .i64 0) 1 Try.underlying62 hi hz0 hz1 .i64 .i64 ss.length (by rw [hz2]; omega) (by unfold maxLen; omega) (Nat.le_refl _)
  have HB1 : Hid (Below w.heap.size w w1) := (Below.refl _ w).grown hgr (Nat.le_refl _) (fun k hk => by cases hk)
  have HO : Hid (w1.ownsRow w.heap.size 3 1 (.slice (some ⟨w.heap.size, 0, none⟩) 0 ss.length) 0 []) := hown
  clear h hi hz0 hz1 hz2 hown hgr
  go_enter Try.func68, Try.ntmps68
  go_wp2
  go_loopw [3, 11] (fun v i wr => ∃ k : Nat, k ≤ ss.length ∧ i = .int .i64 k ∧ wr.ownsRow w.heap.size 3 1 v ((ss.map Prod.snd).take k).length (intCells ((ss.map Prod.snd).take k)) ∧ Below w.heap.size w wr) (fun _ i _ => ss.length - (intOf i).toNat)
  case atStart => exact ⟨0, Nat.zero_le _, rfl, HO.out, HB1.out⟩
  case round =>
    obtain ⟨k, hk, rfl, hown, hbel⟩ := hrel
    have HOr : Hid (wr.ownsRow w.heap.size 3 1 u3 ((ss.map Prod.snd).take k).length (intCells ((ss.map Prod.snd).take k))) := hown
    have HB : Hid (Below w.heap.size w wr) := hbel
    have HRr : Hid (SpanRow wr a ss) := HR.out.stays hbel (Nat.le_refl _)
    clear hown hbel
    by_cases hlt : k < ss.length
    · obtain ⟨b, off, rfl, hc, hd⟩ := HRr.out k hlt
      have HT : Hid ((ss.map Prod.snd).take (k + 1) = (ss.map Prod.snd).take k ++ [(ss.getD k (0, 0)).2]) := map_take_snd ss k hlt
      generalize (ss.getD k (0, 0)).1 = lo at *
      generalize (ss.getD k (0, 0)).2 = hi at *
      obtain ⟨v', w', hr, ho, hbl⟩ := append_one (wr.alloc (.cells #[.int .i64 lo, .int .i64 hi] 25)) w.heap.size u3 ((ss.map Prod.snd).take k) hi (wr.heap.size + 1) (by simp) (owns_stays HOr.out fun g hg => Below.heap_alloc _ _ _ hg) (by simp; omega) (by have := HB.out.size; simp; omega)
      have HR3 : Hid ((Builtin.append_ #[62, 62] 62 #[u3, .slice (some ⟨wr.heap.size + 1, 0, none⟩) 1 1]).run Try.prog ((wr.alloc (.cells #[.int .i64 lo, .int .i64 hi] 25)).alloc (.cells #[.int .i64 hi] 3)) = .ok v' w') := hr
      have HO3 : Hid (w'.ownsRow w.heap.size 3 1 v' ((ss.map Prod.snd).take (k + 1)).length (intCells ((ss.map Prod.snd).take (k + 1)))) := by rw [HT.out]; exact ho
      have HB3 : Hid (Below w.heap.size w w') := (HB.out.alloc HB.out.size _).trans hbl
      clear hr ho hbl HOr HB HRr HT
      go_wp2_with (at_builtin; go_must (refine append_run (by rfl) _ _ (by rfl) (by rfl) _ _ _ _ (by rfl) (by rfl) HR3.out ?_))
      go_roundw
      case rel => exact ⟨k + 1, by omega, by go_num, HO3.out, HB3.out⟩
      case measure => simp [intOf]; omega
    · have HE : Hid (wr.ownsRow w.heap.size 3 1 u3 (ss.map Prod.snd).length (intCells (ss.map Prod.snd))) := by
        have := HOr.out
        rw [List.take_of_length_le (by simp; omega)] at this; exact this
      go_wp2
      go_ret
      exact ⟨_, rfl, HE.out, HB.out⟩
end Go.Proofs.Ytjnnjjajlafchaa
