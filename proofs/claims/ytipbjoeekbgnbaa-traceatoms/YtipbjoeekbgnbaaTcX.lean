/- The contracts of trace's newColumns and weigh. Conditions: at most 1000 names, texts of at most 2^40 bytes, at most 2^30 terms. -/
import Derived.Test.YtipbjoeekbgnbaaTcW
import Derived.Test.YtipbjoeekbgnbaaKnB
import Derived.Maps.OwnSet
namespace Go.Proofs.Ytipbjoeekbgnbaa
open Go.RowKit Go.Maps Go.ChangeShapes
set_option linter.unusedVariables false
set_option maxRecDepth 100000

/-- Where a name stands first. -/
def idxS (l : List ByteArray) (s : ByteArray) : Nat := l.findIdx fun x => eqS x s
theorem idxS_le (l : List ByteArray) (s : ByteArray) : idxS l s ≤ l.length := List.findIdx_le_length
theorem idxS_push (l : List ByteArray) (x s : ByteArray) : idxS (l ++ [x]) s = if idxS l s < l.length then idxS l s else if eqS x s = true then l.length else l.length + 1 := by
  unfold idxS
  rw [List.findIdx_append]
  split
  · rfl
  · by_cases h : eqS x s = true
    · simp [List.findIdx_cons, h]
    · have h2 : eqS x s = false := by simpa using h
      simp [List.findIdx_cons, h2]; omega
/-- Names in memory. -/
def NamRow (w : World) (a : Option Addr) (l : List ByteArray) : Prop := ∀ i, i < l.length → ∃ b off, a = some ⟨b, off, none⟩ ∧ w.cell? ⟨b, off + i, none⟩ = some (.string (l.getD i ⟨#[]⟩))
theorem NamRow.below {w w' : World} {a : Option Addr} {l : List ByteArray} (h : NamRow w a l) (k : Below w.heap.size w w') : NamRow w' a l := fun i hi => by
  obtain ⟨b, off, e, h1⟩ := h i hi
  exact ⟨b, off, e, cell_up k h1⟩
/-- A map says where each name stands first. -/
structure ColIs (D : DataW Unit) (l : List ByteArray) : Prop where
  map : IsMap D
  has : ∀ s : ByteArray, Maps.has D (.string s.data.toList) = decide (idxS l s < l.length)
  spot : ∀ s : ByteArray, idxS l s < l.length → D.atKey (.string s.data.toList) (.lit (.int .i64 0)) = .lit (.int .i64 (idxS l s))
theorem key_ne {x s : ByteArray} (h : eqS x s = false) : (Lit.string s.data.toList) ≠ Lit.string x.data.toList := by
  intro e
  have e2 : s.data.toList = x.data.toList := by simpa using e
  have : s = x := by
    obtain ⟨⟨a⟩⟩ := s
    obtain ⟨⟨b⟩⟩ := x
    simp at e2
    rw [e2]
  rw [this, eqS_refl] at h; cases h
theorem ColIs.nil : ColIs (.map []) [] := ⟨⟨_, rfl⟩, fun s => by simp [Maps.has_eq], fun s h => by simp at h⟩
theorem ColIs.old {D : DataW Unit} {l : List ByteArray} (h : ColIs D l) (x : ByteArray) (hx : idxS l x < l.length) : ColIs D (l ++ [x]) := by
  have key : ∀ s, idxS (l ++ [x]) s < (l ++ [x]).length ↔ idxS l s < l.length := fun s => by
    rw [idxS_push, List.length_append, List.length_singleton]
    by_cases h1 : idxS l s < l.length
    · rw [if_pos h1]; omega
    · rw [if_neg h1]
      by_cases h2 : eqS x s = true
      · rw [(eqS_iff x s).1 h2] at hx; exact absurd hx h1
      · rw [if_neg h2]; omega
  refine ⟨h.map, fun s => ?_, fun s hs => ?_⟩
  · rw [h.has s, decide_eq_decide]; exact (key s).symm
  · have h1 := (key s).1 hs
    rw [h.spot s h1, idxS_push, if_pos h1]
theorem ColIs.new {D : DataW Unit} {l : List ByteArray} (h : ColIs D l) (x : ByteArray) (hx : ¬ idxS l x < l.length) : ColIs (D.put (.string x.data.toList) (.lit (.int .i64 (l.length : Int)))) (l ++ [x]) := by
  refine ⟨?_, fun s => ?_, fun s hs => ?_⟩
  · obtain ⟨es, rfl⟩ := h.map; exact ⟨_, rfl⟩
  · by_cases e : eqS x s = true
    · obtain rfl := (eqS_iff x s).1 e
      rw [has_put_same h.map (by trivial), idxS_push, if_neg hx, if_pos e]; simp
    · have e2 : eqS x s = false := by simpa using e
      rw [has_put_other (key_ne e2), h.has s, idxS_push, decide_eq_decide]
      by_cases h1 : idxS l s < l.length
      · rw [if_pos h1]; simp; omega
      · rw [if_neg h1, if_neg e]; simp; omega
  · by_cases e : eqS x s = true
    · obtain rfl := (eqS_iff x s).1 e
      rw [atKey_put_same h.map (by trivial), idxS_push, if_neg hx, if_pos e]
    · have e2 : eqS x s = false := by simpa using e
      rw [idxS_push] at hs ⊢
      by_cases h1 : idxS l s < l.length
      · rw [atKey_put_other (key_ne e2), if_pos h1, h.spot s h1]
      · rw [if_neg h1, if_neg e] at hs; simp at hs
/-- Columns in memory: the map of block b. -/
def ColsAt (w : World) (b : Nat) (l : List ByteArray) : Prop := ∃ n D, w.ownsMap (H := Unit) Try.prog 9 (plainElem Try.prog 3) b n D ∧ n ≤ l.length ∧ ColIs D l
theorem ColsAt.lt {w : World} {b : Nat} {l : List ByteArray} (h : ColsAt w b l) : b < w.heap.size := by
  obtain ⟨n, D, h, _⟩ := h; exact h.lt
theorem ColsAt.kept {w w' : World} {b : Nat} {l : List ByteArray} (h : ColsAt w b l) {S : List Nat} (k : Mod S w w') (hb : b ∉ S) : ColsAt w' b l := by
  obtain ⟨n, D, ⟨es, clock, h1, h2⟩, h3⟩ := h
  have hlt : b < w.heap.size := (Array.getElem?_eq_some_iff.1 h1).1
  exact ⟨n, D, ⟨es, clock, (k.block b hlt hb).trans h1, h2⟩, h3⟩
theorem ColsAt.below {w w' : World} {b : Nat} {l : List ByteArray} (h : ColsAt w b l) (k : Below w.heap.size w w') : ColsAt w' b l := h.kept (S := []) (Mod.of_below k) (by simp)
theorem zeroInt (w : World) : (zeroValue 3).run Try.prog w = .ok (.int .i64 0) w := by kernel_rfl
theorem lawS : Keyed Try.prog 9 := string_keyed Try.underlying9
theorem make_cols (n : Nat) (w : World) (hn : n ≤ 1000) : (Instr.makeMap 47 (some (.int .i64 (n : Int)))).run Try.prog w = .ok (.map (some w.heap.size)) (w.alloc (.map #[] 0)) := by
  have hu := run_underlying (w := w) Try.underlying47
  simp [Instr.makeMap, hu, asInt, asIntOf, Result.andThen]
set_option maxHeartbeats 4000000 in
theorem newColumns_any (a : Option Addr) (cap : Nat) (l : List ByteArray) (W : World) (h : NamRow W a l) (hl : l.length ≤ 1000) (hs : ∀ s ∈ l, s.size ≤ 9223372036854775807) :
    Calls Try.prog 12 #[.slice a l.length cap] W fun e W' => ∃ b, e = .returned (.map (some b)) ∧ W.heap.size ≤ b ∧ ColsAt W' b l ∧ Below W.heap.size W W' := by
  have HR : Hid (∀ X, Below W.heap.size W X → NamRow X a l) := fun X hX => h.below hX
  have HS : Hid (∀ s ∈ l, s.size ≤ 9223372036854775807) := hs
  clear h hs
  have HM : Hid (Below W.heap.size W (W.alloc (.map #[] 0)) ∧ (W.alloc (.map #[] 0)).ownsMap (H := Unit) Try.prog 9 (plainElem Try.prog 3) W.heap.size 0 (.map [])) := ⟨(Below.refl _ _).alloc (Nat.le_refl _) _, World.ownsMap_made _ _ _ _⟩
  have hmm := fun w => make_cols l.length w hl
  go_enter Try.func12, Try.ntmps12
  go_wp2
  go_loopw [13] (fun i wr => ∃ (k n : Nat) (D : DataW Unit), k ≤ l.length ∧ i = .int .i64 k ∧ Below W.heap.size W wr ∧ wr.ownsMap Try.prog 9 (plainElem Try.prog 3) W.heap.size n D ∧ n ≤ k ∧ ColIs D (l.take k)) (fun i _ => l.length - (intOf i).toNat)
  case atStart => exact ⟨0, 0, _, Nat.zero_le _, rfl, HM.out.1, HM.out.2, Nat.zero_le _, by simpa using ColIs.nil⟩
  case round =>
    obtain ⟨k, n, D, hk, rfl, hb, ho, hnk, hc⟩ := hrel
    have HB : Hid (Below W.heap.size W wr) := hb
    have HO : Hid (wr.ownsMap Try.prog 9 (plainElem Try.prog 3) W.heap.size n D) := ho
    have HC : Hid (ColIs D (l.take k)) := hc
    clear hb ho hc
    by_cases hlt : k < l.length
    · obtain ⟨b, off, rfl, c0⟩ := HR.out _ HB.out k hlt
      have hsz := HS.out _ (getD_mem (⟨#[]⟩ : ByteArray) hlt)
      have htk : l.take (k + 1) = l.take k ++ [l.getD k ⟨#[]⟩] := by rw [List.take_add_one, show l[k]? = some (l.getD k ⟨#[]⟩) by simp [List.getD_eq_getElem?_getD, hlt]]; rfl
      have HTK : Hid (l.take (k + 1) = l.take k ++ [l.getD k ⟨#[]⟩]) := htk
      have htl : (l.take k).length = k := by rw [List.length_take]; omega
      clear htk
      generalize l.getD k ⟨#[]⟩ = s at *
      have hkey := Go.WideMaps.keyOf_string_mk (P := Try.prog) Try.underlying9 (s := s) (by unfold maxLen; omega)
      by_cases hin : idxS (l.take k) s < (l.take k).length
      · have hhas : Maps.has D (.string s.data.toList) = true := by rw [HC.out.has]; simpa using hin
        have HN : Hid (ColIs D (l.take (k + 1))) := by rw [HTK.out]; exact HC.out.old s hin
        clear hin
        go_wp2_with (at_lookup; refine wpList_lookup_own_ok_int _ rfl _ _ _ rfl 9 3 .i64 lawS Try.underlying47 Try.underlying3 (zeroInt _) W.heap.size n D rfl HO.out _ _ rfl hkey ?_; rw [hhas]; intro c hat hwc; clear hat hwc)
        go_roundw
        case rel => exact ⟨k + 1, n, D, by omega, by go_num, HB.out, HO.out, by omega, HN.out⟩
        case measure => simp [intOf]; omega
      · have hhas : Maps.has D (.string s.data.toList) = false := by rw [HC.out.has]; simpa using hin
        have HN : Hid (ColIs (D.put (.string s.data.toList) (.lit (.int .i64 (k : Int)))) (l.take (k + 1))) := by
          have := HC.out.new s hin
          rw [htl] at this
          rw [HTK.out]; exact this
        have hkw : plainElem (H := Unit) Try.prog 3 (.int .i64 (k : Int)) = some (.lit (.int .i64 (k : Int)), []) := plainElem_int Try.underlying3 (by simp [Lit.wf, IntKind.min, IntKind.max, IntKind.bits, IntKind.signed]; omega)
        clear hin
        go_wp2_with (first
          | (at_lookup; refine wpList_lookup_own_ok_int _ rfl _ _ _ rfl 9 3 .i64 lawS Try.underlying47 Try.underlying3 (zeroInt _) W.heap.size n D rfl HO.out _ _ rfl hkey ?_; rw [hhas]; intro c hat hwc; clear hat hwc)
          | (at_mapUpdate; refine wpList_mapUpdate_own _ rfl _ _ _ _ rfl 9 3 lawS Try.underlying47 (plainElem Try.prog 3) W.heap.size n D rfl HO.out (by unfold maxLen; omega) _ _ (.string s.data.toList) rfl rfl hkey (.lit (.int .i64 (k : Int))) [] hkw ?_; intro w1 hown1 hgrow1))
        have HO1 : Hid _ := hown1
        have HB1 : Hid (Below W.heap.size W w1) := HB.out.grown hgrow1 HB.out.size (fun g hg => by cases hg; exact Nat.le_refl _)
        clear hown1 hgrow1
        go_roundw
        case rel => exact ⟨k + 1, n + 1, _, by omega, by go_num, HB1.out, HO1.out, by omega, HN.out⟩
        case measure => simp [intOf]; omega
    · have hkk : k = l.length := by omega
      have HN : Hid (ColIs D l) := by have := HC.out; rwa [hkk, List.take_length] at this
      clear hkk
      go_wp2
      go_ret
      exact ⟨W.heap.size, rfl, Nat.le_refl _, ⟨n, D, HO.out, by omega, HN.out⟩, HB.out⟩
end Go.Proofs.Ytipbjoeekbgnbaa
