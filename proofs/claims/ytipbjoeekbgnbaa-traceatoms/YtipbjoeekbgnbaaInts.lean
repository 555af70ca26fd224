/- Slices of ints in memory: those that came in, those that the law makes by append. -/
import Derived.Test.YtipbjoeekbgnbaaSmallB
import Derived.OwnWalk
namespace Go.Proofs.Ytipbjoeekbgnbaa
open Go.RowKit
set_option linter.unusedVariables false
set_option maxRecDepth 100000

theorem IntRow.at {w : World} {a : Option Addr} {zs : List Int} (h : IntRow w a zs) (h0 : 0 < zs.length) : ∃ b off, a = some ⟨b, off, none⟩ ∧ ∀ i, i < zs.length → w.cell? ⟨b, off + i, none⟩ = some (.int .i64 (zs.getD i 0)) := by
  obtain ⟨b, off, rfl, _⟩ := h 0 h0
  refine ⟨b, off, rfl, fun i hi => ?_⟩
  obtain ⟨b', off', e, hc⟩ := h i hi
  cases e; exact hc
theorem IntRow.stays {w w' : World} {a : Option Addr} {zs : List Int} {B : Nat} (h : IntRow w a zs) (k : Below B w w') (hB : w.heap.size ≤ B) : IntRow w' a zs := by
  intro i hi
  obtain ⟨b, off, rfl, hc⟩ := h i hi
  refine ⟨b, off, rfl, ?_⟩
  rw [k.cell (p := ⟨b, off + i, none⟩) ?_]; exact hc
  have : b < w.heap.size := by
    rcases Nat.lt_or_ge b w.heap.size with h | h
    · exact h
    · simp [World.cell?, Array.getElem?_eq_none h] at hc
  show b < B
  omega
theorem IsInts.row {w : World} {a : Option Addr} {len cap : Nat} {zs : List Int} (h : IsInts w a len cap zs) : IntRow w a (zs.take len) ∧ (zs.take len).length = len ∧ Fits (zs.take len) ∧ len ≤ 9223372036854775807 := by
  rcases h with ⟨rfl, rfl, rfl, rfl⟩ | ⟨x, rfl, hl, hm, hz, hc, hw⟩
  · exact ⟨fun i hi => by simp at hi, rfl, fun x hx => by simp at hx, by omega⟩
  · have hlen : (zs.take len).length = len := by rw [List.length_take]; omega
    unfold maxLen at hm
    refine ⟨fun i hi => ?_, hlen, fun z hz => bounds_int (hw z (List.mem_of_mem_take hz)), by omega⟩
    have hi' : i < zs.length := by omega
    have h1 := hc i hi'
    have hspot : x.spot = none := by simpa [Addr.add] using World.cell?_spot (hc 0 (by omega))
    obtain ⟨b, off, sp⟩ := x
    simp only at hspot
    subst hspot
    refine ⟨b, off, rfl, ?_⟩
    have he : (⟨b, off, none⟩ : Addr).add i = ⟨b, off + i, none⟩ := by
      unfold Addr.add; split
      · rename_i h; subst h; rfl
      · rfl
    rw [he] at h1
    have : (zs.take len).getD i 0 = zs.getD i 0 := by
      rw [List.getD_eq_getElem?_getD, List.getD_eq_getElem?_getD, List.getElem?_take_of_lt (by omega)]
    rw [this]; exact h1


theorem addr_add (b off i : Nat) : (⟨b, off, none⟩ : Addr).add i = ⟨b, off + i, none⟩ := by
  unfold Addr.add; split
  · rename_i h; subst h; rfl
  · rfl
/-- Ints as cells. -/
def intCells (l : List Int) : List Value := l.map fun z => Value.int .i64 z
theorem infoInt : (Try.prog.info? 3).map (fun i => (i.zero, i.size, i.bytes)) = some (some (.int .i64 0), 1, 8) := by kernel_rfl
/-- 'append(v, l...)', v a row of the law's own, l any slice of ints. -/
theorem append_ints (W : World) (B : Nat) (v : Value) (xs : List Int) (hown : W.ownsRow B 3 1 v xs.length (intCells xs)) (a : Option Addr) (zs : List Int) (cap : Nat) (ha : a = none → cap = 0) (hz : IntRow W a zs) (hn : xs.length + zs.length ≤ 1000000) (hB : B ≤ W.heap.size) :
    ∃ v' w', (Builtin.append_ #[26, 26] 26 #[v, .slice a zs.length cap]).run Try.prog W = .ok v' w' ∧ w'.ownsRow B 3 1 v' (xs ++ zs).length (intCells (xs ++ zs)) ∧ Below B W w' := by
  obtain ⟨i0, hi, hz0, hz1, hz2⟩ := info_parts infoInt
  cases a with
  | none =>
    have h0 : zs = [] := by
      cases zs with
      | nil => rfl
      | cons z zs => obtain ⟨b, off, e, _⟩ := hz 0 (by simp); cases e
    subst h0
    obtain rfl := ha rfl
    refine ⟨v, W, run_append_owned_none (P := Try.prog) (w := W) B 26 26 3 i0 1 Try.underlying26 hi v xs.length _ hown, by simpa using hown, Below.refl _ _⟩
  | some ad =>
    have hsp : ∀ j, j < zs.length → W.cell? (ad.add j) = some (.int .i64 (zs.getD j 0)) := by
      intro j hj
      obtain ⟨b, off, e, hc⟩ := hz j hj
      cases e
      rw [addr_add]; exact hc
    obtain ⟨v', w', h1, h2, h3, _⟩ := run_append_own (P := Try.prog) W B 26 26 3 i0 (.int .i64 0) 1 8 Try.underlying26 hi hz0 hz1 hz2 rfl (by decide) v xs.length _ hown ad zs.length cap (intCells zs) (by simp [intCells])
      (fun j u hj => by
        have hj' : j < zs.length := by have := (List.getElem?_eq_some_iff.1 hj).1; simpa [intCells] using this
        rw [hsp j hj']
        simp only [intCells, List.getElem?_map, List.getElem?_eq_getElem hj', Option.map_some] at hj
        rw [← hj, List.getD_eq_getElem?_getD, List.getElem?_eq_getElem hj']; rfl)
      (fun u hu => by simp only [intCells, List.mem_map] at hu; obtain ⟨z, _, rfl⟩ := hu; rfl)
      (by unfold maxLen; omega) (by omega) hB
    refine ⟨v', w', h1, ?_, (Below.refl B W).grown h3 hB (fun k hk => (hown.lt k hk).1)⟩
    simpa [intCells] using h2
/-- A row of the law's own as a slice that can be read. -/
theorem own_slice {W : World} {B : Nat} {v : Value} {xs : List Int} (h : W.ownsRow B 3 1 v xs.length (intCells xs)) (h0 : 0 < xs.length) :
    ∃ g cap, v = .slice (some ⟨g, 0, none⟩) xs.length cap ∧ B ≤ g ∧ g < W.heap.size ∧ IntRow W (some ⟨g, 0, none⟩) xs := by
  have hc := fun g hg => h.cells (g := g) hg
  have hlt := h.lt
  rcases h.2 with ⟨_, h2⟩ | ⟨g, cap, cur, rfl, hg, _⟩
  · omega
  · refine ⟨g, cap, rfl, hg, (hlt g rfl).2, fun i hi => ⟨g, 0, rfl, ?_⟩⟩
    have := hc g rfl i (.int .i64 (xs.getD i 0)) (by simp [intCells, List.getD_eq_getElem?_getD, hi])
    rw [addr_add] at this; exact this
/-- A new row of one number. -/
theorem own_one (W : World) (B : Nat) (x : Int) (hB : B ≤ W.heap.size) : (W.alloc (.cells #[.int .i64 x] 3)).ownsRow B 3 1 (.slice (some ⟨W.heap.size, 0, none⟩) 1 1) [x].length (intCells [x]) :=
  World.ownsRow_lit W #[.int .i64 x] 1 hB (by unfold maxLen; omega) (by simp)
/-- An append whose run is known, guarded or not. -/
theorem append_run {ops : Array Oper} {rest : List Oper} {o : Oper} {a : Act} {w : World} {Q : Exit → Act → World → Prop} (hw : Region.wanted o (yielded ops a.tmps) = true) (s x : Operand)
    (ho : o.op = .call { callee := .builtin .append, args := #[s, x], argTypes := #[26, 26] }) (hty : o.type = 26) (v u v' : Value) (w' : World) (hs : a.eval s = v) (hx : a.eval x = u)
    (hr : (Builtin.append_ #[26, 26] 26 #[v, u]).run Try.prog w = .ok v' w') (h : wpList Try.prog ops Q rest (a.put o.dst v') w') : wpList Try.prog ops Q (o :: rest) a w :=
  wpList_step fun K hK => by
    rw [if_pos hw]
    unfold Oper.wp execOp
    simp only [ho, hty, resolve, invoke, builtin, Sem.run_bind, Sem.run_pure, Result.andThen_ok, List.map_toArray, List.map_cons, List.map_nil, hs, hx, hr]
    exact hK _ _ h
end Go.Proofs.Ytipbjoeekbgnbaa
