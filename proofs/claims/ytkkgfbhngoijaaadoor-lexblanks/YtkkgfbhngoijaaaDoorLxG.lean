/- The words of a text, as plain functions; rows of words in memory. -/
import Derived.Test.YtkkgfbhngoijaaaDoorLxF
import Derived.OwnWalk
namespace Go.Proofs.YtkkgfbhngoijaaaDoor
open Go.RowKit
set_option linter.unusedVariables false
set_option maxRecDepth 100000

def errOf (l : List UInt8) : Int := (valueL (measureL l).1 (l.take (measureL l).2)).2
def wordOf (p : Nat × Nat) (l : List UInt8) : Wd := ⟨(measureL l).1, l.take (measureL l).2, (valueL (measureL l).1 (l.take (measureL l).2)).1, p.1, p.2⟩
def scanA : Nat → List Wd → Nat × Nat → List UInt8 → List Wd × Int × Nat × Nat
  | 0, _, _, _ => ([], 0, 0, 0)
  | n + 1, acc, p, l =>
    if (skipL p l).2 = [] then (acc ++ [endW (skipL p l).1], 0, 0, 0)
    else if errOf (skipL p l).2 ≠ 0 then ([], errOf (skipL p l).2, (skipL p l).1.1, (skipL p l).1.2)
    else scanA n (acc ++ [wordOf (skipL p l).1 (skipL p l).2]) (passL (skipL p l).1 ((skipL p l).2.take (measureL (skipL p l).2).2)) ((skipL p l).2.drop (measureL (skipL p l).2).2)
theorem skipN_len (n : Nat) : ∀ (p : Nat × Nat) (l : List UInt8), (skipN n p l).2.length ≤ l.length := by
  induction n with
  | zero => intro p l; exact Nat.le_refl _
  | succ n ih =>
    intro p l
    simp only [skipN]
    split
    · exact Nat.le_refl _
    · exact Nat.le_trans (ih _ _) (by rw [List.length_drop]; omega)
theorem skipL_len (p : Nat × Nat) (l : List UInt8) : (skipL p l).2.length ≤ l.length := skipN_len _ _ _
theorem errOf_size {l : List UInt8} (hl : l ≠ []) (h : errOf l = 0) : 0 < (measureL l).2 := by
  rcases Nat.eq_zero_or_pos (measureL l).2 with h0 | h0
  · exfalso
    unfold errOf valueL at h
    rw [h0, List.take_zero, if_pos rfl] at h
    simp at h
  · exact h0
theorem drop_shorter {l : List UInt8} (hl : l ≠ []) (h : errOf l = 0) : (l.drop (measureL l).2).length < l.length := by
  have h1 := errOf_size hl h
  have h2 : 0 < l.length := List.length_pos_iff.2 hl
  rw [List.length_drop]; omega
theorem scanA_enough (n : Nat) : ∀ (m : Nat) (acc : List Wd) (p : Nat × Nat) (l : List UInt8), l.length < n → l.length < m → scanA n acc p l = scanA m acc p l := by
  induction n with
  | zero => intro m acc p l h; omega
  | succ n ih =>
    intro m acc p l h1 h2
    cases m with
    | zero => omega
    | succ m =>
      simp only [scanA]
      split
      · rfl
      · split
        · rfl
        · rename_i ha hb
          have h3 := drop_shorter ha (by simpa using hb)
          have h4 := skipL_len p l
          exact ih m _ _ _ (by omega) (by omega)
def scanL (acc : List Wd) (p : Nat × Nat) (l : List UInt8) : List Wd × Int × Nat × Nat := scanA (l.length + 1) acc p l
theorem scanL_end {acc : List Wd} {p : Nat × Nat} {l : List UInt8} (h : (skipL p l).2 = []) : scanL acc p l = (acc ++ [endW (skipL p l).1], 0, 0, 0) := by
  unfold scanL; simp only [scanA]; rw [if_pos h]
theorem scanL_err {acc : List Wd} {p : Nat × Nat} {l : List UInt8} (h : (skipL p l).2 ≠ []) (he : errOf (skipL p l).2 ≠ 0) : scanL acc p l = ([], errOf (skipL p l).2, (skipL p l).1.1, (skipL p l).1.2) := by
  unfold scanL; simp only [scanA]; rw [if_neg h, if_pos he]
theorem scanL_go {acc : List Wd} {p : Nat × Nat} {l : List UInt8} (h : (skipL p l).2 ≠ []) (he : errOf (skipL p l).2 = 0) :
    scanL acc p l = scanL (acc ++ [wordOf (skipL p l).1 (skipL p l).2]) (passL (skipL p l).1 ((skipL p l).2.take (measureL (skipL p l).2).2)) ((skipL p l).2.drop (measureL (skipL p l).2).2) := by
  unfold scanL
  rw [show scanA (l.length + 1) acc p l = _ from by simp only [scanA]; rw [if_neg h, if_neg (by simp [he])]]
  have h3 := drop_shorter h he
  have h4 := skipL_len p l
  exact scanA_enough _ _ _ _ _ (by omega) (by omega)
/-- What Scan tells. -/
def scanT (l : List UInt8) : List Wd × Int × Nat × Nat := if 65536 < l.length then ([], 2, 0, 0) else scanL [] (1, 1) l

def wordC (x : Wd) : List Value := [.int .i64 (x.kind : Int), .string (strL x.text), .int .i64 x.num, .int .i64 (x.line : Int), .int .i64 (x.col : Int)]
def wordCells (ws : List Wd) : List Value := ws.flatMap wordC
theorem wordCells_len (ws : List Wd) : (wordCells ws).length = ws.length * 5 := by
  induction ws with
  | nil => rfl
  | cons x ws ih => simp only [wordCells, List.flatMap_cons, List.length_append] at *; rw [ih]; simp [wordC]; omega
theorem wordCells_snoc (ws : List Wd) (x : Wd) : wordCells (ws ++ [x]) = wordCells ws ++ wordC x := by simp [wordCells]
theorem wordCells_at (ws : List Wd) (k : Nat) (hk : k < ws.length) (j : Nat) (hj : j < 5) : (wordCells ws)[k * 5 + j]? = (wordC ws[k])[j]? := by
  induction ws generalizing k with
  | nil => simp at hk
  | cons x ws ih =>
    cases k with
    | zero =>
      have : j < (wordC x).length := hj
      simp only [wordCells, List.flatMap_cons, Nat.zero_mul, Nat.zero_add, List.getElem_cons_zero]
      rw [List.getElem?_append_left this]
    | succ k =>
      have h1 : (k + 1) * 5 + j = (wordC x).length + (k * 5 + j) := by show _ = 5 + _; omega
      simp only [wordCells, List.flatMap_cons, List.getElem_cons_succ]
      rw [h1, List.getElem?_append_right (by omega), Nat.add_sub_cancel_left]
      exact ih k (by simpa using hk)

/-- A row of words of one's own. -/
def OW (W : World) (B : Nat) (v : Value) (ws : List Wd) : Prop := W.ownsRow B 28 5 v ws.length (wordCells ws)
theorem OW.nil (W : World) (B : Nat) : OW W B (.slice none 0 0) [] := World.ownsRow_nil W B _ _
theorem OW.mod {S : List Nat} {W W' : World} {B : Nat} {v : Value} {ws : List Wd} (h : OW W B v ws) (m : Mod S W W') (hb : ∀ g, v.ownBlock = some g → g ∉ S) : OW W' B v ws := by
  obtain ⟨h1, h2⟩ := h
  refine ⟨h1, ?_⟩
  rcases h2 with h2 | ⟨g, cap, cur, rfl, hg, hh, hr⟩
  · exact .inl h2
  · refine .inr ⟨g, cap, cur, rfl, hg, ?_, hr⟩
    rw [m.block g (Array.getElem?_eq_some_iff.1 hh).1 (hb g rfl)]; exact hh
/-- As a slice that can be read. -/
theorem OW.sl {W : World} {B : Nat} {v : Value} {ws : List Wd} (h : OW W B v ws) : ∃ a cap, v = .slice a ws.length cap ∧ (a = none → ws = [] ∧ cap = 0) ∧ ∀ k, k < ws.length → ∃ g, a = some ⟨g, 0, none⟩ ∧ B ≤ g ∧ g < W.heap.size ∧ ∀ j, j < 5 → W.cell? ⟨g, k * 5 + j, none⟩ = (wordC (ws.getD k zeroW))[j]? := by
  have hc := fun g hg => World.ownsRow.cells h (g := g) hg
  have hlt := World.ownsRow.lt h
  rcases h.2 with ⟨rfl, h0⟩ | ⟨g, cap, cur, rfl, hg, hh, _⟩
  · refine ⟨none, 0, by rw [h0], fun _ => ⟨List.length_eq_zero_iff.1 h0, rfl⟩, fun k hk => by omega⟩
  · refine ⟨_, _, rfl, (fun e => by cases e), fun k hk => ⟨g, rfl, hg, (hlt g rfl).2, fun j hj => ?_⟩⟩
    have h5 : j < (wordC (ws.getD k zeroW)).length := hj
    rw [List.getElem?_eq_getElem h5]
    have h6 : (wordCells ws)[k * 5 + j]? = some (wordC (ws.getD k zeroW))[j] := by
      rw [wordCells_at ws k hk j hj, ← List.getElem?_eq_getElem h5]
      rw [List.getD_eq_getElem?_getD, List.getElem?_eq_getElem hk]; rfl
    have := hc g rfl (k * 5 + j) _ h6
    have he : (⟨g, 0, none⟩ : Addr).add (k * 5 + j) = ⟨g, k * 5 + j, none⟩ := by
      unfold Addr.add; split
      · rename_i e; rw [e]
      · simp
    rw [he] at this; exact this
theorem OW.ne {W : World} {B r : Nat} {p : Nat × Nat} {l : List UInt8} {v : Value} {ws : List Wd} (h : OW W B v ws) (hr : RdX W r p l) : ∀ g, v.ownBlock = some g → ws ≠ [] → g ≠ r := by
  intro g hg hne e
  obtain ⟨a, cap, rfl, _, hc⟩ := h.sl
  obtain ⟨g', rfl, _, _, hj⟩ := hc 0 (List.length_pos_iff.2 hne)
  cases hg
  have := hj 1 (by omega)
  simp only [Nat.zero_mul, Nat.zero_add] at this
  rw [show (⟨g', 1, none⟩ : Addr) = ⟨r, 1, none⟩ from by rw [← e], hr.c1] at this
  simp [wordC] at this
theorem infoWord : (Tryd.prog.info? 28).map (fun i => (i.zero, i.size, i.bytes)) = some (some (.agg #[.int .i64 0, .string ⟨#[]⟩, .int .i64 0, .int .i64 0, .int .i64 0]), 5, 48) := by kernel_rfl
/-- 'append(v, w)'. -/
theorem append_word (W : World) (B : Nat) (v : Value) (ws : List Wd) (h : OW W B v ws) (x : Wd) (g : Nat) (hg : ∀ j, j < 5 → W.cell? ⟨g, j, none⟩ = (wordC x)[j]?) (hn : ws.length ≤ 1000000) (hB : B ≤ W.heap.size) :
    ∃ v' w', (Builtin.append_ #[23, 23] 23 #[v, .slice (some ⟨g, 0, none⟩) 1 1]).run Tryd.prog W = .ok v' w' ∧ OW w' B v' (ws ++ [x]) ∧ W.grownBy w' v.ownBlock := by
  obtain ⟨i0, hi, hz0, hz1, hz2⟩ := info_parts infoWord
  obtain ⟨v', w', h1, h2, h3, _⟩ := run_append_own (P := Tryd.prog) (w := W) B 23 23 28 i0 _ 5 48 Tryd.underlying23 hi hz0 hz1 hz2 rfl (by decide) v ws.length _ h ⟨g, 0, none⟩ 1 1 (wordC x) rfl
    (fun j u hj => by
      have hj' : j < 5 := by have := (List.getElem?_eq_some_iff.1 hj).1; simpa [wordC] using this
      have he : (⟨g, 0, none⟩ : Addr).add j = ⟨g, j, none⟩ := by
        unfold Addr.add; split
        · rename_i e; rw [e]
        · simp
      rw [he, hg j hj']; exact hj)
    (fun u hu => by simp only [wordC, List.mem_cons, List.not_mem_nil, or_false] at hu; rcases hu with rfl | rfl | rfl | rfl | rfl <;> rfl)
    (by unfold maxLen; omega) (by omega) hB
  refine ⟨v', w', h1, ?_, h3⟩
  unfold OW
  rw [wordCells_snoc, List.length_append]; exact h2
/-- An append of words whose run is known. -/
theorem append_runW {ops : Array Oper} {rest : List Oper} {o : Oper} {a : Act} {w : World} {Q : Exit → Act → World → Prop} (hw : Region.wanted o (yielded ops a.tmps) = true) (s x : Operand)
    (ho : o.op = .call { callee := .builtin .append, args := #[s, x], argTypes := #[23, 23] }) (hty : o.type = 23) (v u v' : Value) (w' : World) (hs : a.eval s = v) (hx : a.eval x = u)
    (hr : (Builtin.append_ #[23, 23] 23 #[v, u]).run Tryd.prog w = .ok v' w') (h : wpList Tryd.prog ops Q rest (a.put o.dst v') w') : wpList Tryd.prog ops Q (o :: rest) a w :=
  wpList_step fun K hK => by
    rw [if_pos hw]
    unfold Oper.wp execOp
    simp only [ho, hty, resolve, invoke, builtin, Sem.run_bind, Sem.run_pure, Result.andThen_ok, List.map_toArray, List.map_cons, List.map_nil, hs, hx, hr]
    exact hK _ _ h
end Go.Proofs.YtkkgfbhngoijaaaDoor
