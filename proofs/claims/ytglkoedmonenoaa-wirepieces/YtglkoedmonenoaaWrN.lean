/- Wire's Reader in memory; its drop and Lost. Conditions: how many bytes there are. -/
import Derived.Test.YtglkoedmonenoaaWrL
namespace Go.Proofs.Ytglkoedmonenoaa
open Go.RowKit
set_option linter.unusedVariables false
set_option maxRecDepth 100000

theorem Mod.of_grown {w w' : World} {v : Value} (h : w.grownBy w' v.ownBlock) (S : List Nat) (hS : ∀ k, v.ownBlock = some k → k ∈ S) : Mod S w w' :=
  ⟨h.os, h.tape, h.output, h.size, fun k hk hn => h.block k hk fun e => hn (hS k e.symm)⟩
/-- 'append(v, s...)', s a string: what has not turned. -/
theorem OB.textM {W : World} {B : Nat} {v : Value} {l : List UInt8} (h : OB W B v l) (s : ByteArray) (hn : l.length + s.size ≤ 1000000000) (hB : B ≤ W.heap.size) :
    ∃ v' w', (Builtin.append_ #[35, 9] 35 #[v, .string s]).run Try.prog W = .ok v' w' ∧ OB w' B v' (l ++ s.data.toList) ∧ W.grownBy w' v.ownBlock ∧ (v' = .slice none 0 0 ↔ v = .slice none 0 0 ∧ s.size = 0) := by
  obtain ⟨i0, hi, hz0, hz1, hz2⟩ := info_parts infoU8
  obtain ⟨v', w', h1, h2, h3, h4⟩ := Lib.run_append_own_string (P := Try.prog) W B 35 9 35 5 i0 Try.underlying35 Try.underlying9 hi hz0 hz1 hz2 v l.length (byteCells l) h s (by unfold maxLen; omega) (by omega) hB
  refine ⟨v', w', h1, ?_, h3, h4⟩
  unfold OB
  rw [show byteCells (l ++ s.data.toList) = byteCells l ++ Lib.strCells s by simp [byteCells, Lib.strCells], show (l ++ s.data.toList).length = l.length + s.size by simp]
  exact h2
/-- 'append([]byte(nil), b...)'. -/
theorem OB.copied {W : World} {a : Option Addr} {cap : Nat} {m : List UInt8} (hm : BS W a cap m) (n : Nat) (hn' : n = m.length) (hn : m.length ≤ 1000000000) :
    ∃ v' w', (Builtin.append_ #[35, 35] 35 #[.slice none 0 0, .slice a n cap]).run Try.prog W = .ok v' w' ∧ OB w' W.heap.size v' m ∧ Below W.heap.size W w' ∧ (m = [] → v' = .slice none 0 0) := by
  subst hn'
  obtain ⟨i0, hi, hz0, hz1, hz2⟩ := info_parts infoU8
  have h := OB.nil W W.heap.size
  cases a with
  | none =>
    have h0 : m = [] := List.eq_nil_of_length_eq_zero (by have := hm.nil rfl; have := hm.le; omega)
    subst h0
    obtain rfl := hm.nil rfl
    refine ⟨.slice none 0 0, W, run_append_owned_none (P := Try.prog) (w := W) W.heap.size 35 35 5 i0 1 Try.underlying35 hi _ 0 _ h, h, Below.refl _ _, fun _ => rfl⟩
  | some ad =>
    obtain ⟨v', w', h1, h2, h3, h4⟩ := run_append_own (P := Try.prog) W W.heap.size 35 35 5 i0 (.int .u8 0) 1 1 Try.underlying35 hi hz0 hz1 hz2 rfl (by decide) (.slice none 0 0) 0 _ h ad m.length cap (byteCells m) (by simp [byteCells])
      (fun j u hj => by
        have hj' : j < m.length := by have := (List.getElem?_eq_some_iff.1 hj).1; simpa [byteCells] using this
        obtain ⟨b, off, e, hc⟩ := hm.row j hj'
        cases e
        rw [addr_add, hc]
        simp only [byteCells, List.getElem?_map, List.getElem?_eq_getElem hj', Option.map_some] at hj
        rw [← hj, List.getD_eq_getElem?_getD, List.getElem?_eq_getElem hj']; rfl)
      (fun u hu => by simp only [byteCells, List.mem_map] at hu; obtain ⟨z, _, rfl⟩ := hu; rfl)
      (by unfold maxLen; omega) (by omega) (Nat.le_refl _)
    refine ⟨v', w', h1, ?_, (Below.refl _ W).grown h3 (Nat.le_refl _) (fun k hk => by cases hk), fun e => h4.2 ⟨rfl, by rw [e]; rfl⟩⟩
    unfold OB
    simpa [byteCells] using h2
theorem append_stepB {ops : Array Oper} {o : Oper} {a : Act} {w : World} {K : Act → World → Prop} {Q : Exit → Act → World → Prop} (hw : Region.wanted o (yielded ops a.tmps) = true) (s x : Operand)
    (ho : o.op = .call { callee := .builtin .append, args := #[s, x], argTypes := #[35, 35] }) (hty : o.type = 35) (v u v' : Value) (w' : World) (hs : a.eval s = v) (hx : a.eval x = u)
    (hr : (Builtin.append_ #[35, 35] 35 #[v, u]).run Try.prog w = .ok v' w') (h : K (a.put o.dst v') w') :
    if Region.wanted o (yielded ops a.tmps) = true then Oper.wp Try.prog o a w K Q else K (a.put o.dst undef) w := by
  rw [if_pos hw]
  unfold Oper.wp execOp
  simp only [ho, hty, resolve, invoke, builtin, Sem.run_bind, Sem.run_pure, Result.andThen_ok, List.map_toArray, List.map_cons, List.map_nil, hs, hx, hr]
  exact h
/-- A Reader in memory: the bytes that it holds, how many have gone, how many were lost. -/
structure RdAt (W : World) (B r : Nat) (v : Value) (H : List UInt8) (G : Nat) (lost : Int) : Prop where
  c0 : W.cell? ⟨r, 0, none⟩ = some v
  c1 : W.cell? ⟨r, 1, none⟩ = some (.int .i64 G)
  c2 : W.cell? ⟨r, 2, none⟩ = some (.int .i64 lost)
  f : ∀ i, W.frozen? ⟨r, i, none⟩ = false
  ob : OB W B v H
  nil : H = [] → v = .slice none 0 0
  g : G ≤ H.length
  len : H.length ≤ 500000000
  lo : B ≤ r
theorem RdAt.lt {W : World} {B r : Nat} {v : Value} {H : List UInt8} {G : Nat} {lost : Int} (h : RdAt W B r v H G lost) : r < W.heap.size := World.block_lt_of_cell? W _ h.c0
theorem OB.ne {W : World} {B r : Nat} {v u : Value} {H : List UInt8} (h : OB W B v H) (hn : H = [] → v = .slice none 0 0) (hr : W.cell? ⟨r, 0, none⟩ = some u) (hu : ∀ c, u ≠ .int .u8 c) : v.ownBlock ≠ some r := by
  intro e
  by_cases h0 : H = []
  · rw [hn h0] at e; cases e
  · obtain ⟨a, cap, rfl, hb, _⟩ := h.bs
    obtain ⟨b, off, rfl, hc⟩ := hb.row 0 (List.length_pos_iff.2 h0)
    rcases h.2 with ⟨h2, _⟩ | ⟨g, cap', cur, h2, _⟩
    · cases h2
    · simp only [Value.slice.injEq, Option.some.injEq, Addr.mk.injEq] at h2
      obtain ⟨⟨rfl, rfl, _⟩, _⟩ := h2
      simp only [Value.ownBlock, Option.some.injEq] at e
      subst e
      rw [Nat.zero_add, hr] at hc
      exact hu _ (Option.some.inj hc)
theorem RdAt.ne {W : World} {B r : Nat} {v : Value} {H : List UInt8} {G : Nat} {lost : Int} (h : RdAt W B r v H G lost) : v.ownBlock ≠ some r :=
  h.ob.ne h.nil h.c0 (fun c e => by
    obtain ⟨a, cap, rfl, _⟩ := h.ob.bs
    cases e)
/-- The blocks of a Reader. -/
def rdS (r : Nat) (v : Value) : List Nat := r :: (v.ownBlock.toList)
theorem RdAt.lows {W : World} {B r : Nat} {v : Value} {H : List UInt8} {G : Nat} {lost : Int} (h : RdAt W B r v H G lost) : ∀ i ∈ rdS r v, B ≤ i := by
  intro i hi
  simp only [rdS, List.mem_cons, Option.mem_toList] at hi
  rcases hi with rfl | hi
  · exact h.lo
  · exact (h.ob.lt i hi).1
theorem OB.mod {w w' : World} {B : Nat} {v : Value} {l : List UInt8} {S : List Nat} (h : OB w B v l) (k : Mod S w w') (hS : ∀ g, v.ownBlock = some g → g ∉ S) : OB w' B v l := by
  refine ⟨h.1, ?_⟩
  rcases h.2 with h2 | ⟨g, cap, cur, rfl, hg, hb, h3⟩
  · exact Or.inl h2
  · refine Or.inr ⟨g, cap, cur, rfl, hg, ?_, h3⟩
    rw [k.block g (Array.getElem?_eq_some_iff.1 hb).1 (hS g rfl)]; exact hb
theorem RdAt.mod {W W' : World} {B r : Nat} {v : Value} {H : List UInt8} {G : Nat} {lost : Int} {S : List Nat} (h : RdAt W B r v H G lost) (k : Mod S W W') (hS : ∀ i ∈ rdS r v, i ∉ S) : RdAt W' B r v H G lost := by
  have hr : r ∉ S := hS r (by simp [rdS])
  exact ⟨k.cell h.c0 hr, k.cell h.c1 hr, k.cell h.c2 hr, fun i => (k.frozen h.lt hr).trans (h.f i), h.ob.mod k (fun g e => hS g (by simp [rdS, e])), h.nil, h.g, h.len, h.lo⟩
theorem RdAt.below {W W' : World} {B r : Nat} {v : Value} {H : List UInt8} {G : Nat} {lost : Int} (h : RdAt W B r v H G lost) (k : Below W.heap.size W W') : RdAt W' B r v H G lost :=
  h.mod (S := []) (Mod.of_below k) (by simp)
/-- 'r.gone', 'r.lost' stored. -/
theorem RdAt.set1 {W : World} {B r : Nat} {v : Value} {H : List UInt8} {G : Nat} {lost : Int} (h : RdAt W B r v H G lost) (G' : Nat) (hG : G' ≤ H.length) : RdAt (W.setCell ⟨r, 1, none⟩ (.int .i64 G')) B r v H G' lost := by
  have m : Mod [r] W (W.setCell ⟨r, 1, none⟩ (.int .i64 G')) := (Mod.refl _ _).setCell _ _ _ (by simp)
  refine ⟨?_, World.cell?_setCell_same _ _ _ h.c1, ?_, fun i => by simp [h.f], h.ob.mod m (fun g e => ?_), h.nil, hG, h.len, h.lo⟩
  · rw [cell_oo _ _ _ _ _ _ (by omega)]; exact h.c0
  · rw [cell_oo _ _ _ _ _ _ (by omega)]; exact h.c2
  · have := h.ne; simp; intro e'; subst e'; exact this e
theorem RdAt.set2 {W : World} {B r : Nat} {v : Value} {H : List UInt8} {G : Nat} {lost : Int} (h : RdAt W B r v H G lost) (lost' : Int) : RdAt (W.setCell ⟨r, 2, none⟩ (.int .i64 lost')) B r v H G lost' := by
  have m : Mod [r] W (W.setCell ⟨r, 2, none⟩ (.int .i64 lost')) := (Mod.refl _ _).setCell _ _ _ (by simp)
  refine ⟨?_, ?_, World.cell?_setCell_same _ _ _ h.c2, fun i => by simp [h.f], h.ob.mod m (fun g e => ?_), h.nil, h.g, h.len, h.lo⟩
  · rw [cell_oo _ _ _ _ _ _ (by omega)]; exact h.c0
  · rw [cell_oo _ _ _ _ _ _ (by omega)]; exact h.c1
  · have := h.ne; simp; intro e'; subst e'; exact this e
/-- 'r.held' stored, of bytes of one's own. -/
theorem RdAt.set0 {W : World} {B r : Nat} {v v' : Value} {H' : List UInt8} {G : Nat} {lost : Int} (h0 : W.cell? ⟨r, 0, none⟩ = some v) (h1 : W.cell? ⟨r, 1, none⟩ = some (.int .i64 G)) (h2 : W.cell? ⟨r, 2, none⟩ = some (.int .i64 lost)) (hf : ∀ i, W.frozen? ⟨r, i, none⟩ = false) (hv : ∀ c, v ≠ .int .u8 c)
    (ho : OB W B v' H') (hn : H' = [] → v' = .slice none 0 0) (hg : G ≤ H'.length) (hl : H'.length ≤ 500000000) (lo : B ≤ r) : RdAt (W.setCell ⟨r, 0, none⟩ v') B r v' H' G lost := by
  have m : Mod [r] W (W.setCell ⟨r, 0, none⟩ v') := (Mod.refl _ _).setCell _ _ _ (by simp)
  refine ⟨World.cell?_setCell_same _ _ _ h0, ?_, ?_, fun i => by simp [hf], ho.mod m (fun g e => ?_), hn, hg, hl, lo⟩
  · rw [cell_oo _ _ _ _ _ _ (by omega)]; exact h1
  · rw [cell_oo _ _ _ _ _ _ (by omega)]; exact h2
  · have := ho.ne hn h0 hv; simp; intro e'; subst e'; exact this e
set_option maxHeartbeats 400000 in
theorem lost_any {W : World} {B r : Nat} {v : Value} {H : List UInt8} {G : Nat} {lost : Int} (h : RdAt W B r v H G lost) :
    Calls Try.prog 13 #[.pointer (some ⟨r, 0, none⟩)] W fun e w' => e = .returned (.int .i64 lost) ∧ w' = W := by
  have c2 := h.c2
  clear h
  go_enter Try.func13, Try.ntmps13
  go_wp2
  go_ret
  exact ⟨rfl, rfl⟩
end Go.Proofs.Ytglkoedmonenoaa
