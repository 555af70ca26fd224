/- Worlds: what has turned; rows of structs of one's own (an element laid into c cells by C), and what grows by append. -/
import Derived.Test.YtipbjoeekbgnbaaChecked
import Derived.WalkKit
import Derived.WalkSpells
import Derived.WalkLawsBesides
import Derived.Below
import Derived.OwnWalk
import Derived.Maps.AppendAt
import Derived.Deep.Slices
import Derived.Deep.Strs
import Derived.ProofKit
namespace Go.Proofs.Ytipbjoeekbgnbaa
open Go.RowKit
set_option linter.unusedVariables false
set_option maxRecDepth 100000

/-- Nothing that was there has turned but the blocks of S. -/
structure Mod (S : List Nat) (W W' : World) : Prop where
  os : W'.os = W.os
  tape : W'.tape = W.tape
  output : W'.output = W.output
  size : W.heap.size ≤ W'.heap.size
  block : ∀ k, k < W.heap.size → k ∉ S → W'.heap[k]? = W.heap[k]?
theorem Mod.refl (S : List Nat) (W : World) : Mod S W W := ⟨rfl, rfl, rfl, Nat.le_refl _, fun _ _ _ => rfl⟩
theorem Mod.trans {S : List Nat} {x y z : World} (h : Mod S x y) (k : Mod S y z) : Mod S x z :=
  ⟨k.os.trans h.os, k.tape.trans h.tape, k.output.trans h.output, Nat.le_trans h.size k.size, fun i hi hb => (k.block i (Nat.lt_of_lt_of_le hi h.size) hb).trans (h.block i hi hb)⟩
theorem Mod.mono {S T : List Nat} {x y : World} (h : Mod S x y) (k : ∀ i, i ∈ S → i ∈ T) : Mod T x y :=
  ⟨h.os, h.tape, h.output, h.size, fun i hi hb => h.block i hi fun hs => hb (k i hs)⟩
theorem Mod.of_below {S : List Nat} {W W' : World} (h : Below W.heap.size W W') : Mod S W W' := ⟨h.os, h.tape, h.output, h.size, fun k hk _ => h.block k hk⟩
theorem Mod.setCell {S : List Nat} {x y : World} (h : Mod S x y) (b i : Nat) (v : Value) (hb : b ∈ S) : Mod S x (y.setCell ⟨b, i, none⟩ v) :=
  ⟨h.os, h.tape, h.output, by simpa using h.size, fun k hk hs => (Below.heap_setCell _ _ _ _ (fun e => hs (by rw [e]; exact hb))).trans (h.block k hk hs)⟩
theorem Mod.drew {S : List Nat} {x y : World} (h : Mod S x y) : Mod S x y.drew := ⟨h.os, h.tape, h.output, h.size, h.block⟩
theorem Mod.alloc {S : List Nat} {x y : World} (h : Mod S x y) (o : Obj) : Mod S x (y.alloc o) :=
  h.trans (Mod.of_below ((Below.refl _ y).alloc (Nat.le_refl _) o))
theorem Mod.cellEq {S : List Nat} {x y : World} (h : Mod S x y) {g i : Nat} (hl : g < x.heap.size) (hg : g ∉ S) : y.cell? ⟨g, i, none⟩ = x.cell? ⟨g, i, none⟩ :=
  World.cell?_of_block (w := x) (a := ⟨g, i, none⟩) (h.block g hl hg)
theorem Mod.cell {S : List Nat} {x y : World} (h : Mod S x y) {g i : Nat} {v : Value} (hv : x.cell? ⟨g, i, none⟩ = some v) (hg : g ∉ S) : y.cell? ⟨g, i, none⟩ = some v := by
  rw [h.cellEq (World.block_lt_of_cell? x ⟨g, i, none⟩ hv) hg]; exact hv
theorem Mod.frozen {S : List Nat} {x y : World} (h : Mod S x y) {g i : Nat} (hl : g < x.heap.size) (hg : g ∉ S) : y.frozen? ⟨g, i, none⟩ = x.frozen? ⟨g, i, none⟩ :=
  World.frozen?_of_block (w := x) (a := ⟨g, i, none⟩) (h.block g hl hg)
/-- Of worlds that grew from w on: what was there in w has not turned. -/
theorem Mod.below {S : List Nat} {w x y : World} (h : Mod S x y) (k : Below w.heap.size w x) (hS : ∀ i ∈ S, w.heap.size ≤ i) : Below w.heap.size w y :=
  k.trans ⟨h.os, h.tape, h.output, h.size, fun i hi => h.block i (Nat.lt_of_lt_of_le hi k.size) fun hs => by have := hS i hs; omega⟩

theorem cell_alloc_lt (X : World) (o : Obj) (b j : Nat) (h : b < X.heap.size) : (X.alloc o).cell? ⟨b, j, none⟩ = X.cell? ⟨b, j, none⟩ :=
  ((Below.refl _ X).alloc (Nat.le_refl _) o).cell (p := ⟨b, j, none⟩) h
theorem frozen_alloc_lt (X : World) (o : Obj) (b j : Nat) (h : b < X.heap.size) : (X.alloc o).frozen? ⟨b, j, none⟩ = X.frozen? ⟨b, j, none⟩ :=
  ((Below.refl _ X).alloc (Nat.le_refl _) o).frozen (p := ⟨b, j, none⟩) h
/-- A slice does not lie in the blocks of S. -/
def Off (a : Option Addr) (S : List Nat) : Prop := ∀ x, a = some x → x.block ∉ S
theorem Mod.belowOf {S : List Nat} {B : Nat} {x y : World} (h : Mod S x y) (hB : B ≤ x.heap.size) (hS : ∀ i ∈ S, B ≤ i) : Below B x y :=
  ⟨h.os, h.tape, h.output, h.size, fun i hi => h.block i (Nat.lt_of_lt_of_le hi hB) fun hs => by have := hS i hs; omega⟩
theorem addr_add0 (g j : Nat) : (⟨g, 0, none⟩ : Addr).add j = ⟨g, j, none⟩ := by
  unfold Addr.add; split
  · rename_i e; rw [e]
  · simp

/-- The cells of a row's elements. -/
def cellsL {X : Type} (C : X → List Value) (l : List X) : List Value := l.flatMap C
theorem cellsL_len {X : Type} {C : X → List Value} {c : Nat} (hC : ∀ x, (C x).length = c) (l : List X) : (cellsL C l).length = l.length * c := by
  induction l with
  | nil => simp [cellsL]
  | cons x l ih => unfold cellsL at *; rw [List.flatMap_cons, List.length_append, List.length_cons, ih, hC, Nat.succ_mul]; omega
theorem cellsL_append {X : Type} (C : X → List Value) (l m : List X) : cellsL C (l ++ m) = cellsL C l ++ cellsL C m := by simp [cellsL]
theorem cellsL_one {X : Type} (C : X → List Value) (x : X) : cellsL C [x] = C x := by simp [cellsL]
theorem cellsL_at {X : Type} {C : X → List Value} {c : Nat} (hC : ∀ x, (C x).length = c) (z : X) (l : List X) (k : Nat) (hk : k < l.length) (j : Nat) (hj : j < c) : (cellsL C l)[k * c + j]? = (C (l.getD k z))[j]? := by
  induction l generalizing k with
  | nil => simp at hk
  | cons x l ih =>
    cases k with
    | zero =>
      have : j < (C x).length := by rw [hC]; exact hj
      simp only [cellsL, List.flatMap_cons, Nat.zero_mul, Nat.zero_add]
      rw [List.getElem?_append_left this]; rfl
    | succ k =>
      have h1 : (k + 1) * c + j = (C x).length + (k * c + j) := by rw [hC, Nat.succ_mul]; omega
      simp only [cellsL, List.flatMap_cons]
      rw [h1, List.getElem?_append_right (by omega), Nat.add_sub_cancel_left]
      exact ih k (by simpa using hk)
/-- A row of one's own. -/
def Own {X : Type} (C : X → List Value) (e : TypeId) (c : Nat) (W : World) (B : Nat) (v : Value) (l : List X) : Prop := W.ownsRow B e c v l.length (cellsL C l)
theorem Own.nil {X : Type} (C : X → List Value) (e : TypeId) (c : Nat) (W : World) (B : Nat) : Own C e c W B (.slice none 0 0) [] := World.ownsRow_nil W B _ _
theorem Own.mod {X : Type} {C : X → List Value} {e : TypeId} {c : Nat} {S : List Nat} {W W' : World} {B : Nat} {v : Value} {l : List X} (h : Own C e c W B v l) (m : Mod S W W') (hb : ∀ g, v.ownBlock = some g → g ∉ S) : Own C e c W' B v l := by
  obtain ⟨h1, h2⟩ := h
  refine ⟨h1, ?_⟩
  rcases h2 with h2 | ⟨g, cap, cur, rfl, hg, hh, hr⟩
  · exact .inl h2
  · refine .inr ⟨g, cap, cur, rfl, hg, ?_, hr⟩
    rw [m.block g (Array.getElem?_eq_some_iff.1 hh).1 (hb g rfl)]; exact hh
theorem Own.below {X : Type} {C : X → List Value} {e : TypeId} {c : Nat} {W W' : World} {B : Nat} {v : Value} {l : List X} (h : Own C e c W B v l) (m : Below W.heap.size W W') : Own C e c W' B v l :=
  h.mod (S := []) (Mod.of_below m) (by simp)
/-- As a slice that can be read. -/
theorem Own.sl {X : Type} {C : X → List Value} {e : TypeId} {c : Nat} {W : World} {B : Nat} {v : Value} {l : List X} (hC : ∀ x, (C x).length = c) (z : X) (h : Own C e c W B v l) :
    ∃ a cap, v = .slice a l.length cap ∧ (a = none → l = [] ∧ cap = 0) ∧ (∀ y, a = some y → ∃ g, y = ⟨g, 0, none⟩ ∧ B ≤ g ∧ g < W.heap.size) ∧ ∀ k, k < l.length → ∃ g, a = some ⟨g, 0, none⟩ ∧ B ≤ g ∧ g < W.heap.size ∧ ∀ j, j < c → W.cell? ⟨g, k * c + j, none⟩ = (C (l.getD k z))[j]? := by
  have hc := fun g hg => World.ownsRow.cells h (g := g) hg
  have hlt := World.ownsRow.lt h
  rcases h.2 with ⟨rfl, h0⟩ | ⟨g, cap, cur, rfl, hg, hh, _⟩
  · refine ⟨none, 0, by rw [h0], fun _ => ⟨List.length_eq_zero_iff.1 h0, rfl⟩, (fun y hy => by cases hy), fun k hk => by omega⟩
  · refine ⟨_, _, rfl, (fun e => by cases e), (fun y hy => ⟨g, by cases hy; rfl, hg, (hlt g rfl).2⟩), fun k hk => ⟨g, rfl, hg, (hlt g rfl).2, fun j hj => ?_⟩⟩
    have h5 : j < (C (l.getD k z)).length := by rw [hC]; exact hj
    rw [List.getElem?_eq_getElem h5]
    have h6 : (cellsL C l)[k * c + j]? = some (C (l.getD k z))[j] := by
      rw [cellsL_at hC z l k hk j hj, ← List.getElem?_eq_getElem h5]
    have := hc g rfl (k * c + j) _ h6
    rw [addr_add0] at this; exact this
/-- 'append(v, x)'. -/
theorem Own.append {X : Type} {C : X → List Value} {e : TypeId} {c bytes : Nat} (hC : ∀ x, (C x).length = c) (h1 : ∀ x, ∀ u ∈ C x, u.oneCell' = true) {t : TypeId} {z : Value} (ht : Try.prog.underlying t = some (.slice e))
    (hinfo : (Try.prog.info? e).map (fun i => (i.zero, i.size, i.bytes)) = some (some z, c, bytes)) (hzs : z.cells.size = c) (hc0 : 0 < c) (W : World) (B : Nat) (v : Value) (l : List X) (h : Own C e c W B v l) (x : X) (g : Nat)
    (hg : ∀ j, j < c → W.cell? ⟨g, j, none⟩ = (C x)[j]?) (hn : l.length < maxLen) (hb : (l.length + 1) * bytes ≤ 140737488355328) (hB : B ≤ W.heap.size) :
    ∃ v' w', (Builtin.append_ #[t, t] t #[v, .slice (some ⟨g, 0, none⟩) 1 1]).run Try.prog W = .ok v' w' ∧ Own C e c w' B v' (l ++ [x]) ∧ W.grownBy w' v.ownBlock ∧ (v'.ownBlock = v.ownBlock ∨ v'.ownBlock = some W.heap.size) := by
  obtain ⟨i0, hi, hz0, hz1, hz2⟩ := info_parts hinfo
  obtain ⟨v', w', k1, k2, k3, _, k4⟩ := run_append_own_at (P := Try.prog) (w := W) B t t e i0 _ c bytes ht hi hz0 hz1 hz2 hzs hc0 v l.length _ h ⟨g, 0, none⟩ 1 1 (C x) (by rw [hC]; omega)
    (fun j u hj => by
      have hj' : j < c := by rw [← hC x]; exact (List.getElem?_eq_some_iff.1 hj).1
      rw [addr_add0, hg j hj']; exact hj)
    (h1 x) (by omega) hb hB
  refine ⟨v', w', k1, ?_, k3, k4⟩
  unfold Own
  rw [cellsL_append, cellsL_one, List.length_append]; exact k2
/-- What an append leaves. -/
theorem Mod.grown {W W' : World} {o : Option Nat} (h : W.grownBy W' o) : Mod o.toList W W' :=
  ⟨h.os, h.tape, h.output, h.size, fun k hk hs => h.block k hk (fun e => by subst e; simp at hs)⟩
theorem Own.lt {X : Type} {C : X → List Value} {e : TypeId} {c : Nat} {W : World} {B : Nat} {v : Value} {l : List X} (h : Own C e c W B v l) (g : Nat) (hg : v.ownBlock = some g) : B ≤ g ∧ g < W.heap.size := World.ownsRow.lt h g hg
/-- An append whose run is known, in a region that is walked. -/
theorem append_runO {ops : Array Oper} {rest : List Oper} {o : Oper} {a : Act} {w : World} {Q : Exit → Act → World → Prop} {t : TypeId} (hw : Region.wanted o (yielded ops a.tmps) = true) (s x : Operand)
    (ho : o.op = .call { callee := .builtin .append, args := #[s, x], argTypes := #[t, t] }) (hty : o.type = t) (v u v' : Value) (w' : World) (hs : a.eval s = v) (hx : a.eval x = u)
    (hr : (Builtin.append_ #[t, t] t #[v, u]).run Try.prog w = .ok v' w') (h : wpList Try.prog ops Q rest (a.put o.dst v') w') : wpList Try.prog ops Q (o :: rest) a w :=
  wpList_step fun K hK => by
    rw [if_pos hw]
    unfold Oper.wp execOp
    simp only [ho, hty, resolve, invoke, builtin, Sem.run_bind, Sem.run_pure, Result.andThen_ok, List.map_toArray, List.map_cons, List.map_nil, hs, hx, hr]
    exact hK _ _ h
/-- The same, at a step of a region that draws. -/
theorem append_stepO {ops : Array Oper} {o : Oper} {a : Act} {w : World} {K : Act → World → Prop} {Q : Exit → Act → World → Prop} {E : Prop} {t : TypeId} (hw : Region.wanted o (yielded ops a.tmps) = true) (s x : Operand)
    (ho : o.op = .call { callee := .builtin .append, args := #[s, x], argTypes := #[t, t] }) (hty : o.type = t) (v u v' : Value) (w' : World) (hs : a.eval s = v) (hx : a.eval x = u)
    (hr : (Builtin.append_ #[t, t] t #[v, u]).run Try.prog w = .ok v' w') (h : K (a.put o.dst v') w') :
    if Region.wanted o (yielded ops a.tmps) = true then Oper.wp Try.prog o a w K Q else E := by
  rw [if_pos hw]
  unfold Oper.wp execOp
  simp only [ho, hty, resolve, invoke, builtin, Sem.run_bind, Sem.run_pure, Result.andThen_ok, List.map_toArray, List.map_cons, List.map_nil, hs, hx, hr]
  exact h
/-- The same at 'Oper.wp'. -/
theorem append_wpO {o : Oper} {a : Act} {w : World} {K : Act → World → Prop} {Q : Exit → Act → World → Prop} {t : TypeId} (s x : Operand)
    (ho : o.op = .call { callee := .builtin .append, args := #[s, x], argTypes := #[t, t] }) (hty : o.type = t) (v u v' : Value) (w' : World) (hs : a.eval s = v) (hx : a.eval x = u)
    (hr : (Builtin.append_ #[t, t] t #[v, u]).run Try.prog w = .ok v' w') (h : K (a.put o.dst v') w') : Oper.wp Try.prog o a w K Q := by
  unfold Oper.wp execOp
  simp only [ho, hty, resolve, invoke, builtin, Sem.run_bind, Sem.run_pure, Result.andThen_ok, List.map_toArray, List.map_cons, List.map_nil, hs, hx, hr]
  exact h
end Go.Proofs.Ytipbjoeekbgnbaa

namespace Go.Proofs.Ytipbjoeekbgnbaa
open Go.RowKit Go.Deep Go.ChangeShapes Go.WideShapes Go.ChangeAt
set_option linter.unusedVariables false
set_option maxRecDepth 100000

/-- Elements of c cells each in memory. -/
def RowOf {X : Type} [Inhabited X] (C : X → List Value) (c : Nat) (w : World) (a : Option Addr) (l : List X) : Prop := ∀ i, i < l.length → ∃ b off, a = some ⟨b, off, none⟩ ∧ ∀ j, j < c → w.cell? ⟨b, off + i * c + j, none⟩ = (C (l.getD i default))[j]?
theorem addr_addO (b off i : Nat) : (⟨b, off, none⟩ : Addr).add i = ⟨b, off + i, none⟩ := by
  unfold Addr.add; split
  · rename_i e; rw [e]; rfl
  · rfl
/-- A slice whose elements are of c cells. -/
theorem open_rows {H : Type} {enc : TypeId × Value → H} {W : World} {t e : TypeId} {c : Nat} {X : Type} [Inhabited X] (C : X → List Value) (Q : X → Prop) (hc0 : 0 < c) (ht : Try.prog.underlying t = some (.slice e)) (hce : Try.prog.cellsOf e = c)
    (each : ∀ (fuel : Nat) (cs : List Value) (x : DataW H × List MemPlace), cs.length = c → DataW.trod enc Try.prog W 0 (fun _ => true) true fuel e cs = some x → ∃ y : X, cs = C y ∧ Q y)
    {fuel : Nat} {a : Option Addr} {len cap : Nat} {x : DataW H × List MemPlace} (h : DataW.trod enc Try.prog W 0 (fun _ => true) true fuel t [.slice a len cap] = some x) :
    ∃ l : List X, l.length = len ∧ RowOf C c W a l ∧ (∀ y ∈ l, Q y) ∧ len ≤ cap ∧ cap ≤ maxLen ∧ (a = none → cap = 0) := by
  rcases open_slice ht h with ⟨hcs, _⟩ | ⟨ad, l, cp, m, n, D, Pl, hcs, _, hl, hm, hmm, _, hx⟩
  · simp at hcs
    obtain ⟨rfl, rfl, rfl⟩ := hcs
    exact ⟨[], rfl, fun i hi => by simp at hi, fun y hy => by simp at hy, Nat.le_refl _, by unfold maxLen; omega, fun _ => rfl⟩
  · simp at hcs
    obtain ⟨rfl, rfl, rfl⟩ := hcs
    simp only [if_true] at hmm
    subst hmm
    rw [hce] at hx
    have key : ∀ i, i < len → ∃ y : X, (∀ j, j < c → W.cell? (ad.add (i * c + j)) = (C y)[j]?) ∧ (C y).length = c ∧ Q y := by
      intro i hi
      obtain ⟨cs', h1, h2⟩ := hx i (by omega)
      obtain ⟨_, hlen, hcell⟩ := World.cells?_some h1
      obtain ⟨y, rfl, hq⟩ := each _ _ _ hlen h2
      refine ⟨y, fun j hj => ?_, hlen, hq⟩
      have := hcell j hj
      rw [add_add] at this
      rw [this]
    obtain ⟨q, hq⟩ := choose_lt key
    refine ⟨(List.range len).map q, by simp, ?_, ?_, hl, hm, fun e => by cases e⟩
    · intro i hi
      have hi' : i < len := by simpa using hi
      have hd : ((List.range len).map q).getD i default = q i := by simp [List.getD_eq_getElem?_getD, hi']
      rw [hd]
      obtain ⟨c1, c2, c3⟩ := hq i hi'
      obtain ⟨k1, k2, _⟩ := hq 0 (by omega)
      have h0 := k1 0 hc0
      rw [List.getElem?_eq_getElem (by omega)] at h0
      have hspot : ad.spot = none := by simpa [Addr.add] using World.cell?_spot h0
      obtain ⟨b, off, sp⟩ := ad
      simp only at hspot
      subst hspot
      refine ⟨b, off, rfl, fun j hj => ?_⟩
      have := c1 j hj
      rw [addr_addO] at this
      rw [Nat.add_assoc]; exact this
    · intro y hy
      simp only [List.mem_map, List.mem_range] at hy
      obtain ⟨i, hi, rfl⟩ := hy
      exact (hq i hi).2.2
end Go.Proofs.Ytipbjoeekbgnbaa

namespace Go.Proofs.Ytipbjoeekbgnbaa
open Go.RowKit
set_option linter.unusedVariables false
set_option maxRecDepth 100000

theorem RowOf.cells {X : Type} [Inhabited X] {C : X → List Value} {c : Nat} {W : World} {ad : Addr} {xs : List X} (hC : ∀ x, (C x).length = c) (hc0 : 0 < c) (h : RowOf C c W (some ad) xs) (j : Nat) (u : Value) (hj : (cellsL C xs)[j]? = some u) : W.cell? (ad.add j) = some u := by
  have hlen : j < xs.length * c := by rw [← cellsL_len hC xs]; exact (List.getElem?_eq_some_iff.1 hj).1
  have hq : j / c < xs.length := Nat.div_lt_of_lt_mul (by rw [Nat.mul_comm]; exact hlen)
  obtain ⟨b, off, e, hk⟩ := h (j / c) hq
  cases e
  have hr : j % c < c := Nat.mod_lt _ hc0
  have hjj : j / c * c + j % c = j := Nat.div_add_mod' j c
  have h1 := hk (j % c) hr
  have h2 := cellsL_at hC default xs (j / c) hq (j % c) hr
  rw [hjj] at h2
  rw [addr_addO, show off + j = off + j / c * c + j % c by omega, h1, ← h2, hj]
/-- 'append(v, xs...)'. -/
theorem Own.appendRow {X : Type} [Inhabited X] {C : X → List Value} {e : TypeId} {c bytes : Nat} (hC : ∀ x, (C x).length = c) (h1 : ∀ x, ∀ u ∈ C x, u.oneCell' = true) {t : TypeId} {z : Value} (ht : Try.prog.underlying t = some (.slice e))
    (hinfo : (Try.prog.info? e).map (fun i => (i.zero, i.size, i.bytes)) = some (some z, c, bytes)) (hzs : z.cells.size = c) (hc0 : 0 < c) (W : World) (B : Nat) (v : Value) (l : List X) (h : Own C e c W B v l) (a : Option Addr) (xs : List X) (cap : Nat) (ha : a = none → cap = 0)
    (hr : RowOf C c W a xs) (hn : l.length + xs.length ≤ maxLen) (hb : (l.length + xs.length) * bytes ≤ 140737488355328) (hB : B ≤ W.heap.size) :
    ∃ v' w', (Builtin.append_ #[t, t] t #[v, .slice a xs.length cap]).run Try.prog W = .ok v' w' ∧ Own C e c w' B v' (l ++ xs) ∧ W.grownBy w' v.ownBlock ∧ (v'.ownBlock = v.ownBlock ∨ v'.ownBlock = some W.heap.size) := by
  obtain ⟨i0, hi, hz0, hz1, hz2⟩ := info_parts hinfo
  cases a with
  | none =>
    have h0 : xs = [] := by
      cases xs with
      | nil => rfl
      | cons z zs => obtain ⟨b, off, e, _⟩ := hr 0 (by simp); cases e
    subst h0
    obtain rfl := ha rfl
    refine ⟨v, W, run_append_owned_none (P := Try.prog) (w := W) B t t e i0 c ht hi v l.length _ h, by simpa using h, ⟨rfl, rfl, rfl, Nat.le_refl _, fun _ _ _ => rfl⟩, .inl rfl⟩
  | some ad =>
    obtain ⟨v', w', k1, k2, k3, _, k4⟩ := run_append_own_at (P := Try.prog) (w := W) B t t e i0 _ c bytes ht hi hz0 hz1 hz2 hzs hc0 v l.length _ h ad xs.length cap (cellsL C xs) (cellsL_len hC xs)
      (fun j u hj => hr.cells hC hc0 j u hj) (fun u hu => by
        simp only [cellsL, List.mem_flatMap] at hu
        obtain ⟨x, _, hx⟩ := hu
        exact h1 x u hx) hn hb hB
    refine ⟨v', w', k1, ?_, k3, k4⟩
    unfold Own
    rw [cellsL_append, List.length_append]; exact k2
end Go.Proofs.Ytipbjoeekbgnbaa

namespace Go.Proofs.Ytipbjoeekbgnbaa
open Go.RowKit
set_option linter.unusedVariables false
set_option maxRecDepth 100000

theorem cellsL_set {X : Type} {C : X → List Value} {c : Nat} (hC : ∀ x, (C x).length = c) (z : X) (l : List X) (k : Nat) (hk : k < l.length) (j : Nat) (hj : j < c) (u : Value) (y : X) (hy : C y = (C (l.getD k z)).set j u) : (cellsL C l).set (k * c + j) u = cellsL C (l.set k y) := by
  induction l generalizing k with
  | nil => simp at hk
  | cons x l ih =>
    cases k with
    | zero =>
      simp only [List.getD_cons_zero] at hy
      simp only [cellsL, List.flatMap_cons, Nat.zero_mul, Nat.zero_add, List.set_cons_zero]
      rw [hy, List.set_append_left _ _ (by rw [hC]; exact hj)]
    | succ k =>
      simp only [List.getD_cons_succ] at hy
      have h1 : (k + 1) * c + j = (C x).length + (k * c + j) := by rw [hC, Nat.succ_mul]; omega
      have := ih k (by simpa using hk) hy
      simp only [cellsL, List.flatMap_cons, List.set_cons_succ] at this ⊢
      rw [h1, List.set_append_right _ _ (by omega), Nat.add_sub_cancel_left, this]
/-- A store into cell j of element k. -/
theorem Own.store {X : Type} {C : X → List Value} {e : TypeId} {c : Nat} (hC : ∀ x, (C x).length = c) (z : X) {W : World} {B g n cap : Nat} {l : List X} (h : Own C e c W B (.slice (some ⟨g, 0, none⟩) n cap) l) (k : Nat) (hk : k < l.length) (j : Nat) (hj : j < c) (u : Value) (y : X) (hy : C y = (C (l.getD k z)).set j u) :
    Own C e c (W.setCell ⟨g, k * c + j, none⟩ u) B (.slice (some ⟨g, 0, none⟩) n cap) (l.set k y) := by
  have hn : n = l.length := by
    obtain ⟨a, cp, e', _⟩ := h.sl hC z
    simp only [Value.slice.injEq] at e'
    exact e'.2.1
  subst hn
  have q := World.ownsRow.stored h (k * c + j) u
  unfold Own
  rw [List.length_set, ← cellsL_set hC z l k hk j hj u y hy]; exact q.1
theorem Own.frz {X : Type} {C : X → List Value} {e : TypeId} {c : Nat} {W : World} {B g n cap : Nat} {l : List X} (h : Own C e c W B (.slice (some ⟨g, 0, none⟩) n cap) l) (j : Nat) : W.frozen? ⟨g, j, none⟩ = false := by
  rcases h.2 with ⟨e', _⟩ | ⟨g', cap', cur, e', _, hh, _⟩
  · cases e'
  · cases e'
    simp [World.frozen?, hh]
/-- A new row of nothing. -/
theorem Own.lit0 {X : Type} (C : X → List Value) (e : TypeId) (c : Nat) (W : World) (B : Nat) (hB : B ≤ W.heap.size) : Own C e c (W.alloc (.cells #[] e)) B (.slice (some ⟨W.heap.size, 0, none⟩) 0 0) [] :=
  ⟨by simp [cellsL], .inr ⟨W.heap.size, 0, #[], rfl, hB, heap_alloc_new W _, Nat.le_refl _, by unfold maxLen; omega, by simp, by simp [cellsL]⟩⟩
end Go.Proofs.Ytipbjoeekbgnbaa
