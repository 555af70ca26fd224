/- Appends of the law's own rows; the document's own ring. -/
import Derived.Test.YtgdijnmanhglnaaRingO
import Derived.Test.YtgdijnmanhglnaaRgPiecesD
import Derived.Deep.RegionHeld3
namespace Go.Proofs.Ytgdijnmanhglnaa
open Go.RowKit
set_option linter.unusedVariables false
set_option maxRecDepth 100000

/-- An append inside a region that draws, its run known. -/
theorem append_step {ops : Array Oper} {o : Oper} {a : Act} {w : World} {K : Act → World → Prop} {Q : Exit → Act → World → Prop} (hw : Region.wanted o (yielded ops a.tmps) = true) (s x : Operand)
    (ho : o.op = .call { callee := .builtin .append, args := #[s, x], argTypes := #[32, 32] }) (hty : o.type = 32) (v u v' : Value) (w' : World) (hs : a.eval s = v) (hx : a.eval x = u)
    (hr : (Builtin.append_ #[32, 32] 32 #[v, u]).run Try.prog w = .ok v' w') (h : K (a.put o.dst v') w') :
    if Region.wanted o (yielded ops a.tmps) = true then Oper.wp Try.prog o a w K Q else K (a.put o.dst undef) w := by
  rw [if_pos hw]
  unfold Oper.wp execOp
  simp only [ho, hty, resolve, invoke, builtin, Sem.run_bind, Sem.run_pure, Result.andThen_ok, List.map_toArray, List.map_cons, List.map_nil, hs, hx, hr]
  exact h
theorem own_all {W : World} {B : Nat} {v : Value} {xs : List Int} (h : W.ownsRow B 3 1 v xs.length (intCells xs)) (h0 : 0 < xs.length) :
    ∃ g cap, v = .slice (some ⟨g, 0, none⟩) xs.length cap ∧ B ≤ g ∧ g < W.heap.size ∧ IntRow W (some ⟨g, 0, none⟩) xs ∧ xs.length ≤ cap ∧ ∀ i, W.frozen? ⟨g, i, none⟩ = false := by
  obtain ⟨g, cap, rfl, hg, hlt, hr⟩ := own_slice h h0
  rcases h.2 with ⟨e, _⟩ | ⟨g', cap', cur, e, _, hb, hc, _⟩
  · cases e
  · cases e
    refine ⟨g, cap, rfl, hg, hlt, hr, hc, fun i => ?_⟩
    simp [World.frozen?, hb]
theorem owns_below {W W' : World} {B : Nat} {v : Value} {xs : List Int} (h : W.ownsRow B 3 1 v xs.length (intCells xs)) (k : Below W.heap.size W W') : W'.ownsRow B 3 1 v xs.length (intCells xs) := by
  refine ⟨h.1, ?_⟩
  rcases h.2 with h2 | ⟨g, cap, cur, e, hg, hb, h3⟩
  · exact Or.inl h2
  · refine Or.inr ⟨g, cap, cur, e, hg, ?_, h3⟩
    rw [k.block g (Array.getElem?_eq_some_iff.1 hb).1]; exact hb
/-- 'append([]int(nil), l...)' -/
theorem app_nil (W : World) (B : Nat) (a : Option Addr) (zs : List Int) (cap : Nat) (ha : a = none → cap = 0) (hz : IntRow W a zs) (hl : zs.length ≤ 1000000) (hB : B ≤ W.heap.size) :
    ∃ v1 W1, (Builtin.append_ #[32, 32] 32 #[.slice none 0 0, .slice a zs.length cap]).run Try.prog W = .ok v1 W1 ∧ W1.ownsRow B 3 1 v1 zs.length (intCells zs) ∧ Below B W W1 := by
  have h := append_ints W B (.slice none 0 0) [] (World.ownsRow_nil _ _ _ _) a zs cap ha hz (by simpa using hl) hB
  simpa using h
/-- 'append(v, x)' -/
theorem app_last (W : World) (B : Nat) (v : Value) (xs : List Int) (x : Int) (q : Nat) (ho : W.ownsRow B 3 1 v xs.length (intCells xs)) (hq : IntRow W (some ⟨q, 0, none⟩) [x]) (hl : xs.length + 1 ≤ 1000000) (hB : B ≤ W.heap.size) :
    ∃ g cap W3, (Builtin.append_ #[32, 32] 32 #[v, .slice (some ⟨q, 0, none⟩) 1 1]).run Try.prog W = .ok (.slice (some ⟨g, 0, none⟩) (xs.length + 1) cap) W3 ∧ B ≤ g ∧ IntRow W3 (some ⟨g, 0, none⟩) (xs ++ [x]) ∧ Below B W W3 ∧ xs.length + 1 ≤ cap ∧ ∀ i, W3.frozen? ⟨g, i, none⟩ = false := by
  obtain ⟨v3, W3, h1, h2, h3⟩ := append_ints W B v xs ho (some ⟨q, 0, none⟩) [x] 1 (fun h => by cases h) hq (by simpa using hl) hB
  obtain ⟨g, cap, rfl, hg, _, hr, hc, hf⟩ := own_all h2 (by simp)
  have el : (xs ++ [x]).length = xs.length + 1 := by simp
  rw [el] at h1 hc
  exact ⟨g, cap, W3, h1, hg, hr, h3, hc, hf⟩
/-- 'l[k:]', wherever it begins. -/
theorem slice_from (a : Option Addr) (cap : Nat) (zs : List Int) (k : Nat) (w : World) (hz : IntRow w a zs) (ha : a = none → cap = 0) (h4 : k ≤ zs.length) (hcap : zs.length ≤ cap) :
    ∃ a2 c2, (∀ W, (Instr.slice 32 (.slice a zs.length cap) (some (.int .i64 k)) none none).run Try.prog W = .ok (.slice a2 (zs.length - k) c2) W) ∧ IntRow w a2 (zs.drop k) ∧ (∀ S, Off a S → Off a2 S) ∧ (a2 = none → c2 = 0) ∧ zs.length - k ≤ c2 := by
  refine ⟨if cap = k then a else a.map (·.add (k * 1)), cap - k, fun W => ?_, ?_, ?_, ?_, by omega⟩
  · rw [run_slice_l W 32 a zs.length cap (by kernel_rfl) .i64 k (by omega) (by omega), size_int]
    rfl
  · by_cases e : cap = k
    · rw [List.drop_of_length_le (by omega)]; exact fun i hi => by simp at hi
    · rw [if_neg e]
      intro i hi
      rw [List.length_drop] at hi
      obtain ⟨b, off, rfl, hc⟩ := hz (k + i) (by omega)
      refine ⟨b, off + k, by simp [addr_add], ?_⟩
      rw [show off + k + i = off + (k + i) by omega, hc, List.getD_eq_getElem?_getD, List.getD_eq_getElem?_getD, List.getElem?_drop]
  · intro S hS
    by_cases e : cap = k
    · rw [if_pos e]; exact hS
    · rw [if_neg e]
      intro x hx
      cases a with
      | none => simp at hx
      | some y =>
        simp only [Option.map_some, Option.some.injEq] at hx
        subst hx
        have := hS y rfl
        unfold Addr.add
        split
        · exact this
        · exact this
  · intro h
    by_cases e : cap = k
    · omega
    · rw [if_neg e] at h
      cases a with
      | none => have := ha rfl; omega
      | some x => simp at h
/-- The document's ring in memory: its numbers, the last one last; its list lies in none of the blocks of S. -/
structure RefRAt (W : World) (r n : Nat) (L : List Int) (S : List Nat) (a : Option Addr) (cap : Nat) : Prop where
  c0 : W.cell? ⟨r, 0, none⟩ = some (.int .i64 n)
  c1 : W.cell? ⟨r, 1, none⟩ = some (.slice a L.length cap)
  f : ∀ i, W.frozen? ⟨r, i, none⟩ = false
  row : IntRow W a L
  nil : a = none → cap = 0
  off : 0 < L.length → Off a S
  fit : L.length ≤ cap
  rS : r ∈ S
def RefR (W : World) (r n : Nat) (L : List Int) (S : List Nat) : Prop := ∃ a cap, RefRAt W r n L S a cap
theorem RefRAt.lt {W : World} {r n : Nat} {L : List Int} {S : List Nat} {a : Option Addr} {cap : Nat} (h : RefRAt W r n L S a cap) : r < W.heap.size := World.block_lt_of_cell? W _ h.c0
theorem RefR.lt {W : World} {r n : Nat} {L : List Int} {S : List Nat} (h : RefR W r n L S) : r < W.heap.size := by obtain ⟨a, cap, h⟩ := h; exact h.lt
theorem RefRAt.row_mod {W W' : World} {r n : Nat} {L : List Int} {S T : List Nat} {a : Option Addr} {cap : Nat} (h : RefRAt W r n L S a cap) (k : Mod T W W') (hT : ∀ i ∈ T, i ∈ S) : IntRow W' a L := by
  intro i hi
  exact h.row.mod k (fun x hx hm => h.off (by omega) x hx (hT _ hm)) i hi
theorem RefR.mod {W W' : World} {r n : Nat} {L : List Int} {S T : List Nat} (h : RefR W r n L S) (k : Mod T W W') (hT : ∀ i ∈ T, i ∈ S) (hr : r ∉ T) : RefR W' r n L S := by
  obtain ⟨a, cap, h⟩ := h
  exact ⟨a, cap, k.cell h.c0 hr, k.cell h.c1 hr, fun i => (k.frozen h.lt hr).trans (h.f i), h.row_mod k hT, h.nil, h.off, h.fit, h.rS⟩
theorem RefR.below {W W' : World} {r n : Nat} {L : List Int} {S : List Nat} (h : RefR W r n L S) (k : Below W.heap.size W W') : RefR W' r n L S := h.mod (T := []) (Mod.of_below k) (by simp) (by simp)
/-- A store of another list. -/
theorem RefRAt.put {W X : World} {r n : Nat} {L L' : List Int} {S : List Nat} {a a' : Option Addr} {cap cap' : Nat} (h : RefRAt W r n L S a cap) (k : Below W.heap.size W X) (hr : IntRow X a' L') (hn : a' = none → cap' = 0) (ho : 0 < L'.length → Off a' S) (hf : L'.length ≤ cap') :
    RefRAt (X.setCell ⟨r, 1, none⟩ (.slice a' L'.length cap')) r n L' S a' cap' := by
  have m : Mod [] W X := Mod.of_below k
  have fz : ∀ i, X.frozen? ⟨r, i, none⟩ = false := fun i => (m.frozen h.lt (by simp)).trans (h.f i)
  refine ⟨by rw [cell_oo _ _ _ _ _ _ (by omega)]; exact m.cell h.c0 (by simp), World.cell?_setCell_same _ _ _ (m.cell h.c1 (by simp)), fun i => by simp [fz], ?_, hn, ho, hf, h.rS⟩
  intro i hi
  exact hr.mod (S := [r]) ((Mod.refl _ _).setCell _ _ _ (by simp)) (fun x hx hm => ho (by omega) x hx (by have := List.mem_singleton.1 hm; rw [this]; exact h.rS)) i hi
theorem RefRAt.drew {W : World} {r n : Nat} {L : List Int} {S : List Nat} {a : Option Addr} {cap : Nat} (h : RefRAt W r n L S a cap) : RefRAt W.drew r n L S a cap :=
  ⟨h.c0, h.c1, h.f, h.row_mod (T := []) (Mod.refl _ W).drew (by simp), h.nil, h.off, h.fit, h.rS⟩
/-- One number is pushed to a list whose last one is the last. -/
theorem pushR (n : Nat) (xs : List Int) (x : Int) (h : xs.length ≤ n) : (if n < (xs.reverse ++ [x]).length then (xs.reverse ++ [x]).drop 1 else xs.reverse ++ [x]) = ((x :: xs).take n).reverse := by
  have e : xs.reverse ++ [x] = (x :: xs).reverse := by simp
  rw [e]
  by_cases hc : n < (x :: xs).reverse.length
  · rw [if_pos hc]
    have hn : n = xs.length := by simp at hc; omega
    rw [List.drop_reverse, hn]
    simp
  · rw [if_neg hc, List.take_of_length_le (by simp at hc ⊢; omega)]
/-- The region of 'r.L = append(append([]int(nil), r.L...), l[i])', in whatever order. -/
@[reducible] def pushOps : Array Oper := #[{ dst := some 11, op := Op.move (Operand.tmp 0), type := 31, pos := "ring.go:18", after := #[], guard := none }, { dst := some 12, op := Op.move (Operand.tmp 0), type := 31, pos := "ring.go:18", after := #[], guard := none }, { dst := some 13, op := Op.nilCheck (Operand.tmp 12), type := 0, pos := "ring.go:18", after := #[{ on := 1, ground := Ground.data }], guard := none }, { dst := some 14, op := Op.fieldAddr 34 (Operand.tmp 13) 1, type := 0, pos := "ring.go:18", after := #[{ on := 2, ground := Ground.data }], guard := none }, { dst := some 15, op := Op.load 32 (Operand.tmp 14), type := 32, pos := "ring.go:18", after := #[{ on := 3, ground := Ground.data }], guard := none }, { dst := some 16, op := Op.call { callee := Callee.builtin Builtin.append, args := #[Operand.const (Value.slice none 0 0), Operand.tmp 15], argTypes := #[32, 32] }, type := 32, pos := "ring.go:18", after := #[{ on := 4, ground := Ground.data }], guard := none }, { dst := some 17, op := Op.move (Operand.tmp 1), type := 32, pos := "ring.go:18", after := #[], guard := none }, { dst := some 18, op := Op.move (Operand.tmp 4), type := 3, pos := "ring.go:18", after := #[], guard := none }, { dst := some 19, op := Op.indexAddr 32 (Operand.tmp 17) (Operand.tmp 18), type := 0, pos := "ring.go:18", after := #[{ on := 6, ground := Ground.data }, { on := 7, ground := Ground.data }], guard := none }, { dst := some 20, op := Op.load 3 (Operand.tmp 19), type := 3, pos := "ring.go:18", after := #[{ on := 8, ground := Ground.data }], guard := none }, { dst := some 21, op := Op.buildSlice 32 1 #[(0, Operand.tmp 20)], type := 32, pos := "ring.go:18", after := #[{ on := 9, ground := Ground.data }], guard := none }, { dst := some 22, op := Op.call { callee := Callee.builtin Builtin.append, args := #[Operand.tmp 16, Operand.tmp 21], argTypes := #[32, 32] }, type := 32, pos := "ring.go:18", after := #[{ on := 5, ground := Ground.data }, { on := 10, ground := Ground.data }, { on := 5, ground := Ground.chain }], guard := none }, { dst := some 23, op := Op.nilCheck (Operand.tmp 11), type := 0, pos := "ring.go:18", after := #[{ on := 0, ground := Ground.data }, { on := 0, ground := Ground.phase }, { on := 1, ground := Ground.phase }, { on := 2, ground := Ground.phase }, { on := 3, ground := Ground.phase }, { on := 4, ground := Ground.phase }, { on := 5, ground := Ground.phase }, { on := 6, ground := Ground.phase }, { on := 7, ground := Ground.phase }, { on := 8, ground := Ground.phase }, { on := 9, ground := Ground.phase }, { on := 10, ground := Ground.phase }, { on := 11, ground := Ground.phase }], guard := none }, { dst := some 24, op := Op.fieldAddr 34 (Operand.tmp 23) 1, type := 0, pos := "ring.go:18", after := #[{ on := 12, ground := Ground.data }, { on := 0, ground := Ground.phase }, { on := 1, ground := Ground.phase }, { on := 2, ground := Ground.phase }, { on := 3, ground := Ground.phase }, { on := 4, ground := Ground.phase }, { on := 5, ground := Ground.phase }, { on := 6, ground := Ground.phase }, { on := 7, ground := Ground.phase }, { on := 8, ground := Ground.phase }, { on := 9, ground := Ground.phase }, { on := 10, ground := Ground.phase }, { on := 11, ground := Ground.phase }], guard := none }, { dst := none, op := Op.store 32 (Operand.tmp 24) (Operand.tmp 22), type := 0, pos := "ring.go:18", after := #[{ on := 13, ground := Ground.data }, { on := 11, ground := Ground.data }, { on := 11, ground := Ground.chain }, { on := 0, ground := Ground.phase }, { on := 1, ground := Ground.phase }, { on := 2, ground := Ground.phase }, { on := 3, ground := Ground.phase }, { on := 4, ground := Ground.phase }, { on := 5, ground := Ground.phase }, { on := 6, ground := Ground.phase }, { on := 7, ground := Ground.phase }, { on := 8, ground := Ground.phase }, { on := 9, ground := Ground.phase }, { on := 10, ground := Ground.phase }, { on := 11, ground := Ground.phase }], guard := none }]
set_option maxHeartbeats 16000000 in
theorem push_tail (W : World) (r n k m c' b' off : Nat) (x : Int) (L : List Int) (S : List Nat) (a : Option Addr) (cap : Nat) (t2 t3 t5 t6 t7 t8 t9 t10 t11 t12 t13 t14 t15 t16 t17 t18 t19 t20 t21 t22 t23 t24 t25 t26 t27 t28 t29 t30 t31 t32 t33 t34 t35 t36 t37 t38 t39 t40 t41 t42 : Value) (Q : Exit → Act → World → Prop) (hR : RefRAt W r n L S a cap) (hx : W.cell? ⟨b', off + k, none⟩ = some (.int .i64 x)) (hbr : b' ≠ r) (hkm : k < m) (hm : m ≤ 1000000) (hl : L.length ≤ 900000)
    (hp : ∀ c a (dd : Option Tmp) vv w, Q (.panic c) (a.put dd vv) w → Q (.panic c) a w)
    (hfin : ∀ (X : World) (g3 cap3 : Nat) (hB : Below W.heap.size W X) (hrow : IntRow X (some ⟨g3, 0, none⟩) (L ++ [x])) (hg : W.heap.size ≤ g3) (hc : L.length + 1 ≤ cap3) (v1 vq : Value), Q .normal { tmps := #[Value.pointer (some ⟨r, 0, none⟩), Value.slice (some ⟨b', off, none⟩) m c', t2, t3, Value.int .i64 k, t5, t6, t7, t8, t9, t10, Value.pointer (some ⟨r, 0, none⟩), Value.pointer (some ⟨r, 0, none⟩), Value.pointer (some ⟨r, 0, none⟩), Value.pointer (some ⟨r, 1, none⟩), Value.slice a L.length cap, v1, Value.slice (some ⟨b', off, none⟩) m c', Value.int .i64 k, Value.pointer (some ⟨b', off + k, none⟩), Value.int .i64 x, vq, Value.slice (some ⟨g3, 0, none⟩) (L.length + 1) cap3, Value.pointer (some ⟨r, 0, none⟩), Value.pointer (some ⟨r, 1, none⟩), t25, t26, t27, t28, t29, t30, t31, t32, t33, t34, t35, t36, t37, t38, t39, t40, t41, t42], defers := [] } (X.setCell ⟨r, 1, none⟩ (.slice (some ⟨g3, 0, none⟩) (L.length + 1) cap3))) :
    Code.wp Try.prog (Code.region 3 pushOps true) Q { tmps := #[Value.pointer (some ⟨r, 0, none⟩), Value.slice (some ⟨b', off, none⟩) m c', t2, t3, Value.int .i64 k, t5, t6, t7, t8, t9, t10, t11, t12, t13, t14, t15, t16, t17, t18, t19, t20, t21, t22, t23, t24, t25, t26, t27, t28, t29, t30, t31, t32, t33, t34, t35, t36, t37, t38, t39, t40, t41, t42], defers := [] } W := by
  obtain ⟨W0, hW0⟩ : ∃ Z, W.drew = Z := ⟨_, rfl⟩
  have hsz : W0.heap.size = W.heap.size := by rw [← hW0]; rfl
  have D0 : Below W.heap.size W W0 := by rw [← hW0]; exact (Below.refl _ _).drew
  have hN := hR.nil
  have hC1 : ∀ X, Below W0.heap.size W0 X → X.cell? ⟨r, 1, none⟩ = some (.slice a L.length cap) := fun X h => (Mod.of_below (S := []) h).cell ((Mod.of_below (S := []) D0).cell hR.c1 (by simp)) (by simp)
  have hF : ∀ X, Below W0.heap.size W0 X → X.frozen? ⟨r, 1, none⟩ = false := fun X h => ((Mod.of_below (S := []) h).frozen (by rw [hsz]; exact hR.lt) (by simp)).trans (((Mod.of_below (S := []) D0).frozen hR.lt (by simp)).trans (hR.f 1))
  have hRow : ∀ X, Below W0.heap.size W0 X → IntRow X a L := fun X h => (hR.row.below D0).below h
  have hSel : ∀ X, Below W0.heap.size W0 X → X.cell? ⟨b', off + k, none⟩ = some (.int .i64 x) := fun X h => (Mod.of_below (S := []) h).cell ((Mod.of_below (S := []) D0).cell hx (by simp)) (by simp)
  have hSt : ∀ X v, Below W0.heap.size W0 X → (X.setCell ⟨r, 1, none⟩ v).cell? ⟨b', off + k, none⟩ = some (.int .i64 x) := fun X v h => by rw [cell_ob _ _ _ _ _ _ hbr]; exact hSel X h
  have hfin : ∀ (X : World) (g3 cap3 : Nat) (hB : Below W0.heap.size W0 X) (hrow : IntRow X (some ⟨g3, 0, none⟩) (L ++ [x])) (hg : W0.heap.size ≤ g3) (hc : L.length + 1 ≤ cap3) (v1 vq : Value), Q .normal { tmps := #[Value.pointer (some ⟨r, 0, none⟩), Value.slice (some ⟨b', off, none⟩) m c', t2, t3, Value.int .i64 k, t5, t6, t7, t8, t9, t10, Value.pointer (some ⟨r, 0, none⟩), Value.pointer (some ⟨r, 0, none⟩), Value.pointer (some ⟨r, 0, none⟩), Value.pointer (some ⟨r, 1, none⟩), Value.slice a L.length cap, v1, Value.slice (some ⟨b', off, none⟩) m c', Value.int .i64 k, Value.pointer (some ⟨b', off + k, none⟩), Value.int .i64 x, vq, Value.slice (some ⟨g3, 0, none⟩) (L.length + 1) cap3, Value.pointer (some ⟨r, 0, none⟩), Value.pointer (some ⟨r, 1, none⟩), t25, t26, t27, t28, t29, t30, t31, t32, t33, t34, t35, t36, t37, t38, t39, t40, t41, t42], defers := [] } (X.setCell ⟨r, 1, none⟩ (.slice (some ⟨g3, 0, none⟩) (L.length + 1) cap3)) := fun X g3 cap3 h1 h2 h3 h4 v1 vq => hfin X g3 cap3 (D0.trans (by rw [hsz] at h1; exact h1)) h2 (by omega) h4 v1 vq
  have B0 : Below W0.heap.size W0 W0 := Below.refl _ _
  refine wp_region_held_drew (S := fun X : World => X.cell? ⟨b', off + k, none⟩ = some (.int .i64 x)) (by kernel_rfl) (by rw [hW0]; exact hSel _ B0) (fun hHeld => ?_)
  rw [hW0] at hHeld ⊢
  clear hW0 hR hx D0 hsz
  refine wpAnyH_take (i := 0) (oi := { dst := some 11, op := Op.move (Operand.tmp 0), type := 31, pos := "ring.go:18", after := #[], guard := none }) (v := ?_) rfl (by kernel_rfl) (by kernel_rfl) (by kernel_rfl) (fun c a w h => hp c _ _ _ w h) (Or.inl ⟨by rfl, ?_⟩) hHeld ?_
  rotate_left
  · (intro w hSw; (try dsimp only at hSw); go_simp; all_goals (try with_reducible rfl))
  try simp only [Act.put, List.setIfInBounds_toArray, List.set_cons_zero, List.set_cons_succ]
  refine wpAnyH_take (i := 1) (oi := { dst := some 12, op := Op.move (Operand.tmp 0), type := 31, pos := "ring.go:18", after := #[], guard := none }) (v := ?_) rfl (by kernel_rfl) (by kernel_rfl) (by kernel_rfl) (fun c a w h => hp c _ _ _ w h) (Or.inl ⟨by rfl, ?_⟩) hHeld ?_
  rotate_left
  · (intro w hSw; (try dsimp only at hSw); go_simp; all_goals (try with_reducible rfl))
  try simp only [Act.put, List.setIfInBounds_toArray, List.set_cons_zero, List.set_cons_succ]
  refine wpAnyH_take (i := 2) (oi := { dst := some 13, op := Op.nilCheck (Operand.tmp 12), type := 0, pos := "ring.go:18", after := #[{ on := 1, ground := Ground.data }], guard := none }) (v := ?_) rfl (by kernel_rfl) (by kernel_rfl) (by kernel_rfl) (fun c a w h => hp c _ _ _ w h) (Or.inl ⟨by rfl, ?_⟩) hHeld ?_
  rotate_left
  · (intro w hSw; (try dsimp only at hSw); go_simp; all_goals (try with_reducible rfl))
  try simp only [Act.put, List.setIfInBounds_toArray, List.set_cons_zero, List.set_cons_succ]
  refine wpAnyH_take (i := 3) (oi := { dst := some 14, op := Op.fieldAddr 34 (Operand.tmp 13) 1, type := 0, pos := "ring.go:18", after := #[{ on := 2, ground := Ground.data }], guard := none }) (v := ?_) rfl (by kernel_rfl) (by kernel_rfl) (by kernel_rfl) (fun c a w h => hp c _ _ _ w h) (Or.inl ⟨by rfl, ?_⟩) hHeld ?_
  rotate_left
  · (intro w hSw; (try dsimp only at hSw); go_simp; all_goals (try with_reducible rfl))
  try simp only [Act.put, List.setIfInBounds_toArray, List.set_cons_zero, List.set_cons_succ]
  refine wpAnyH_take (i := 6) (oi := { dst := some 17, op := Op.move (Operand.tmp 1), type := 32, pos := "ring.go:18", after := #[], guard := none }) (v := ?_) rfl (by kernel_rfl) (by kernel_rfl) (by kernel_rfl) (fun c a w h => hp c _ _ _ w h) (Or.inl ⟨by rfl, ?_⟩) hHeld ?_
  rotate_left
  · (intro w hSw; (try dsimp only at hSw); go_simp; all_goals (try with_reducible rfl))
  try simp only [Act.put, List.setIfInBounds_toArray, List.set_cons_zero, List.set_cons_succ]
  refine wpAnyH_take (i := 7) (oi := { dst := some 18, op := Op.move (Operand.tmp 4), type := 3, pos := "ring.go:18", after := #[], guard := none }) (v := ?_) rfl (by kernel_rfl) (by kernel_rfl) (by kernel_rfl) (fun c a w h => hp c _ _ _ w h) (Or.inl ⟨by rfl, ?_⟩) hHeld ?_
  rotate_left
  · (intro w hSw; (try dsimp only at hSw); go_simp; all_goals (try with_reducible rfl))
  try simp only [Act.put, List.setIfInBounds_toArray, List.set_cons_zero, List.set_cons_succ]
  refine wpAnyH_take (i := 8) (oi := { dst := some 19, op := Op.indexAddr 32 (Operand.tmp 17) (Operand.tmp 18), type := 0, pos := "ring.go:18", after := #[{ on := 6, ground := Ground.data }, { on := 7, ground := Ground.data }], guard := none }) (v := ?_) rfl (by kernel_rfl) (by kernel_rfl) (by kernel_rfl) (fun c a w h => hp c _ _ _ w h) (Or.inl ⟨by rfl, ?_⟩) hHeld ?_
  rotate_left
  · (intro w hSw; (try dsimp only at hSw); go_simp; all_goals (try with_reducible rfl))
  try simp only [Act.put, List.setIfInBounds_toArray, List.set_cons_zero, List.set_cons_succ]
  refine wpAnyH_take (i := 9) (oi := { dst := some 20, op := Op.load 3 (Operand.tmp 19), type := 3, pos := "ring.go:18", after := #[{ on := 8, ground := Ground.data }], guard := none }) (v := ?_) rfl (by kernel_rfl) (by kernel_rfl) (by kernel_rfl) (fun c a w h => hp c _ _ _ w h) (Or.inl ⟨by rfl, ?_⟩) hHeld ?_
  rotate_left
  · (intro w hSw; (try dsimp only at hSw); go_simp; all_goals (try with_reducible rfl))
  try simp only [Act.put, List.setIfInBounds_toArray, List.set_cons_zero, List.set_cons_succ]
  refine wpAnyH_ready (rs := [4, 10]) (by kernel_rfl) (by simp) ?_
  refine AllReadyH.cons (o := { dst := some 15, op := Op.load 32 (Operand.tmp 14), type := 32, pos := "ring.go:18", after := #[{ on := 3, ground := Ground.data }], guard := none }) rfl (fun K hK => ?_) ?_
  · have h4 := hC1 _ B0
    go_simp
    refine hK.out _ _ (hSel _ B0) (fun hHeld => ?_)
    clear hK K
    try simp only [Act.put, List.setIfInBounds_toArray, List.set_cons_zero, List.set_cons_succ]
    refine wpAnyH_ready (rs := [5, 10]) (by kernel_rfl) (by simp) ?_
    refine AllReadyH.cons (o := { dst := some 16, op := Op.call { callee := Callee.builtin Builtin.append, args := #[Operand.const (Value.slice none 0 0), Operand.tmp 15], argTypes := #[32, 32] }, type := 32, pos := "ring.go:18", after := #[{ on := 4, ground := Ground.data }], guard := none }) rfl (fun K hK => ?_) ?_
    · obtain ⟨v1, X1, hr1, ho1, hb1⟩ := app_nil W0 W0.heap.size a L cap hN (hRow _ B0) (by omega) (Nat.le_refl _)
      refine append_step (by rfl) _ _ (by rfl) (by rfl) _ _ _ _ (by rfl) (by rfl) hr1 ?_
      have B1 := B0.trans (hb1.mono B0.size)
      clear hr1
      refine hK.out _ _ (hSel _ B1) (fun hHeld => ?_)
      clear hK K
      try simp only [Act.put, List.setIfInBounds_toArray, List.set_cons_zero, List.set_cons_succ]
      refine wpAnyH_ready (rs := [10]) (by kernel_rfl) (by simp) ?_
      refine AllReadyH.cons (o := { dst := some 21, op := Op.buildSlice 32 1 #[(0, Operand.tmp 20)], type := 32, pos := "ring.go:18", after := #[{ on := 9, ground := Ground.data }], guard := none }) rfl (fun K hK => ?_) AllReadyH.nil
      go_simp
      obtain ⟨X2, hX⟩ : ∃ Z, X1.alloc (.cells #[.int .i64 x] 3) = Z := ⟨_, rfl⟩
      rw [hX]
      have hbx : Below X1.heap.size X1 X2 := by rw [← hX]; exact (Below.refl _ _).alloc (Nat.le_refl _) _
      have R2 : IntRow X2 (some ⟨X1.heap.size, 0, none⟩) [x] := by rw [← hX]; exact row_lit _ [x] _ _ rfl
      have B2 := B1.trans (hbx.mono B1.size)
      have ho2 := owns_below ho1 hbx
      clear hX
      refine hK.out _ _ (hSel _ B2) (fun hHeld => ?_)
      clear hK K
      try simp only [Act.put, List.setIfInBounds_toArray, List.set_cons_zero, List.set_cons_succ]
      refine wpAnyH_ready (rs := [11]) (by kernel_rfl) (by simp) ?_
      refine AllReadyH.cons (o := { dst := some 22, op := Op.call { callee := Callee.builtin Builtin.append, args := #[Operand.tmp 16, Operand.tmp 21], argTypes := #[32, 32] }, type := 32, pos := "ring.go:18", after := #[{ on := 5, ground := Ground.data }, { on := 10, ground := Ground.data }, { on := 5, ground := Ground.chain }], guard := none }) rfl (fun K hK => ?_) AllReadyH.nil
      have z1 := hb1.size
      have z2 := hbx.size
      have z3 := B2.size
      obtain ⟨g3, cap3, X3, hr3, hg3, hrow3, hb3, hc3, _⟩ := app_last X2 _ v1 L x _ ho2 R2 (by omega) (by omega)
      refine append_step (by rfl) _ _ (by rfl) (by rfl) _ _ _ _ (by rfl) (by rfl) hr3 ?_
      have hg4 : W0.heap.size ≤ g3 := by have := B1.size; omega
      have B3 : Below W0.heap.size W0 X3 := B2.trans (hb3.mono (by have := B1.size; omega))
      clear hr3
      refine hK.out _ _ (hSel _ B3) (fun hHeld => ?_)
      clear hK K
      try simp only [Act.put, List.setIfInBounds_toArray, List.set_cons_zero, List.set_cons_succ]
      refine wpAnyH_take (i := 12) (oi := { dst := some 23, op := Op.nilCheck (Operand.tmp 11), type := 0, pos := "ring.go:18", after := #[{ on := 0, ground := Ground.data }, { on := 0, ground := Ground.phase }, { on := 1, ground := Ground.phase }, { on := 2, ground := Ground.phase }, { on := 3, ground := Ground.phase }, { on := 4, ground := Ground.phase }, { on := 5, ground := Ground.phase }, { on := 6, ground := Ground.phase }, { on := 7, ground := Ground.phase }, { on := 8, ground := Ground.phase }, { on := 9, ground := Ground.phase }, { on := 10, ground := Ground.phase }, { on := 11, ground := Ground.phase }], guard := none }) (v := ?_) rfl (by kernel_rfl) (by kernel_rfl) (by kernel_rfl) (fun c a w h => hp c _ _ _ w h) (Or.inl ⟨by rfl, ?_⟩) hHeld ?_
      rotate_left
      · (intro w hSw; (try dsimp only at hSw); go_simp; all_goals (try with_reducible rfl))
      try simp only [Act.put, List.setIfInBounds_toArray, List.set_cons_zero, List.set_cons_succ]
      refine wpAnyH_take (i := 13) (oi := { dst := some 24, op := Op.fieldAddr 34 (Operand.tmp 23) 1, type := 0, pos := "ring.go:18", after := #[{ on := 12, ground := Ground.data }, { on := 0, ground := Ground.phase }, { on := 1, ground := Ground.phase }, { on := 2, ground := Ground.phase }, { on := 3, ground := Ground.phase }, { on := 4, ground := Ground.phase }, { on := 5, ground := Ground.phase }, { on := 6, ground := Ground.phase }, { on := 7, ground := Ground.phase }, { on := 8, ground := Ground.phase }, { on := 9, ground := Ground.phase }, { on := 10, ground := Ground.phase }, { on := 11, ground := Ground.phase }], guard := none }) (v := ?_) rfl (by kernel_rfl) (by kernel_rfl) (by kernel_rfl) (fun c a w h => hp c _ _ _ w h) (Or.inl ⟨by rfl, ?_⟩) hHeld ?_
      rotate_left
      · (intro w hSw; (try dsimp only at hSw); go_simp; all_goals (try with_reducible rfl))
      try simp only [Act.put, List.setIfInBounds_toArray, List.set_cons_zero, List.set_cons_succ]
      refine wpAnyH_ready (rs := [14]) (by kernel_rfl) (by simp) ?_
      refine AllReadyH.cons (o := { dst := none, op := Op.store 32 (Operand.tmp 24) (Operand.tmp 22), type := 0, pos := "ring.go:18", after := #[{ on := 13, ground := Ground.data }, { on := 11, ground := Ground.data }, { on := 11, ground := Ground.chain }, { on := 0, ground := Ground.phase }, { on := 1, ground := Ground.phase }, { on := 2, ground := Ground.phase }, { on := 3, ground := Ground.phase }, { on := 4, ground := Ground.phase }, { on := 5, ground := Ground.phase }, { on := 6, ground := Ground.phase }, { on := 7, ground := Ground.phase }, { on := 8, ground := Ground.phase }, { on := 9, ground := Ground.phase }, { on := 10, ground := Ground.phase }, { on := 11, ground := Ground.phase }], guard := none }) rfl (fun K hK => ?_) AllReadyH.nil
      have h5 := hC1 _ B3
      have hfz := hF _ B3
      go_simp
      refine hK.out _ _ (hSt _ _ B3) (fun hHeld => ?_)
      clear hK K
      try simp only [Act.put, List.setIfInBounds_toArray, List.set_cons_zero, List.set_cons_succ]
      refine wpAnyH_done (by kernel_rfl) ?_ _
      exact hfin _ g3 cap3 B3 hrow3 hg4 hc3 v1 _
    refine AllReadyH.cons (o := { dst := some 21, op := Op.buildSlice 32 1 #[(0, Operand.tmp 20)], type := 32, pos := "ring.go:18", after := #[{ on := 9, ground := Ground.data }], guard := none }) rfl (fun K hK => ?_) AllReadyH.nil
    go_simp
    obtain ⟨X1, hX⟩ : ∃ Z, W0.alloc (.cells #[.int .i64 x] 3) = Z := ⟨_, rfl⟩
    rw [hX]
    have hbx : Below W0.heap.size W0 X1 := by rw [← hX]; exact (Below.refl _ _).alloc (Nat.le_refl _) _
    have R1 : IntRow X1 (some ⟨W0.heap.size, 0, none⟩) [x] := by rw [← hX]; exact row_lit _ [x] _ _ rfl
    have B1 := B0.trans (hbx.mono B0.size)
    clear hX
    refine hK.out _ _ (hSel _ B1) (fun hHeld => ?_)
    clear hK K
    try simp only [Act.put, List.setIfInBounds_toArray, List.set_cons_zero, List.set_cons_succ]
    refine wpAnyH_ready (rs := [5]) (by kernel_rfl) (by simp) ?_
    refine AllReadyH.cons (o := { dst := some 16, op := Op.call { callee := Callee.builtin Builtin.append, args := #[Operand.const (Value.slice none 0 0), Operand.tmp 15], argTypes := #[32, 32] }, type := 32, pos := "ring.go:18", after := #[{ on := 4, ground := Ground.data }], guard := none }) rfl (fun K hK => ?_) AllReadyH.nil
    obtain ⟨v1, X2, hr1, ho1, hb1⟩ := app_nil X1 X1.heap.size a L cap hN (hRow _ B1) (by omega) (Nat.le_refl _)
    refine append_step (by rfl) _ _ (by rfl) (by rfl) _ _ _ _ (by rfl) (by rfl) hr1 ?_
    have B2 := B1.trans (hb1.mono B1.size)
    have R2 := R1.below hb1
    clear hr1
    refine hK.out _ _ (hSel _ B2) (fun hHeld => ?_)
    clear hK K
    try simp only [Act.put, List.setIfInBounds_toArray, List.set_cons_zero, List.set_cons_succ]
    refine wpAnyH_ready (rs := [11]) (by kernel_rfl) (by simp) ?_
    refine AllReadyH.cons (o := { dst := some 22, op := Op.call { callee := Callee.builtin Builtin.append, args := #[Operand.tmp 16, Operand.tmp 21], argTypes := #[32, 32] }, type := 32, pos := "ring.go:18", after := #[{ on := 5, ground := Ground.data }, { on := 10, ground := Ground.data }, { on := 5, ground := Ground.chain }], guard := none }) rfl (fun K hK => ?_) AllReadyH.nil
    have z1 := hb1.size
    have z2 := hbx.size
    have z3 := B2.size
    obtain ⟨g3, cap3, X3, hr3, hg3, hrow3, hb3, hc3, _⟩ := app_last X2 _ v1 L x _ ho1 R2 (by omega) (by omega)
    refine append_step (by rfl) _ _ (by rfl) (by rfl) _ _ _ _ (by rfl) (by rfl) hr3 ?_
    have hg4 : W0.heap.size ≤ g3 := by have := B1.size; omega
    have B3 : Below W0.heap.size W0 X3 := B2.trans (hb3.mono (by have := B1.size; omega))
    clear hr3
    refine hK.out _ _ (hSel _ B3) (fun hHeld => ?_)
    clear hK K
    try simp only [Act.put, List.setIfInBounds_toArray, List.set_cons_zero, List.set_cons_succ]
    refine wpAnyH_take (i := 12) (oi := { dst := some 23, op := Op.nilCheck (Operand.tmp 11), type := 0, pos := "ring.go:18", after := #[{ on := 0, ground := Ground.data }, { on := 0, ground := Ground.phase }, { on := 1, ground := Ground.phase }, { on := 2, ground := Ground.phase }, { on := 3, ground := Ground.phase }, { on := 4, ground := Ground.phase }, { on := 5, ground := Ground.phase }, { on := 6, ground := Ground.phase }, { on := 7, ground := Ground.phase }, { on := 8, ground := Ground.phase }, { on := 9, ground := Ground.phase }, { on := 10, ground := Ground.phase }, { on := 11, ground := Ground.phase }], guard := none }) (v := ?_) rfl (by kernel_rfl) (by kernel_rfl) (by kernel_rfl) (fun c a w h => hp c _ _ _ w h) (Or.inl ⟨by rfl, ?_⟩) hHeld ?_
    rotate_left
    · (intro w hSw; (try dsimp only at hSw); go_simp; all_goals (try with_reducible rfl))
    try simp only [Act.put, List.setIfInBounds_toArray, List.set_cons_zero, List.set_cons_succ]
    refine wpAnyH_take (i := 13) (oi := { dst := some 24, op := Op.fieldAddr 34 (Operand.tmp 23) 1, type := 0, pos := "ring.go:18", after := #[{ on := 12, ground := Ground.data }, { on := 0, ground := Ground.phase }, { on := 1, ground := Ground.phase }, { on := 2, ground := Ground.phase }, { on := 3, ground := Ground.phase }, { on := 4, ground := Ground.phase }, { on := 5, ground := Ground.phase }, { on := 6, ground := Ground.phase }, { on := 7, ground := Ground.phase }, { on := 8, ground := Ground.phase }, { on := 9, ground := Ground.phase }, { on := 10, ground := Ground.phase }, { on := 11, ground := Ground.phase }], guard := none }) (v := ?_) rfl (by kernel_rfl) (by kernel_rfl) (by kernel_rfl) (fun c a w h => hp c _ _ _ w h) (Or.inl ⟨by rfl, ?_⟩) hHeld ?_
    rotate_left
    · (intro w hSw; (try dsimp only at hSw); go_simp; all_goals (try with_reducible rfl))
    try simp only [Act.put, List.setIfInBounds_toArray, List.set_cons_zero, List.set_cons_succ]
    refine wpAnyH_ready (rs := [14]) (by kernel_rfl) (by simp) ?_
    refine AllReadyH.cons (o := { dst := none, op := Op.store 32 (Operand.tmp 24) (Operand.tmp 22), type := 0, pos := "ring.go:18", after := #[{ on := 13, ground := Ground.data }, { on := 11, ground := Ground.data }, { on := 11, ground := Ground.chain }, { on := 0, ground := Ground.phase }, { on := 1, ground := Ground.phase }, { on := 2, ground := Ground.phase }, { on := 3, ground := Ground.phase }, { on := 4, ground := Ground.phase }, { on := 5, ground := Ground.phase }, { on := 6, ground := Ground.phase }, { on := 7, ground := Ground.phase }, { on := 8, ground := Ground.phase }, { on := 9, ground := Ground.phase }, { on := 10, ground := Ground.phase }, { on := 11, ground := Ground.phase }], guard := none }) rfl (fun K hK => ?_) AllReadyH.nil
    have h5 := hC1 _ B3
    have hfz := hF _ B3
    go_simp
    refine hK.out _ _ (hSt _ _ B3) (fun hHeld => ?_)
    clear hK K
    try simp only [Act.put, List.setIfInBounds_toArray, List.set_cons_zero, List.set_cons_succ]
    refine wpAnyH_done (by kernel_rfl) ?_ _
    exact hfin _ g3 cap3 B3 hrow3 hg4 hc3 v1 _
  refine AllReadyH.cons (o := { dst := some 21, op := Op.buildSlice 32 1 #[(0, Operand.tmp 20)], type := 32, pos := "ring.go:18", after := #[{ on := 9, ground := Ground.data }], guard := none }) rfl (fun K hK => ?_) AllReadyH.nil
  go_simp
  obtain ⟨X1, hX⟩ : ∃ Z, W0.alloc (.cells #[.int .i64 x] 3) = Z := ⟨_, rfl⟩
  rw [hX]
  have hbx : Below W0.heap.size W0 X1 := by rw [← hX]; exact (Below.refl _ _).alloc (Nat.le_refl _) _
  have R1 : IntRow X1 (some ⟨W0.heap.size, 0, none⟩) [x] := by rw [← hX]; exact row_lit _ [x] _ _ rfl
  have B1 := B0.trans (hbx.mono B0.size)
  clear hX
  refine hK.out _ _ (hSel _ B1) (fun hHeld => ?_)
  clear hK K
  try simp only [Act.put, List.setIfInBounds_toArray, List.set_cons_zero, List.set_cons_succ]
  refine wpAnyH_ready (rs := [4]) (by kernel_rfl) (by simp) ?_
  refine AllReadyH.cons (o := { dst := some 15, op := Op.load 32 (Operand.tmp 14), type := 32, pos := "ring.go:18", after := #[{ on := 3, ground := Ground.data }], guard := none }) rfl (fun K hK => ?_) AllReadyH.nil
  have h4 := hC1 _ B1
  go_simp
  refine hK.out _ _ (hSel _ B1) (fun hHeld => ?_)
  clear hK K
  try simp only [Act.put, List.setIfInBounds_toArray, List.set_cons_zero, List.set_cons_succ]
  refine wpAnyH_ready (rs := [5]) (by kernel_rfl) (by simp) ?_
  refine AllReadyH.cons (o := { dst := some 16, op := Op.call { callee := Callee.builtin Builtin.append, args := #[Operand.const (Value.slice none 0 0), Operand.tmp 15], argTypes := #[32, 32] }, type := 32, pos := "ring.go:18", after := #[{ on := 4, ground := Ground.data }], guard := none }) rfl (fun K hK => ?_) AllReadyH.nil
  obtain ⟨v1, X2, hr1, ho1, hb1⟩ := app_nil X1 X1.heap.size a L cap hN (hRow _ B1) (by omega) (Nat.le_refl _)
  refine append_step (by rfl) _ _ (by rfl) (by rfl) _ _ _ _ (by rfl) (by rfl) hr1 ?_
  have B2 := B1.trans (hb1.mono B1.size)
  have R2 := R1.below hb1
  clear hr1
  refine hK.out _ _ (hSel _ B2) (fun hHeld => ?_)
  clear hK K
  try simp only [Act.put, List.setIfInBounds_toArray, List.set_cons_zero, List.set_cons_succ]
  refine wpAnyH_ready (rs := [11]) (by kernel_rfl) (by simp) ?_
  refine AllReadyH.cons (o := { dst := some 22, op := Op.call { callee := Callee.builtin Builtin.append, args := #[Operand.tmp 16, Operand.tmp 21], argTypes := #[32, 32] }, type := 32, pos := "ring.go:18", after := #[{ on := 5, ground := Ground.data }, { on := 10, ground := Ground.data }, { on := 5, ground := Ground.chain }], guard := none }) rfl (fun K hK => ?_) AllReadyH.nil
  have z1 := hb1.size
  have z2 := hbx.size
  have z3 := B2.size
  obtain ⟨g3, cap3, X3, hr3, hg3, hrow3, hb3, hc3, _⟩ := app_last X2 _ v1 L x _ ho1 R2 (by omega) (by omega)
  refine append_step (by rfl) _ _ (by rfl) (by rfl) _ _ _ _ (by rfl) (by rfl) hr3 ?_
  have hg4 : W0.heap.size ≤ g3 := by have := B1.size; omega
  have B3 : Below W0.heap.size W0 X3 := B2.trans (hb3.mono (by have := B1.size; omega))
  clear hr3
  refine hK.out _ _ (hSel _ B3) (fun hHeld => ?_)
  clear hK K
  try simp only [Act.put, List.setIfInBounds_toArray, List.set_cons_zero, List.set_cons_succ]
  refine wpAnyH_take (i := 12) (oi := { dst := some 23, op := Op.nilCheck (Operand.tmp 11), type := 0, pos := "ring.go:18", after := #[{ on := 0, ground := Ground.data }, { on := 0, ground := Ground.phase }, { on := 1, ground := Ground.phase }, { on := 2, ground := Ground.phase }, { on := 3, ground := Ground.phase }, { on := 4, ground := Ground.phase }, { on := 5, ground := Ground.phase }, { on := 6, ground := Ground.phase }, { on := 7, ground := Ground.phase }, { on := 8, ground := Ground.phase }, { on := 9, ground := Ground.phase }, { on := 10, ground := Ground.phase }, { on := 11, ground := Ground.phase }], guard := none }) (v := ?_) rfl (by kernel_rfl) (by kernel_rfl) (by kernel_rfl) (fun c a w h => hp c _ _ _ w h) (Or.inl ⟨by rfl, ?_⟩) hHeld ?_
  rotate_left
  · (intro w hSw; (try dsimp only at hSw); go_simp; all_goals (try with_reducible rfl))
  try simp only [Act.put, List.setIfInBounds_toArray, List.set_cons_zero, List.set_cons_succ]
  refine wpAnyH_take (i := 13) (oi := { dst := some 24, op := Op.fieldAddr 34 (Operand.tmp 23) 1, type := 0, pos := "ring.go:18", after := #[{ on := 12, ground := Ground.data }, { on := 0, ground := Ground.phase }, { on := 1, ground := Ground.phase }, { on := 2, ground := Ground.phase }, { on := 3, ground := Ground.phase }, { on := 4, ground := Ground.phase }, { on := 5, ground := Ground.phase }, { on := 6, ground := Ground.phase }, { on := 7, ground := Ground.phase }, { on := 8, ground := Ground.phase }, { on := 9, ground := Ground.phase }, { on := 10, ground := Ground.phase }, { on := 11, ground := Ground.phase }], guard := none }) (v := ?_) rfl (by kernel_rfl) (by kernel_rfl) (by kernel_rfl) (fun c a w h => hp c _ _ _ w h) (Or.inl ⟨by rfl, ?_⟩) hHeld ?_
  rotate_left
  · (intro w hSw; (try dsimp only at hSw); go_simp; all_goals (try with_reducible rfl))
  try simp only [Act.put, List.setIfInBounds_toArray, List.set_cons_zero, List.set_cons_succ]
  refine wpAnyH_ready (rs := [14]) (by kernel_rfl) (by simp) ?_
  refine AllReadyH.cons (o := { dst := none, op := Op.store 32 (Operand.tmp 24) (Operand.tmp 22), type := 0, pos := "ring.go:18", after := #[{ on := 13, ground := Ground.data }, { on := 11, ground := Ground.data }, { on := 11, ground := Ground.chain }, { on := 0, ground := Ground.phase }, { on := 1, ground := Ground.phase }, { on := 2, ground := Ground.phase }, { on := 3, ground := Ground.phase }, { on := 4, ground := Ground.phase }, { on := 5, ground := Ground.phase }, { on := 6, ground := Ground.phase }, { on := 7, ground := Ground.phase }, { on := 8, ground := Ground.phase }, { on := 9, ground := Ground.phase }, { on := 10, ground := Ground.phase }, { on := 11, ground := Ground.phase }], guard := none }) rfl (fun K hK => ?_) AllReadyH.nil
  have h5 := hC1 _ B3
  have hfz := hF _ B3
  go_simp
  refine hK.out _ _ (hSt _ _ B3) (fun hHeld => ?_)
  clear hK K
  try simp only [Act.put, List.setIfInBounds_toArray, List.set_cons_zero, List.set_cons_succ]
  refine wpAnyH_done (by kernel_rfl) ?_ _
  exact hfin _ g3 cap3 B3 hrow3 hg4 hc3 v1 _
end Go.Proofs.Ytgdijnmanhglnaa
