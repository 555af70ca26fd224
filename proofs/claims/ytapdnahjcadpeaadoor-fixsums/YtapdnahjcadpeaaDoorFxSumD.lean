/- FixSums: slices of what came in, rows by append, what is summed backwards. -/
import Derived.Test.YtapdnahjcadpeaaDoorInts
import Derived.Test.YtapdnahjcadpeaaDoorLive
import Derived.Deep.OwnRows
import Derived.Deep.RegionHeld3
import Derived.Deep.DeepMust
namespace Go.Proofs.YtapdnahjcadpeaaDoor
open Go.RowKit
set_option linter.unusedVariables false
set_option maxRecDepth 100000

theorem row_lit (W : World) (zs : List Int) (c : Array Value) (t : TypeId) (hc : c.toList = zs.map fun z => Value.int .i64 z) : IntRow (W.alloc (.cells c t)) (some ⟨W.heap.size, 0, none⟩) zs := by
  intro i hi
  refine ⟨W.heap.size, 0, rfl, ?_⟩
  have h := (W.rowIs_alloc c t (fun i => .int .i64 (zs.getD i 0)) (fun j hj => by
    have hj' : j < zs.length := by have := congrArg List.length hc; simp at this; omega
    rw [← Array.getElem?_toList, hc]; simp [List.getD_eq_getElem?_getD, List.getElem?_eq_getElem hj']))
  have hs : c.size = zs.length := by have := congrArg List.length hc; simpa using this
  have := h.cell (i := i) (by omega)
  rw [Nat.zero_add]; exact this
theorem append_step {ops : Array Oper} {o : Oper} {a : Act} {w : World} {K : Act → World → Prop} {Q : Exit → Act → World → Prop} (hw : Region.wanted o (yielded ops a.tmps) = true) (s x : Operand)
    (ho : o.op = .call { callee := .builtin .append, args := #[s, x], argTypes := #[22, 22] }) (hty : o.type = 22) (v u v' : Value) (w' : World) (hs : a.eval s = v) (hx : a.eval x = u)
    (hr : (Builtin.append_ #[22, 22] 22 #[v, u]).run Tryd.prog w = .ok v' w') (h : K (a.put o.dst v') w') :
    if Region.wanted o (yielded ops a.tmps) = true then Oper.wp Tryd.prog o a w K Q else K (a.put o.dst undef) w := by
  rw [if_pos hw]
  unfold Oper.wp execOp
  simp only [ho, hty, resolve, invoke, builtin, Sem.run_bind, Sem.run_pure, Result.andThen_ok, List.map_toArray, List.map_cons, List.map_nil, hs, hx, hr]
  exact h
theorem own_any {W : World} {B : Nat} {v : Value} {xs : List Int} (h : W.ownsRow B 3 1 v xs.length (intCells xs)) : ∃ a cap, v = .slice a xs.length cap ∧ IntRow W a xs := by
  by_cases h0 : xs.length = 0
  · rcases h.2 with ⟨rfl, h2⟩ | ⟨g, cap, cur, rfl, _⟩
    · exact ⟨none, 0, by rw [h0], fun i hi => by omega⟩
    · exact ⟨_, cap, rfl, fun i hi => by omega⟩
  · obtain ⟨g, cap, rfl, _, _, hr⟩ := own_slice h (by omega)
    exact ⟨_, cap, rfl, hr⟩
theorem owns_below {W W' : World} {B : Nat} {v : Value} {xs : List Int} (h : W.ownsRow B 3 1 v xs.length (intCells xs)) (k : Below W.heap.size W W') : W'.ownsRow B 3 1 v xs.length (intCells xs) := by
  refine ⟨h.1, ?_⟩
  rcases h.2 with h2 | ⟨g, cap, cur, e, hg, hb, h3⟩
  · exact Or.inl h2
  · refine Or.inr ⟨g, cap, cur, e, hg, ?_, h3⟩
    rw [k.block g (Array.getElem?_eq_some_iff.1 hb).1]; exact hb
theorem IntRow.take {w : World} {a : Option Addr} {zs : List Int} (h : IntRow w a zs) (k : Nat) : IntRow w a (zs.take k) := by
  intro i hi
  rw [List.length_take] at hi
  obtain ⟨b, off, rfl, hc⟩ := h i (by omega)
  refine ⟨b, off, rfl, ?_⟩
  rw [hc, List.getD_eq_getElem?_getD, List.getD_eq_getElem?_getD, List.getElem?_take_of_lt (by omega)]
theorem size_int (w : World) : (sizeOf (Tryd.prog.elem 22)).run Tryd.prog w = .ok 1 w := by kernel_rfl
/-- 'l[k:]', k below the length. -/
theorem slice_from (b off cap : Nat) (zs : List Int) (k : Nat) (w : World) (hz : IntRow w (some ⟨b, off, none⟩) zs) (h4 : k < zs.length) (hcap : zs.length ≤ cap) :
    (∀ W, (Instr.slice 22 (.slice (some ⟨b, off, none⟩) zs.length cap) (some (.int .i64 k)) none none).run Tryd.prog W = .ok (.slice (some ⟨b, off + k, none⟩) (zs.length - k) (cap - k)) W) ∧ IntRow w (some ⟨b, off + k, none⟩) (zs.drop k) := by
  refine ⟨fun W => ?_, ?_⟩
  · rw [run_slice_l W 22 _ zs.length cap (by kernel_rfl) .i64 k (by omega) (by omega), size_int]
    show Result.ok (sliced (some ⟨b, off, none⟩) k zs.length cap 1) W = _
    unfold sliced
    rw [if_neg (by omega)]
    simp only [Option.map_some, Nat.mul_one, addr_add]
  · intro i hi
    rw [List.length_drop] at hi
    obtain ⟨b', off', e, hc⟩ := hz (k + i) (by omega)
    cases e
    refine ⟨b, off + k, rfl, ?_⟩
    rw [show off + k + i = off + (k + i) by omega, hc, List.getD_eq_getElem?_getD, List.getD_eq_getElem?_getD, List.getElem?_drop]
theorem slice_upto (b off cap len : Nat) (k : Nat) (h4 : k ≤ len) (hcap : len ≤ cap) :
    ∀ W, (Instr.slice 22 (.slice (some ⟨b, off, none⟩) len cap) none (some (.int .i64 k)) none).run Tryd.prog W = .ok (.slice (some ⟨b, off, none⟩) k cap) W := fun W => by
  rw [run_slice_h W 22 _ len cap (by kernel_rfl) .i64 k (by omega) (by omega), size_int]
  show Result.ok (sliced (some ⟨b, off, none⟩) 0 k cap 1) W = _
  unfold sliced
  simp [Addr.add]
/-- 'append(append([]int(nil), x...), y...)' -/
theorem app_two (W : World) (a1 : Option Addr) (xs : List Int) (c1 : Nat) (n1 : a1 = none → c1 = 0) (r1 : IntRow W a1 xs) (a2 : Option Addr) (ys : List Int) (c2 : Nat) (n2 : a2 = none → c2 = 0) (r2 : IntRow W a2 ys) (hl : xs.length + ys.length ≤ 1000000) :
    ∃ v1 X1 a3 c3 X2, (Builtin.append_ #[22, 22] 22 #[.slice none 0 0, .slice a1 xs.length c1]).run Tryd.prog W = .ok v1 X1 ∧ (Builtin.append_ #[22, 22] 22 #[v1, .slice a2 ys.length c2]).run Tryd.prog X1 = .ok (.slice a3 (xs ++ ys).length c3) X2 ∧ IntRow X2 a3 (xs ++ ys) ∧ Below W.heap.size W X1 ∧ Below W.heap.size W X2 := by
  obtain ⟨v1, X1, h1, o1, b1⟩ := append_ints W W.heap.size (.slice none 0 0) [] (World.ownsRow_nil _ _ _ _) a1 xs c1 n1 r1 (by simp; omega) (Nat.le_refl _)
  rw [List.nil_append] at o1
  obtain ⟨v2, X2, h2, o2, b2⟩ := append_ints X1 W.heap.size v1 xs o1 a2 ys c2 n2 (r2.stays b1 (Nat.le_refl _)) hl b1.size
  obtain ⟨a3, c3, rfl, r3⟩ := own_any o2
  exact ⟨v1, X1, a3, c3, X2, h1, h2, r3, b1, b1.trans b2⟩
/-- What is appended backwards. -/
def backL (zs : List Int) (j : Nat) : List Int := ((zs.drop j).reverse).flatMap fun z => [z, 0]
theorem backL_step (zs : List Int) (j : Nat) (h : j < zs.length) : backL zs j = backL zs (j + 1) ++ [zs.getD j 0, 0] := by
  unfold backL
  rw [List.drop_eq_getElem_cons h, List.reverse_cons, List.flatMap_append]
  simp [List.getD_eq_getElem?_getD, List.getElem?_eq_getElem h]
theorem backL_len (zs : List Int) (j : Nat) : (backL zs j).length ≤ 2 * zs.length := by
  unfold backL
  have : ∀ l : List Int, (l.flatMap fun z => [z, 0]).length = 2 * l.length := fun l => by
    induction l with
    | nil => rfl
    | cons z l ih => simp [List.flatMap_cons] at *; omega
  rw [this]; simp; omega
theorem sumL_rev (l : List Int) : sumL l.reverse = sumL l := by
  induction l with
  | nil => rfl
  | cons z l ih => rw [List.reverse_cons, sumL_append, ih]; simp [sumL]; omega
theorem backL_sum (zs : List Int) : sumL (backL zs 0) = sumL zs := by
  unfold backL
  rw [List.drop_zero]
  have : ∀ l : List Int, sumL (l.flatMap fun z => [z, 0]) = sumL l := fun l => by
    induction l with
    | nil => rfl
    | cons z l ih => rw [List.flatMap_cons, sumL_append, ih]; simp [sumL]
  rw [this, sumL_rev]
theorem backL_fits (zs : List Int) (h : Fits zs) (j : Nat) : Fits (backL zs j) := by
  intro x hx
  unfold backL at hx
  rw [List.mem_flatMap] at hx
  obtain ⟨z, hz, hx⟩ := hx
  simp at hx
  rcases hx with rfl | rfl
  · exact h _ (List.mem_of_mem_drop (List.mem_reverse.1 hz))
  · omega
theorem fits_take {zs : List Int} (h : Fits zs) (k : Nat) : Fits (zs.take k) := fun x hx => h x (List.mem_of_mem_take hx)
theorem fits_drop {zs : List Int} (h : Fits zs) (k : Nat) : Fits (zs.drop k) := fun x hx => h x (List.mem_of_mem_drop hx)
theorem fits_app {xs ys : List Int} (h : Fits xs) (k : Fits ys) : Fits (xs ++ ys) := fun x hx => by
  rcases List.mem_append.1 hx with hx | hx
  · exact h x hx
  · exact k x hx
/-- Three Accs of the law's own. -/
structure Three (w W : World) (A B C : Nat) (oa ob oc : Bool) : Prop where
  a : Live w A W oa
  b : Live w B W ob
  c : Live w C W oc
  ne : A ≠ B ∧ A ≠ C ∧ B ≠ C
theorem Three.stays {w W W' : World} {A B C : Nat} {oa ob oc : Bool} (h : Three w W A B C oa ob oc) (k : Below W.heap.size W W') : Three w W' A B C oa ob oc := ⟨h.a.stays k, h.b.stays k, h.c.stays k, h.ne⟩
theorem Three.first {w W W' : World} {A B C : Nat} {oa ob oc o : Bool} (h : Three w W A B C oa ob oc) (l : Live w A W' o) (k : Kept A W W') : Three w W' A B C o ob oc := ⟨l, h.b.kept k (fun e => h.ne.1 e.symm) h.a.new, h.c.kept k (fun e => h.ne.2.1 e.symm) h.a.new, h.ne⟩
theorem Three.second {w W W' : World} {A B C : Nat} {oa ob oc o : Bool} (h : Three w W A B C oa ob oc) (l : Live w B W' o) (k : Kept B W W') : Three w W' A B C oa o oc := ⟨h.a.kept k h.ne.1 h.b.new, l, h.c.kept k (fun e => h.ne.2.2 e.symm) h.b.new, h.ne⟩
theorem Three.third {w W W' : World} {A B C : Nat} {oa ob oc o : Bool} (h : Three w W A B C oa ob oc) (l : Live w C W' o) (k : Kept C W W') : Three w W' A B C oa ob o := ⟨h.a.kept k h.ne.2.1 h.c.new, h.b.kept k h.ne.2.2 h.c.new, l, h.ne⟩
end Go.Proofs.YtapdnahjcadpeaaDoor
