/- RingPieces: two rings and two counters that the law made; slices of what came in; append. -/
import Derived.Test.YtgdijnmanhglnaaRingI
import Derived.OwnWalk
import Derived.Deep.DeepMust
namespace Go.Proofs.Ytgdijnmanhglnaa
open Go.RowKit
set_option linter.unusedVariables false
set_option maxRecDepth 100000

structure Pieces (w W : World) (b g b2 g2 c c2 n : Nat) (most : Int) (xs ys : List Int) (u v : Int) : Prop where
  r1 : RingIs W b g n xs
  r2 : RingIs W b2 g2 n ys
  k1 : CountAt W c most u
  k2 : CountAt W c2 most v
  bel : Below w.heap.size w W
  new : w.heap.size ≤ b ∧ w.heap.size ≤ g ∧ w.heap.size ≤ b2 ∧ w.heap.size ≤ g2 ∧ w.heap.size ≤ c ∧ w.heap.size ≤ c2
  ap : (b ≠ b2 ∧ b ≠ g2 ∧ g ≠ b2 ∧ g ≠ g2) ∧ (c ≠ b ∧ c ≠ g ∧ c ≠ b2 ∧ c ≠ g2) ∧ (c2 ≠ b ∧ c2 ≠ g ∧ c2 ≠ b2 ∧ c2 ≠ g2) ∧ c ≠ c2
section
variable {w W W' : World} {b g b2 g2 c c2 n : Nat} {most : Int} {xs ys zs : List Int} {u v z : Int}
theorem Pieces.set1 (h : Pieces w W b g b2 g2 c c2 n most xs ys u v) (k : Mod [b, g] W W') (r : RingIs W' b g n zs) : Pieces w W' b g b2 g2 c c2 n most zs ys u v :=
  ⟨r, h.r2.mod k (by have := h.ap; simp; omega) (by have := h.ap; simp; omega), h.k1.mod k (by have := h.ap; simp; omega), h.k2.mod k (by have := h.ap; simp; omega), k.below h.bel (by have := h.new; simp; omega), h.new, h.ap⟩
theorem Pieces.set2 (h : Pieces w W b g b2 g2 c c2 n most xs ys u v) (k : Mod [b2, g2] W W') (r : RingIs W' b2 g2 n zs) : Pieces w W' b g b2 g2 c c2 n most xs zs u v :=
  ⟨h.r1.mod k (by have := h.ap; simp; omega) (by have := h.ap; simp; omega), r, h.k1.mod k (by have := h.ap; simp; omega), h.k2.mod k (by have := h.ap; simp; omega), k.below h.bel (by have := h.new; simp; omega), h.new, h.ap⟩
theorem Pieces.set3 (h : Pieces w W b g b2 g2 c c2 n most xs ys u v) (k : Mod [c] W W') (r : CountAt W' c most z) : Pieces w W' b g b2 g2 c c2 n most xs ys z v :=
  ⟨h.r1.mod k (by have := h.ap; simp; omega) (by have := h.ap; simp; omega), h.r2.mod k (by have := h.ap; simp; omega) (by have := h.ap; simp; omega), r, h.k2.mod k (by have := h.ap; simp; omega), k.below h.bel (by have := h.new; simp; omega), h.new, h.ap⟩
theorem Pieces.set4 (h : Pieces w W b g b2 g2 c c2 n most xs ys u v) (k : Mod [c2] W W') (r : CountAt W' c2 most z) : Pieces w W' b g b2 g2 c c2 n most xs ys u z :=
  ⟨h.r1.mod k (by have := h.ap; simp; omega) (by have := h.ap; simp; omega), h.r2.mod k (by have := h.ap; simp; omega) (by have := h.ap; simp; omega), h.k1.mod k (by have := h.ap; simp; omega), r, k.below h.bel (by have := h.new; simp; omega), h.new, h.ap⟩
theorem Pieces.stays (h : Pieces w W b g b2 g2 c c2 n most xs ys u v) (k : Below W.heap.size W W') : Pieces w W' b g b2 g2 c c2 n most xs ys u v :=
  ⟨h.r1.below k, h.r2.below k, h.k1.below k, h.k2.below k, h.bel.trans (k.mono h.bel.size), h.new, h.ap⟩
end
theorem size_int (w : World) : (sizeOf (Try.prog.elem 32)).run Try.prog w = .ok 1 w := by kernel_rfl
/-- 'l[k:]', wherever it begins. -/
theorem slice_lo (a : Option Addr) (cap : Nat) (zs : List Int) (k : Nat) (w : World) (hz : IntRow w a zs) (ha : a = none → cap = 0) (h4 : k ≤ zs.length) (hcap : zs.length ≤ cap) :
    ∃ a2 c2, (∀ W, (Instr.slice 32 (.slice a zs.length cap) (some (.int .i64 k)) none none).run Try.prog W = .ok (.slice a2 (zs.length - k) c2) W) ∧ IntRow w a2 (zs.drop k) ∧ True ∧ (a2 = none → c2 = 0) := by
  refine ⟨if cap = k then a else a.map (·.add (k * 1)), cap - k, fun W => ?_, ?_, trivial, ?_⟩
  · rw [run_slice_l W 32 a zs.length cap (by kernel_rfl) .i64 k (by omega) (by omega), size_int]
    rfl
  · by_cases e : cap = k
    · rw [List.drop_of_length_le (by omega)]; exact fun i hi => by simp at hi
    · rw [if_neg e]
      intro i hi
      rw [List.length_drop] at hi
      obtain ⟨b, off, rfl, hc⟩ := hz (k + i) (by omega)
      refine ⟨b, off + k, by simp [addr_add], ?_⟩
      rw [show off + k + i = off + (k + i) by omega, hc, List.getD_eq_getElem?_getD, List.getD_eq_getElem?_getD, List.getElem?_drop]
  · intro h
    by_cases e : cap = k
    · omega
    · rw [if_neg e] at h
      cases a with
      | none => have := ha rfl; omega
      | some x => simp at h
theorem slice_hi (a : Option Addr) (cap : Nat) (zs : List Int) (k : Nat) (h4 : k ≤ zs.length) (hcap : zs.length ≤ cap) :
    ∀ W, (Instr.slice 32 (.slice a zs.length cap) none (some (.int .i64 k)) none).run Try.prog W = .ok (.slice a k cap) W := fun W => by
  rw [run_slice_h W 32 a zs.length cap (by kernel_rfl) .i64 k (by omega) (by omega), size_int]
  show Result.ok (sliced a 0 k cap 1) W = _
  unfold sliced
  rw [show a.map (·.add (0 * 1)) = a by cases a <;> simp [Addr.add]]
  simp
/-- Ints as cells. -/
def intCells (l : List Int) : List Value := l.map fun z => Value.int .i64 z
theorem infoInt : (Try.prog.info? 3).map (fun i => (i.zero, i.size, i.bytes)) = some (some (.int .i64 0), 1, 8) := by kernel_rfl
/-- 'append(v, l...)', v a row of the law's own, l any slice of ints. -/
theorem append_ints (W : World) (B : Nat) (v : Value) (xs : List Int) (hown : W.ownsRow B 3 1 v xs.length (intCells xs)) (a : Option Addr) (zs : List Int) (cap : Nat) (ha : a = none → cap = 0) (hz : IntRow W a zs) (hn : xs.length + zs.length ≤ 1000000) (hB : B ≤ W.heap.size) :
    ∃ v' w', (Builtin.append_ #[32, 32] 32 #[v, .slice a zs.length cap]).run Try.prog W = .ok v' w' ∧ w'.ownsRow B 3 1 v' (xs ++ zs).length (intCells (xs ++ zs)) ∧ Below B W w' := by
  obtain ⟨i0, hi, hz0, hz1, hz2⟩ := info_parts infoInt
  cases a with
  | none =>
    have h0 : zs = [] := by
      cases zs with
      | nil => rfl
      | cons z zs => obtain ⟨b, off, e, _⟩ := hz 0 (by simp); cases e
    subst h0
    obtain rfl := ha rfl
    refine ⟨v, W, run_append_owned_none (P := Try.prog) (w := W) B 32 32 3 i0 1 Try.underlying32 hi v xs.length _ hown, by simpa using hown, Below.refl _ _⟩
  | some ad =>
    have hsp : ∀ j, j < zs.length → W.cell? (ad.add j) = some (.int .i64 (zs.getD j 0)) := by
      intro j hj
      obtain ⟨b, off, e, hc⟩ := hz j hj
      cases e
      rw [addr_add]; exact hc
    obtain ⟨v', w', h1, h2, h3, _⟩ := run_append_own (P := Try.prog) W B 32 32 3 i0 (.int .i64 0) 1 8 Try.underlying32 hi hz0 hz1 hz2 rfl (by decide) v xs.length _ hown ad zs.length cap (intCells zs) (by simp [intCells])
      (fun j u hj => by
        have hj' : j < zs.length := by have := (List.getElem?_eq_some_iff.1 hj).1; simpa [intCells] using this
        rw [hsp j hj']
        simp only [intCells, List.getElem?_map, List.getElem?_eq_getElem hj', Option.map_some] at hj
        rw [← hj, List.getD_eq_getElem?_getD, List.getElem?_eq_getElem hj']; rfl)
      (fun u hu => by simp only [intCells, List.mem_map] at hu; obtain ⟨z, _, rfl⟩ := hu; rfl)
      (by unfold maxLen; omega) (by omega) hB
    refine ⟨v', w', h1, ?_, (Below.refl B W).grown h3 hB (fun k hk => (hown.lt k hk).1)⟩
    simpa [intCells] using h2
/-- A row of the law's own as a slice that can be read. -/
theorem own_slice {W : World} {B : Nat} {v : Value} {xs : List Int} (h : W.ownsRow B 3 1 v xs.length (intCells xs)) (h0 : 0 < xs.length) :
    ∃ g cap, v = .slice (some ⟨g, 0, none⟩) xs.length cap ∧ B ≤ g ∧ g < W.heap.size ∧ IntRow W (some ⟨g, 0, none⟩) xs := by
  have hc := fun g hg => h.cells (g := g) hg
  have hlt := h.lt
  rcases h.2 with ⟨_, h2⟩ | ⟨g, cap, cur, rfl, hg, _⟩
  · omega
  · refine ⟨g, cap, rfl, hg, (hlt g rfl).2, fun i hi => ⟨g, 0, rfl, ?_⟩⟩
    have := hc g rfl i (.int .i64 (xs.getD i 0)) (by simp [intCells, List.getD_eq_getElem?_getD, hi])
    rw [addr_add] at this; exact this
/-- A new row of one number. -/
theorem own_one (W : World) (B : Nat) (x : Int) (hB : B ≤ W.heap.size) : (W.alloc (.cells #[.int .i64 x] 3)).ownsRow B 3 1 (.slice (some ⟨W.heap.size, 0, none⟩) 1 1) [x].length (intCells [x]) :=
  World.ownsRow_lit W #[.int .i64 x] 1 hB (by unfold maxLen; omega) (by simp)
/-- An append whose run is known, guarded or not. -/
theorem append_run {ops : Array Oper} {rest : List Oper} {o : Oper} {a : Act} {w : World} {Q : Exit → Act → World → Prop} (hw : Region.wanted o (yielded ops a.tmps) = true) (s x : Operand)
    (ho : o.op = .call { callee := .builtin .append, args := #[s, x], argTypes := #[32, 32] }) (hty : o.type = 32) (v u v' : Value) (w' : World) (hs : a.eval s = v) (hx : a.eval x = u)
    (hr : (Builtin.append_ #[32, 32] 32 #[v, u]).run Try.prog w = .ok v' w') (h : wpList Try.prog ops Q rest (a.put o.dst v') w') : wpList Try.prog ops Q (o :: rest) a w :=
  wpList_step fun K hK => by
    rw [if_pos hw]
    unfold Oper.wp execOp
    simp only [ho, hty, resolve, invoke, builtin, Sem.run_bind, Sem.run_pure, Result.andThen_ok, List.map_toArray, List.map_cons, List.map_nil, hs, hx, hr]
    exact hK _ _ h
/-- 'append([]int{0}, l...)' -/
theorem app_zero (W : World) (a : Option Addr) (zs : List Int) (cap : Nat) (ha : a = none → cap = 0) (hz : IntRow W a zs) (hl : zs.length ≤ 1000) :
    ∃ g' cap' w', (Builtin.append_ #[32, 32] 32 #[.slice (some ⟨W.heap.size, 0, none⟩) 1 1, .slice a zs.length cap]).run Try.prog (W.alloc (.cells #[.int .i64 0] 3)) = .ok (.slice (some ⟨g', 0, none⟩) (zs.length + 1) cap') w' ∧ W.heap.size ≤ g' ∧ IntRow w' (some ⟨g', 0, none⟩) (0 :: zs) ∧ Below W.heap.size W w' := by
  have hal := (Below.refl W.heap.size W).alloc (Nat.le_refl _) (.cells #[.int .i64 0] 3)
  obtain ⟨v', w', h1, h2, h3⟩ := append_ints (W.alloc (.cells #[.int .i64 0] 3)) W.heap.size _ [0] (own_one W W.heap.size 0 (Nat.le_refl _)) a zs cap ha (hz.below hal) (by simp; omega) (by simp)
  obtain ⟨g', cap', rfl, hg, _, hr⟩ := own_slice h2 (by simp)
  have el : (([0] : List Int) ++ zs).length = zs.length + 1 := by simp
  rw [el] at h1
  exact ⟨g', cap', w', h1, hg, hr, hal.trans h3⟩
theorem upL_zero {most now : Int} (h : now ≤ most) (zs : List Int) : upL most now (upsOf (0 :: zs)) = upL most now zs := by
  unfold upsOf
  rw [if_neg (by simp)]
  show upL most (upS most now 0) zs = _
  rw [show upS most now 0 = now by unfold upS; omega]
theorem up_app {W : World} {c : Nat} {most now : Int} (h : CountAt W c most now) (g' cap' : Nat) (zs : List Int) (hz : IntRow W (some ⟨g', 0, none⟩) (0 :: zs)) (hg : g' ≠ c) (hl : zs.length ≤ 1000) :
    Calls Try.prog 27 #[.pointer (some ⟨c, 0, none⟩), .slice (some ⟨g', 0, none⟩) (zs.length + 1) cap'] W fun e w' => e = .returned (.int .i64 (upL most now zs)) ∧ CountAt w' c most (upL most now zs) ∧ Mod [c] W w' := by
  have t := up_any h (some ⟨g', 0, none⟩) (0 :: zs) cap' hz (fun _ => off_new _ _ (by simpa using hg)) (by simp; omega)
  rw [upL_zero h.hi, List.length_cons] at t
  exact t
end Go.Proofs.Ytgdijnmanhglnaa
