/- The contracts of core's is, isNever, yes, no and of tree's Make. Conditions: at most 2^39 nodes in all, each of at most 2^40 terms. -/
import Derived.Test.YtcpehjndpookiaaBz4
namespace Go.Proofs.Ytcpehjndpookiaa
open Go.RowKit
set_option linter.unusedVariables false
set_option maxRecDepth 100000

def isB (l : List Nd) (op : Int) : Bool := match l with | [] => false | x :: _ => x.op == op
set_option maxHeartbeats 1000000 in
theorem is_any (a : Option Addr) (cap : Nat) (l : List Nd) (op : Int) (W : World) (h : NodeRow W a l) :
    Calls Try.prog 62 #[.slice a l.length cap, .int .i64 op] W fun e W' => e = .returned (.bool (isB l op)) ∧ W' = W := by
  cases l with
  | nil =>
    clear h
    go_enter Try.func62, Try.ntmps62
    go_wp2
    go_ret
    exact ⟨rfl, rfl⟩
  | cons x l =>
    obtain ⟨b, off, rfl, n0, _⟩ := h 0 (by simp)
    simp only [Nat.zero_mul, Nat.add_zero, List.getD_cons_zero] at n0
    have HE : Hid (isB (x :: l) op = (x.op == op)) := rfl
    have hpos : (((l.length + 1 : Nat) : Int) > 0) := by omega
    have e : (x :: l).length = l.length + 1 := rfl
    rw [e]
    clear h e
    generalize l.length + 1 = n at *
    generalize x.op = xo at *
    have hp0 : 0 < n := by omega
    go_enter Try.func62, Try.ntmps62
    go_wp2
    go_ret
    exact ⟨ret_bool HE.out.symm, rfl⟩
def neverB (fr to : Int) : Bool := to != -1 && decide (to < fr)
set_option maxHeartbeats 1000000 in
theorem never_any (fr to : Int) (W : World) : Calls Try.prog 45 #[.int .i64 fr, .int .i64 to] W fun e W' => e = .returned (.bool (neverB fr to)) ∧ W' = W := by
  by_cases h : to = -1
  · subst h
    go_enter Try.func45, Try.ntmps45
    go_wp2
    go_ret
    exact ⟨rfl, rfl⟩
  · have k1 : (to == -1) = false := by simpa using h
    have k2 : (to != -1) = true := by simpa using h
    have HE : Hid (neverB fr to = decide (to < fr)) := by simp [Hid, neverB, k2]
    clear h
    go_enter Try.func45, Try.ntmps45
    go_wp2
    go_ret
    exact ⟨ret_bool HE.out.symm, rfl⟩
/-- A new row of one element. -/
theorem Own.lit1 {X : Type} (C : X → List Value) (e : TypeId) (c : Nat) (hC : ∀ x, (C x).length = c) (W : World) (B : Nat) (hB : B ≤ W.heap.size) (x : X) (cs : Array Value) (hcs : cs.toList = C x) : Own C e c (W.alloc (.cells cs e)) B (.slice (some ⟨W.heap.size, 0, none⟩) 1 1) [x] :=
  ⟨by simp [cellsL, hC], .inr ⟨W.heap.size, 1, cs, rfl, hB, heap_alloc_new W _, Nat.le_refl _, by unfold maxLen; omega, by rw [← Array.length_toList, hcs, hC]; omega, by
    have : cs.toList.length = c := by rw [hcs, hC]
    simp [cellsL, hcs, ← this]⟩⟩
/-- What Make tells: what comes first, and lists behind it. -/
def MakeTells (W : World) (y : NdV) (L : List LsV) (e : Ending) (W' : World) : Prop := ∃ v zs, e = .returned v ∧ OwnN W' W.heap.size v zs ∧ zs.map (·.x) = { y.x with n := (L.length : Int) } :: (flat L).map (·.x) ∧ Below W.heap.size W W'
set_option maxHeartbeats 4000000 in
theorem make_any (y : NdV) (a : Option Addr) (cap : Nat) (L : List LsV) (W : World) (hy : TmsAt W y) (h : LssAt W a cap L) (ht : tot L ≤ 549755813888) (hl : L.length ≤ 549755813888) :
    Calls Try.prog 12 #[.agg #[.int .i64 y.x.op, .int .i64 y.x.n, .int .i64 y.x.fr, .int .i64 y.x.to, .slice y.ta y.x.terms.length y.tc, .int .i64 y.x.num], .slice a L.length cap] W (MakeTells W y L) := by
  have HH : Hid (∀ X, Below W.heap.size W X → LssAt X a cap L) := fun X hX => h.below hX
  have HY : Hid (∀ X, Below W.heap.size W X → TmsAt X y) := fun X hX => hy.below hX
  have HT : Hid (tot L ≤ 549755813888) := ht
  have HW : Hid (∀ v zs W', OwnN W' W.heap.size v zs → zs.map (·.x) = { y.x with n := (L.length : Int) } :: (flat L).map (·.x) → Below W.heap.size W W' → MakeTells W y L (.returned v) W') := fun v zs W' q1 q2 q3 => ⟨v, zs, rfl, q1, q2, q3⟩
  -- what append makes of the row of one list
  have HX : Hid (∀ W1, Below W.heap.size W W1 → (∀ j, j < 6 → W1.cell? ⟨W.heap.size + 1, j, none⟩ = (ndC ⟨{ y.x with n := (L.length : Int) }, y.ta, y.tc⟩)[j]?) → W.heap.size + 1 < W1.heap.size →
      ∃ va vc X, (Builtin.append_ #[52, 52] 52 #[.slice (some ⟨W1.heap.size, 0, none⟩) 1 1, .slice a L.length cap]).run Try.prog (W1.alloc (.cells #[.slice (some ⟨W.heap.size + 1, 0, none⟩) 1 1] 22)) = .ok (.slice va (L.length + 1) vc) X ∧
        Below W.heap.size W X ∧ Calls Try.prog 20 #[.slice va (L.length + 1) vc] X fun e W' => ∃ v zs, e = .returned v ∧ OwnN W' W.heap.size v zs ∧ zs.map (·.x) = { y.x with n := (L.length : Int) } :: (flat L).map (·.x) ∧ Below W.heap.size W W') := fun W1 hb hc hlt => by
    have hl1 := Own.lit1 lsC 22 1 lsC_len W1 W.heap.size hb.size ⟨[⟨{ y.x with n := (L.length : Int) }, y.ta, y.tc⟩], some ⟨W.heap.size + 1, 0, none⟩, 1⟩ #[.slice (some ⟨W.heap.size + 1, 0, none⟩) 1 1] rfl
    have hb2 : Below W.heap.size W (W1.alloc (.cells #[.slice (some ⟨W.heap.size + 1, 0, none⟩) 1 1] 22)) := hb.alloc hb.size _
    have q := HH.out _ hb2
    obtain ⟨v', X, hr, ho, hg, _⟩ := Own.appendRow lsC_len lsC_one Try.underlying52 infoNodes rfl (by omega) (W1.alloc (.cells #[.slice (some ⟨W.heap.size + 1, 0, none⟩) 1 1] 22)) W.heap.size _ _ hl1 a L cap q.nil q.row (by unfold maxLen; simp; omega) (by simp; omega) hb2.size
    obtain ⟨va, vc, rfl, _⟩ := ho.sl lsC_len default
    have e1 : ([(⟨[⟨{ y.x with n := (L.length : Int) }, y.ta, y.tc⟩], some ⟨W.heap.size + 1, 0, none⟩, 1⟩ : LsV)] ++ L).length = L.length + 1 := by simp
    have hge : ∀ g ∈ (Value.slice (some ⟨W1.heap.size, 0, none⟩) 1 1).ownBlock.toList, W1.heap.size ≤ g := fun g hh => by simp [Value.ownBlock] at hh; omega
    have hbx : Below W.heap.size W X := hb2.trans ((Mod.grown hg).belowOf hb2.size fun g hh => Nat.le_trans hb.size (hge g hh))
    have hb1x : Below W1.heap.size W1 X := ((Below.refl _ W1).alloc (Nat.le_refl _) _).trans ((Mod.grown hg).belowOf (by simp) fun g hh => hge g hh)
    obtain ⟨_, r2, r3, _⟩ := Own.room lsC_len default ho
    have hlss : LssAt X va vc ([(⟨[⟨{ y.x with n := (L.length : Int) }, y.ta, y.tc⟩], some ⟨W.heap.size + 1, 0, none⟩, 1⟩ : LsV)] ++ L) := by
      refine ⟨Own.rows lsC_len ho, r2, r3, by rw [e1]; omega, fun z hz => ?_⟩
      rcases List.mem_append.1 hz with hz | hz
      · simp only [List.mem_singleton] at hz
        subst hz
        refine ⟨fun i hi => ?_, (fun e => by cases e), Nat.le_refl _, by simp, fun z hz => ?_⟩
        · obtain rfl : i = 0 := by simpa using hi
          refine ⟨W.heap.size + 1, 0, rfl, fun j hj => ?_⟩
          have := hc j hj
          simp only [Nat.zero_mul, Nat.zero_add, List.getD_cons_zero]
          rw [List.getElem?_eq_getElem (by rw [ndC_len]; exact hj)] at this ⊢
          exact cell_up hb1x this
        · simp only [List.mem_singleton] at hz
          subst hz
          have := HY.out X hbx
          exact ⟨this.row, this.nil, this.le, this.few⟩
      · exact (HH.out X hbx).each z hz
    have hj := join_any va vc _ X hlss (by rw [tot_append]; have := HT.out; unfold tot at this ⊢; simp; omega)
    rw [e1] at hr hj
    refine ⟨va, vc, X, hr, hbx, hj.mono ?_⟩
    rintro e W' ⟨v, zs, rfl, z1, z2, z3⟩
    refine ⟨v, zs, rfl, z1.lower hbx.size, ?_, hbx.trans (z3.mono hbx.size)⟩
    rw [z2]; unfold flat; simp
  clear h hy ht
  obtain ⟨⟨op, n, fr, to, ts, num⟩, ta, tc⟩ := y
  simp only at HX HW
  obtain ⟨va, vc, X, hr, hbx, hj⟩ := HX ((W.alloc (.cells #[.int .i64 op, .int .i64 L.length, .int .i64 fr, .int .i64 to, .slice ta ts.length tc, .int .i64 num] 31)).alloc (.cells #[.int .i64 op, .int .i64 L.length, .int .i64 fr, .int .i64 to, .slice ta ts.length tc, .int .i64 num] 31)) (((Below.refl _ _).alloc (Nat.le_refl _) _).alloc (by simp) _)
    (fun j hj => by
      have : j = 0 ∨ j = 1 ∨ j = 2 ∨ j = 3 ∨ j = 4 ∨ j = 5 := by omega
      rcases this with rfl | rfl | rfl | rfl | rfl | rfl <;> simp [go_sem, ndC]) (by simp)
  have hs : ((W.alloc (.cells #[.int .i64 op, .int .i64 L.length, .int .i64 fr, .int .i64 to, .slice ta ts.length tc, .int .i64 num] 31)).alloc (.cells #[.int .i64 op, .int .i64 L.length, .int .i64 fr, .int .i64 to, .slice ta ts.length tc, .int .i64 num] 31)).heap.size = W.heap.size + 1 + 1 := by simp
  rw [hs] at hr
  have HR : Hid _ := hr
  have HJ : Hid _ := hj
  clear hr hj hs HX hbx
  go_enter Try.func12, Try.ntmps12
  go_wp2_with (at_builtin; refine append_runO (by rfl) _ _ (by rfl) (by rfl) _ _ _ _ (by rfl) (by rfl) HR.out ?_)
  refine Calls.mono HJ.out ?_
  rintro e W2 ⟨v, zs, rfl, z1, z2, z3⟩
  go_wp2
  go_ret
  exact HW.out _ _ _ z1 z2 z3
theorem nil_lss (W : World) : LssAt W none 0 [] := ⟨fun i hi => by simp at hi, fun _ => rfl, Nat.le_refl _, by simp, fun y hy => by cases hy⟩
def tt : Nd := ⟨0, 0, 0, 0, [], 0⟩
def ff : Nd := ⟨1, 0, 0, 0, [], 0⟩
/-- A node that has an Op alone. -/
def opV (op : Int) : NdV := ⟨⟨op, 0, 0, 0, [], 0⟩, none, 0⟩
theorem opV_tms (op : Int) (W : World) : TmsAt W (opV op) := ⟨fun i hi => by simp [opV] at hi, fun _ => rfl, by simp [opV], by simp [opV]⟩
/-- Nodes in rows of their own, as a list that is told. -/
def Makes (W : World) (l : List Nd) (e : Ending) (W' : World) : Prop := ∃ v zs, e = .returned v ∧ OwnN W' W.heap.size v zs ∧ zs.map (·.x) = l ∧ Below W.heap.size W W'
theorem yes_any (W : World) : Calls Try.prog 63 #[] W (Makes W [tt]) := by
  have HM := make_any (opV 0) none 0 [] W (opV_tms 0 W) (nil_lss W) (by simp [tot]) (by simp)
  have HW : Hid (∀ e W', MakeTells W (opV 0) [] e W' → ∃ v, e = .returned v ∧ Makes W [tt] (.returned v) W') := fun e W' ⟨v, zs, h1, h2, h3, h4⟩ => ⟨v, h1, v, zs, rfl, h2, h3, h4⟩
  go_enter Try.func63, Try.ntmps63
  go_wp2_with fail
  refine Calls.mono HM ?_
  intro e W2 h
  obtain ⟨v, rfl, ht⟩ := HW.out _ _ h
  have HT : Hid _ := ht
  clear h ht
  go_wp2
  go_ret
  exact HT.out
theorem no_any (W : World) : Calls Try.prog 64 #[] W (Makes W [ff]) := by
  have HM := make_any (opV 1) none 0 [] W (opV_tms 1 W) (nil_lss W) (by simp [tot]) (by simp)
  have HW : Hid (∀ e W', MakeTells W (opV 1) [] e W' → ∃ v, e = .returned v ∧ Makes W [ff] (.returned v) W') := fun e W' ⟨v, zs, h1, h2, h3, h4⟩ => ⟨v, h1, v, zs, rfl, h2, h3, h4⟩
  go_enter Try.func64, Try.ntmps64
  go_wp2_with fail
  refine Calls.mono HM ?_
  intro e W2 h
  obtain ⟨v, rfl, ht⟩ := HW.out _ _ h
  have HT : Hid _ := ht
  clear h ht
  go_wp2
  go_ret
  exact HT.out
end Go.Proofs.Ytcpehjndpookiaa
