/- The contracts of core's is, isNever, yes, no and of tree's Make. Conditions: at most 2^39 nodes in all, each of at most 2^40 terms. The contracts of slices.Equal of terms, tree's sameNode, slices.EqualFunc of nodes, tree's Same. Conditions: names of at most 2^63 - 1 bytes; at most 2^62 nodes and terms. The contracts of core's Not, Prev, Since. Conditions: at most 2^38 nodes each, each of at most 2^40 terms. The contract of core's mark's closure: numbers are mixed into a cell. Conditions: none. The contract of core's mark. Conditions: names of at most 2^40 bytes. core's some: formulas, and by their marks where they stand. Conditions: names of at most 2^40 bytes. core's some in memory; what a look-up, an append and a store into its map leave. Conditions: at most 2^30 formulas. The contract of core's some's has. Conditions: at most 2^30 formulas. The contract of core's some's add. Conditions: at most 2^29 formulas. -/
import Derived.Test.YtpgdkgilmcipkaaTrK
import Derived.Lib.ConvBytes
import Derived.Maps.GroupsBeside
import Derived.Maps.Views
namespace Go.Proofs.Ytpgdkgilmcipkaa
open Go.RowKit
set_option linter.unusedVariables false
set_option maxRecDepth 100000

def isB (l : List Nd) (op : Int) : Bool := match l with | [] => false | x :: _ => x.op == op
set_option maxHeartbeats 1000000 in
theorem is_any (a : Option Addr) (cap : Nat) (l : List Nd) (op : Int) (W : World) (h : NodeRow W a l) :
    Calls Try.prog 38 #[.slice a l.length cap, .int .i64 op] W fun e W' => e = .returned (.bool (isB l op)) ∧ W' = W := by
  cases l with
  | nil =>
    clear h
    go_enter Try.func38, Try.ntmps38
    go_wp2
    go_ret
    exact ⟨rfl, rfl⟩
  | cons x l =>
    obtain ⟨b, off, rfl, n0, _⟩ := h 0 (by simp)
    simp only [Nat.zero_mul, Nat.add_zero, List.getD_cons_zero] at n0
    have HE : Hid (isB (x :: l) op = (x.op == op)) := rfl
    have hpos : (((l.length + 1 : Nat) : Int) > 0) := by omega
    have e : (x :: l).length = l.length + 1 := rfl
    rw [e]
    clear h e
    generalize l.length + 1 = n at *
    generalize x.op = xo at *
    have hp0 : 0 < n := by omega
    go_enter Try.func38, Try.ntmps38
    go_wp2
    go_ret
    exact ⟨ret_bool HE.out.symm, rfl⟩
def neverB (fr to : Int) : Bool := to != -1 && decide (to < fr)
set_option maxHeartbeats 1000000 in
theorem never_any (fr to : Int) (W : World) : Calls Try.prog 44 #[.int .i64 fr, .int .i64 to] W fun e W' => e = .returned (.bool (neverB fr to)) ∧ W' = W := by
  by_cases h : to = -1
  · subst h
    go_enter Try.func44, Try.ntmps44
    go_wp2
    go_ret
    exact ⟨rfl, rfl⟩
  · have k1 : (to == -1) = false := by simpa using h
    have k2 : (to != -1) = true := by simpa using h
    have HE : Hid (neverB fr to = decide (to < fr)) := by simp [Hid, neverB, k2]
    clear h
    go_enter Try.func44, Try.ntmps44
    go_wp2
    go_ret
    exact ⟨ret_bool HE.out.symm, rfl⟩
/-- A new row of one element. -/
theorem Own.lit1 {X : Type} (C : X → List Value) (e : TypeId) (c : Nat) (hC : ∀ x, (C x).length = c) (W : World) (B : Nat) (hB : B ≤ W.heap.size) (x : X) (cs : Array Value) (hcs : cs.toList = C x) : Own C e c (W.alloc (.cells cs e)) B (.slice (some ⟨W.heap.size, 0, none⟩) 1 1) [x] :=
  ⟨by simp [cellsL, hC], .inr ⟨W.heap.size, 1, cs, rfl, hB, heap_alloc_new W _, Nat.le_refl _, by unfold maxLen; omega, by rw [← Array.length_toList, hcs, hC]; omega, by
    have : cs.toList.length = c := by rw [hcs, hC]
    simp [cellsL, hcs, ← this]⟩⟩
/-- What Make tells: what comes first, and lists behind it. -/
def MakeTells (W : World) (y : NdV) (L : List LsV) (e : Ending) (W' : World) : Prop := ∃ v zs, e = .returned v ∧ OwnN W' W.heap.size v zs ∧ zs.map (·.x) = { y.x with n := (L.length : Int) } :: (flat L).map (·.x) ∧ Below W.heap.size W W'
set_option maxHeartbeats 4000000 in
theorem make_any (y : NdV) (a : Option Addr) (cap : Nat) (L : List LsV) (W : World) (hy : TmsAt W y) (h : LssAt W a cap L) (ht : tot L ≤ 549755813888) (hl : L.length ≤ 549755813888) :
    Calls Try.prog 41 #[.agg #[.int .i64 y.x.op, .int .i64 y.x.n, .int .i64 y.x.fr, .int .i64 y.x.to, .slice y.ta y.x.terms.length y.tc, .int .i64 y.x.num], .slice a L.length cap] W (MakeTells W y L) := by
  have HH : Hid (∀ X, Below W.heap.size W X → LssAt X a cap L) := fun X hX => h.below hX
  have HY : Hid (∀ X, Below W.heap.size W X → TmsAt X y) := fun X hX => hy.below hX
  have HT : Hid (tot L ≤ 549755813888) := ht
  have HW : Hid (∀ v zs W', OwnN W' W.heap.size v zs → zs.map (·.x) = { y.x with n := (L.length : Int) } :: (flat L).map (·.x) → Below W.heap.size W W' → MakeTells W y L (.returned v) W') := fun v zs W' q1 q2 q3 => ⟨v, zs, rfl, q1, q2, q3⟩
  -- what append makes of the row of one list
  have HX : Hid (∀ W1, Below W.heap.size W W1 → (∀ j, j < 6 → W1.cell? ⟨W.heap.size + 1, j, none⟩ = (ndC ⟨{ y.x with n := (L.length : Int) }, y.ta, y.tc⟩)[j]?) → W.heap.size + 1 < W1.heap.size →
      ∃ va vc X, (Builtin.append_ #[39, 39] 39 #[.slice (some ⟨W1.heap.size, 0, none⟩) 1 1, .slice a L.length cap]).run Try.prog (W1.alloc (.cells #[.slice (some ⟨W.heap.size + 1, 0, none⟩) 1 1] 28)) = .ok (.slice va (L.length + 1) vc) X ∧
        Below W.heap.size W X ∧ Calls Try.prog 30 #[.slice va (L.length + 1) vc] X fun e W' => ∃ v zs, e = .returned v ∧ OwnN W' W.heap.size v zs ∧ zs.map (·.x) = { y.x with n := (L.length : Int) } :: (flat L).map (·.x) ∧ Below W.heap.size W W') := fun W1 hb hc hlt => by
    have hl1 := Own.lit1 lsC 28 1 lsC_len W1 W.heap.size hb.size ⟨[⟨{ y.x with n := (L.length : Int) }, y.ta, y.tc⟩], some ⟨W.heap.size + 1, 0, none⟩, 1⟩ #[.slice (some ⟨W.heap.size + 1, 0, none⟩) 1 1] rfl
    have hb2 : Below W.heap.size W (W1.alloc (.cells #[.slice (some ⟨W.heap.size + 1, 0, none⟩) 1 1] 28)) := hb.alloc hb.size _
    have q := HH.out _ hb2
    obtain ⟨v', X, hr, ho, hg, _⟩ := Own.appendRow lsC_len lsC_one Try.underlying39 infoNodes rfl (by omega) (W1.alloc (.cells #[.slice (some ⟨W.heap.size + 1, 0, none⟩) 1 1] 28)) W.heap.size _ _ hl1 a L cap q.nil q.row (by unfold maxLen; simp; omega) (by simp; omega) hb2.size
    obtain ⟨va, vc, rfl, _⟩ := ho.sl lsC_len default
    have e1 : ([(⟨[⟨{ y.x with n := (L.length : Int) }, y.ta, y.tc⟩], some ⟨W.heap.size + 1, 0, none⟩, 1⟩ : LsV)] ++ L).length = L.length + 1 := by simp
    have hge : ∀ g ∈ (Value.slice (some ⟨W1.heap.size, 0, none⟩) 1 1).ownBlock.toList, W1.heap.size ≤ g := fun g hh => by simp [Value.ownBlock] at hh; omega
    have hbx : Below W.heap.size W X := hb2.trans ((Mod.grown hg).belowOf hb2.size fun g hh => Nat.le_trans hb.size (hge g hh))
    have hb1x : Below W1.heap.size W1 X := ((Below.refl _ W1).alloc (Nat.le_refl _) _).trans ((Mod.grown hg).belowOf (by simp) fun g hh => hge g hh)
    obtain ⟨_, r2, r3, _⟩ := Own.room lsC_len default ho
    have hlss : LssAt X va vc ([(⟨[⟨{ y.x with n := (L.length : Int) }, y.ta, y.tc⟩], some ⟨W.heap.size + 1, 0, none⟩, 1⟩ : LsV)] ++ L) := by
      refine ⟨Own.rows lsC_len ho, r2, r3, by rw [e1]; omega, fun z hz => ?_⟩
      rcases List.mem_append.1 hz with hz | hz
      · simp only [List.mem_singleton] at hz
        subst hz
        refine ⟨fun i hi => ?_, (fun e => by cases e), Nat.le_refl _, by simp, fun z hz => ?_⟩
        · obtain rfl : i = 0 := by simpa using hi
          refine ⟨W.heap.size + 1, 0, rfl, fun j hj => ?_⟩
          have := hc j hj
          simp only [Nat.zero_mul, Nat.zero_add, List.getD_cons_zero]
          rw [List.getElem?_eq_getElem (by rw [ndC_len]; exact hj)] at this ⊢
          exact cell_up hb1x this
        · simp only [List.mem_singleton] at hz
          subst hz
          have := HY.out X hbx
          exact ⟨this.row, this.nil, this.le, this.few⟩
      · exact (HH.out X hbx).each z hz
    have hj := join_any va vc _ X hlss (by rw [tot_append]; have := HT.out; unfold tot at this ⊢; simp; omega)
    rw [e1] at hr hj
    refine ⟨va, vc, X, hr, hbx, hj.mono ?_⟩
    rintro e W' ⟨v, zs, rfl, z1, z2, z3⟩
    refine ⟨v, zs, rfl, z1.lower hbx.size, ?_, hbx.trans (z3.mono hbx.size)⟩
    rw [z2]; unfold flat; simp
  clear h hy ht
  obtain ⟨⟨op, n, fr, to, ts, num⟩, ta, tc⟩ := y
  simp only at HX HW
  obtain ⟨va, vc, X, hr, hbx, hj⟩ := HX ((W.alloc (.cells #[.int .i64 op, .int .i64 L.length, .int .i64 fr, .int .i64 to, .slice ta ts.length tc, .int .i64 num] 37)).alloc (.cells #[.int .i64 op, .int .i64 L.length, .int .i64 fr, .int .i64 to, .slice ta ts.length tc, .int .i64 num] 37)) (((Below.refl _ _).alloc (Nat.le_refl _) _).alloc (by simp) _)
    (fun j hj => by
      have : j = 0 ∨ j = 1 ∨ j = 2 ∨ j = 3 ∨ j = 4 ∨ j = 5 := by omega
      rcases this with rfl | rfl | rfl | rfl | rfl | rfl <;> simp [go_sem, ndC]) (by simp)
  have hs : ((W.alloc (.cells #[.int .i64 op, .int .i64 L.length, .int .i64 fr, .int .i64 to, .slice ta ts.length tc, .int .i64 num] 37)).alloc (.cells #[.int .i64 op, .int .i64 L.length, .int .i64 fr, .int .i64 to, .slice ta ts.length tc, .int .i64 num] 37)).heap.size = W.heap.size + 1 + 1 := by simp
  rw [hs] at hr
  have HR : Hid _ := hr
  have HJ : Hid _ := hj
  clear hr hj hs HX hbx
  go_enter Try.func41, Try.ntmps41
  go_wp2_with (at_builtin; refine append_runO (by rfl) _ _ (by rfl) (by rfl) _ _ _ _ (by rfl) (by rfl) HR.out ?_)
  refine Calls.mono HJ.out ?_
  rintro e W2 ⟨v, zs, rfl, z1, z2, z3⟩
  go_wp2
  go_ret
  exact HW.out _ _ _ z1 z2 z3
theorem nil_lss (W : World) : LssAt W none 0 [] := ⟨fun i hi => by simp at hi, fun _ => rfl, Nat.le_refl _, by simp, fun y hy => by cases hy⟩
def tt : Nd := ⟨0, 0, 0, 0, [], 0⟩
def ff : Nd := ⟨1, 0, 0, 0, [], 0⟩
/-- A node that has an Op alone. -/
def opV (op : Int) : NdV := ⟨⟨op, 0, 0, 0, [], 0⟩, none, 0⟩
theorem opV_tms (op : Int) (W : World) : TmsAt W (opV op) := ⟨fun i hi => by simp [opV] at hi, fun _ => rfl, by simp [opV], by simp [opV]⟩
/-- Nodes in rows of their own, as a list that is told. -/
def Makes (W : World) (l : List Nd) (e : Ending) (W' : World) : Prop := ∃ v zs, e = .returned v ∧ OwnN W' W.heap.size v zs ∧ zs.map (·.x) = l ∧ Below W.heap.size W W'
theorem yes_any (W : World) : Calls Try.prog 39 #[] W (Makes W [tt]) := by
  have HM := make_any (opV 0) none 0 [] W (opV_tms 0 W) (nil_lss W) (by simp [tot]) (by simp)
  have HW : Hid (∀ e W', MakeTells W (opV 0) [] e W' → ∃ v, e = .returned v ∧ Makes W [tt] (.returned v) W') := fun e W' ⟨v, zs, h1, h2, h3, h4⟩ => ⟨v, h1, v, zs, rfl, h2, h3, h4⟩
  go_enter Try.func39, Try.ntmps39
  go_wp2_with fail
  refine Calls.mono HM ?_
  intro e W2 h
  obtain ⟨v, rfl, ht⟩ := HW.out _ _ h
  have HT : Hid _ := ht
  clear h ht
  go_wp2
  go_ret
  exact HT.out
theorem no_any (W : World) : Calls Try.prog 40 #[] W (Makes W [ff]) := by
  have HM := make_any (opV 1) none 0 [] W (opV_tms 1 W) (nil_lss W) (by simp [tot]) (by simp)
  have HW : Hid (∀ e W', MakeTells W (opV 1) [] e W' → ∃ v, e = .returned v ∧ Makes W [ff] (.returned v) W') := fun e W' ⟨v, zs, h1, h2, h3, h4⟩ => ⟨v, h1, v, zs, rfl, h2, h3, h4⟩
  go_enter Try.func40, Try.ntmps40
  go_wp2_with fail
  refine Calls.mono HM ?_
  intro e W2 h
  obtain ⟨v, rfl, ht⟩ := HW.out _ _ h
  have HT : Hid _ := ht
  clear h ht
  go_wp2
  go_ret
  exact HT.out
end Go.Proofs.Ytpgdkgilmcipkaa
namespace Go.Proofs.Ytpgdkgilmcipkaa
open Go.RowKit
set_option linter.unusedVariables false
set_option maxRecDepth 100000

def tmB (t u : Tm) : Bool := eqS t.name u.name && t.times == u.times
theorem tmB_iff (t u : Tm) : tmB t u = true ↔ t = u := by
  obtain ⟨a, b⟩ := t
  obtain ⟨c, d⟩ := u
  unfold tmB
  simp only [Bool.and_eq_true, beq_iff_eq, Tm.mk.injEq]
  rw [eqS_iff]
/-- Two lists by what tells their elements apart. -/
def eqL {X : Type} (f : X → X → Bool) : List X → List X → Bool
  | [], [] => true
  | x :: l, y :: m => f x y && eqL f l m
  | _, _ => false
theorem eqL_iff {X : Type} {f : X → X → Bool} (hf : ∀ x y, f x y = true ↔ x = y) : ∀ l m : List X, eqL f l m = true ↔ l = m := by
  intro l
  induction l with
  | nil => intro m; cases m <;> simp [eqL]
  | cons x l ih => intro m; cases m with
    | nil => simp [eqL]
    | cons y m => simp [eqL, hf, ih]
theorem eqL_len {X : Type} {f : X → X → Bool} (hf : ∀ x y, f x y = true ↔ x = y) {l m : List X} (h : l.length ≠ m.length) : eqL f l m = false := by
  cases q : eqL f l m with
  | false => rfl
  | true => exact absurd (congrArg List.length ((eqL_iff hf l m).1 q)) h
theorem eqL_bad {X : Type} {f : X → X → Bool} (d : X) (hf : ∀ x y, f x y = true ↔ x = y) {l m : List X} {k : Nat} (h : f (l.getD k d) (m.getD k d) = false) : eqL f l m = false := by
  cases q : eqL f l m with
  | false => rfl
  | true =>
    rw [(eqL_iff hf l m).1 q, (hf _ _).2 rfl] at h; cases h
theorem eqL_all {X : Type} {f : X → X → Bool} (d : X) (hf : ∀ x y, f x y = true ↔ x = y) {l m : List X} (hl : l.length = m.length) (h : ∀ j, j < l.length → f (l.getD j d) (m.getD j d) = true) : eqL f l m = true := by
  rw [eqL_iff hf]
  apply List.ext_getElem hl
  intro i h1 h2
  have := (hf _ _).1 (h i h1)
  simpa [List.getD_eq_getElem?_getD, h1, h2] using this
def tmsB (l m : List Tm) : Bool := eqL tmB l m
theorem tmsB_iff (l m : List Tm) : tmsB l m = true ↔ l = m := eqL_iff tmB_iff l m
def ndB (x y : Nd) : Bool := x.op == y.op && (x.n == y.n && (x.fr == y.fr && (x.to == y.to && (x.num == y.num && tmsB x.terms y.terms))))
theorem ndB_iff (x y : Nd) : ndB x y = true ↔ x = y := by
  obtain ⟨a1, a2, a3, a4, a5, a6⟩ := x
  obtain ⟨b1, b2, b3, b4, b5, b6⟩ := y
  unfold ndB
  simp only [Bool.and_eq_true, beq_iff_eq, Nd.mk.injEq, tmsB_iff]
  exact ⟨fun ⟨h1, h2, h3, h4, h5, h6⟩ => ⟨h1, h2, h3, h4, h6, h5⟩, fun ⟨h1, h2, h3, h4, h5, h6⟩ => ⟨h1, h2, h3, h4, h6, h5⟩⟩
def sameB (l m : List Nd) : Bool := eqL ndB l m
theorem sameB_iff (l m : List Nd) : sameB l m = true ↔ l = m := eqL_iff ndB_iff l m

set_option maxHeartbeats 4000000 in
theorem equalTm_any (a b : Option Addr) (ca cb : Nat) (l m : List Tm) (W : World) (h : TermRow W a l) (k : TermRow W b m) (hl : l.length ≤ 4611686018427387904) (hm : m.length ≤ 4611686018427387904) :
    Calls Try.prog 62 #[.slice a l.length ca, .slice b m.length cb] W fun e W' => e = .returned (.bool (tmsB l m)) ∧ Below W.heap.size W W' := by
  by_cases hne : l.length = m.length
  · have HR : Hid (TermRow W a l) := h
    have HK : Hid (TermRow W b m) := k
    have HN : Hid (l.length = m.length) := hne
    have e : m.length = l.length := hne.symm
    rw [e]
    clear h k hne e hm
    go_enter Try.func62, Try.ntmps62
    go_wp2
    go_loopw [13] (fun i wr => ∃ k : Nat, k ≤ l.length ∧ i = .int .i64 k ∧ Below W.heap.size W wr ∧ ∀ j, j < k → tmB (l.getD j tm0) (m.getD j tm0) = true) (fun i _ => l.length - (intOf i).toNat)
    case atStart => exact ⟨0, Nat.zero_le _, rfl, Below.refl _ _, fun j hj => by omega⟩
    case round =>
      obtain ⟨k, hk, rfl, hb, hj⟩ := hrel
      have HB : Hid (Below W.heap.size W wr) := hb
      have HJ : Hid (∀ j, j < k → tmB (l.getD j tm0) (m.getD j tm0) = true) := hj
      clear hb hj
      by_cases hlt : k < l.length
      · obtain ⟨ab, ao, rfl, h0, h1⟩ := (HR.out.below HB.out) k hlt
        obtain ⟨bb, bo, rfl, g0, g1⟩ := (HK.out.below HB.out) k (by rw [← HN.out]; exact hlt)
        have HBad : Hid (tmB (l.getD k tm0) (m.getD k tm0) = false → tmsB l m = false) := fun q => eqL_bad tm0 tmB_iff q
        have HGo : Hid (tmB (l.getD k tm0) (m.getD k tm0) = true → ∀ j, j < k + 1 → tmB (l.getD j tm0) (m.getD j tm0) = true) := fun q j hj => by
          rcases Nat.lt_succ_iff_lt_or_eq.1 hj with z | z
          · exact HJ.out j z
          · rw [z]; exact q
        generalize l.getD k tm0 = t at *
        generalize m.getD k tm0 = u at *
        obtain ⟨tn, tv⟩ := t
        obtain ⟨un, uv⟩ := u
        simp only at h0 h1 g0 g1
        have HB2 : Hid (Below W.heap.size W wr.drew) := HB.out.drew
        have HE : Hid (tmB ⟨tn, tv⟩ ⟨un, uv⟩ = (eqS tn un && tv == uv)) := rfl
        cases q1 : (tn.toList == un.toList) with
        | false =>
          have HZ : Hid (tmsB l m = false) := HBad.out (by rw [HE.out]; unfold eqS; rw [q1]; rfl)
          go_wp2
          go_region
          go_wp2
          go_ret
          exact ⟨ret_bool HZ.out.symm, HB2.out⟩
        | true =>
          cases q2 : (tv == uv) with
          | false =>
            have HZ : Hid (tmsB l m = false) := HBad.out (by rw [HE.out]; unfold eqS; rw [q1, q2]; rfl)
            go_wp2
            go_region
            go_wp2
            go_ret
            exact ⟨ret_bool HZ.out.symm, HB2.out⟩
          | true =>
            have HZ : Hid (∀ j, j < k + 1 → tmB (l.getD j tm0) (m.getD j tm0) = true) := HGo.out (by rw [HE.out]; unfold eqS; rw [q1, q2]; rfl)
            go_wp2
            go_region
            go_wp2
            go_roundw
            case rel => exact ⟨k + 1, by omega, by go_num, HB2.out, HZ.out⟩
            case measure => simp [intOf]; omega
      · have hkk : k = l.length := by omega
        have HZ : Hid (tmsB l m = true) := eqL_all tm0 tmB_iff HN.out (by rw [← hkk]; exact HJ.out)
        clear hkk
        go_wp2
        go_ret
        exact ⟨ret_bool HZ.out.symm, HB.out⟩
  · have HZ : Hid (tmsB l m = false) := eqL_len tmB_iff hne
    have k1 : ((l.length : Int) == (m.length : Int)) = false := by rw [beq_eq_false_iff_ne]; omega
    have k2 : ((l.length : Int) != (m.length : Int)) = true := by simp only [bne, k1]; rfl
    clear h k hne
    generalize l.length = x at *
    generalize m.length = y at *
    go_enter Try.func62, Try.ntmps62
    go_wp2
    go_ret
    exact ⟨ret_bool HZ.out.symm, Below.refl _ _⟩
set_option maxHeartbeats 4000000 in
theorem sameNode_any (x y : Nd) (ta tb : Option Addr) (tc td : Nat) (W : World) (h : TermRow W ta x.terms) (k : TermRow W tb y.terms) (hl : x.terms.length ≤ 4611686018427387904) (hm : y.terms.length ≤ 4611686018427387904) :
    Calls Try.prog 37 #[.agg #[.int .i64 x.op, .int .i64 x.n, .int .i64 x.fr, .int .i64 x.to, .slice ta x.terms.length tc, .int .i64 x.num], .agg #[.int .i64 y.op, .int .i64 y.n, .int .i64 y.fr, .int .i64 y.to, .slice tb y.terms.length td, .int .i64 y.num]] W fun e W' => e = .returned (.bool (ndB x y)) ∧ Below W.heap.size W W' := by
  have HB0 : Hid (Below W.heap.size W ((W.alloc (.cells #[.int .i64 x.op, .int .i64 x.n, .int .i64 x.fr, .int .i64 x.to, .slice ta x.terms.length tc, .int .i64 x.num] 37)).alloc (.cells #[.int .i64 y.op, .int .i64 y.n, .int .i64 y.fr, .int .i64 y.to, .slice tb y.terms.length td, .int .i64 y.num] 37))) := ((Below.refl _ _).alloc (Nat.le_refl _) _).alloc (by simp) _
  have HC : Hid (∀ X, Below W.heap.size W X → Calls Try.prog 62 #[.slice ta x.terms.length tc, .slice tb y.terms.length td] X fun e W' => e = .returned (.bool (tmsB x.terms y.terms)) ∧ Below X.heap.size X W') := fun X hX => equalTm_any ta tb tc td x.terms y.terms X (h.below hX) (k.below hX) hl hm
  have HE : Hid (ndB x y = (x.op == y.op && (x.n == y.n && (x.fr == y.fr && (x.to == y.to && (x.num == y.num && tmsB x.terms y.terms)))))) := rfl
  clear h k hl hm
  obtain ⟨xo, xn, xf, xt, xs, xm⟩ := x
  obtain ⟨yo, yn, yf, yt, ys, ym⟩ := y
  simp only at HB0 HC HE
  generalize ndB ⟨xo, xn, xf, xt, xs, xm⟩ ⟨yo, yn, yf, yt, ys, ym⟩ = r at *
  generalize tmsB xs ys = ts at *
  generalize xs.length = n1 at *
  generalize ys.length = n2 at *
  cases q0 : (xo == yo) with
  | false =>
    go_enter Try.func37, Try.ntmps37
    go_wp2
    go_ret
    exact ⟨ret_bool (by rw [HE.out]; simp [q0]), HB0.out⟩
  | true =>
    cases q1 : (xn == yn) with
    | false =>
      go_enter Try.func37, Try.ntmps37
      go_wp2
      go_ret
      exact ⟨ret_bool (by rw [HE.out]; simp [q0, q1]), HB0.out⟩
    | true =>
      cases q2 : (xf == yf) with
      | false =>
        go_enter Try.func37, Try.ntmps37
        go_wp2
        go_ret
        exact ⟨ret_bool (by rw [HE.out]; simp [q0, q1, q2]), HB0.out⟩
      | true =>
        cases q3 : (xt == yt) with
        | false =>
          go_enter Try.func37, Try.ntmps37
          go_wp2
          go_ret
          exact ⟨ret_bool (by rw [HE.out]; simp [q0, q1, q2, q3]), HB0.out⟩
        | true =>
          cases q4 : (xm == ym) with
          | false =>
            go_enter Try.func37, Try.ntmps37
            go_wp2
            go_ret
            exact ⟨ret_bool (by rw [HE.out]; simp [q0, q1, q2, q3, q4]), HB0.out⟩
          | true =>
            go_enter Try.func37, Try.ntmps37
            go_wp2_with fail
            refine Calls.mono (HC.out _ HB0.out) ?_
            rintro e W2 ⟨rfl, hb⟩
            go_wp2
            go_ret
            exact ⟨ret_bool (by rw [HE.out]; first | done | simp [q0, q1, q2, q3, q4] | simp), HB0.out.trans (hb.mono HB0.out.size)⟩
/-- Nodes whose terms are few enough to be looked at. -/
def FewT (l : List Nd) : Prop := ∀ x ∈ l, x.terms.length ≤ 4611686018427387904
theorem getD_few {l : List Nd} (h : FewT l) (k : Nat) : (l.getD k nd0).terms.length ≤ 4611686018427387904 := by
  by_cases q : k < l.length
  · exact h _ (getD_mem nd0 q)
  · rw [List.getD_eq_getElem?_getD, List.getElem?_eq_none (by omega)]; simp [nd0]
set_option maxHeartbeats 8000000 in
theorem equalFunc_any (a b : Option Addr) (ca cb : Nat) (l m : List Nd) (W : World) (h : NodeRow W a l) (k : NodeRow W b m) (hl : l.length ≤ 4611686018427387904) (hm : m.length ≤ 4611686018427387904) (fl : FewT l) (fm : FewT m) :
    Calls Try.prog 36 #[.slice a l.length ca, .slice b m.length cb, .func (.func 37) #[] #[]] W fun e W' => e = .returned (.bool (sameB l m)) ∧ Below W.heap.size W W' := by
  by_cases hne : l.length = m.length
  · have HR : Hid (NodeRow W a l) := h
    have HK : Hid (NodeRow W b m) := k
    have HN : Hid (l.length = m.length) := hne
    have e : m.length = l.length := hne.symm
    rw [e]
    clear h k hne e hm
    go_enter Try.func36, Try.ntmps36
    go_wp2
    go_loopw [17] (fun i wr => ∃ k : Nat, k ≤ l.length ∧ i = .int .i64 k ∧ Below W.heap.size W wr ∧ ∀ j, j < k → ndB (l.getD j nd0) (m.getD j nd0) = true) (fun i _ => l.length - (intOf i).toNat)
    case atStart => exact ⟨0, Nat.zero_le _, rfl, Below.refl _ _, fun j hj => by omega⟩
    case round =>
      obtain ⟨k, hk, rfl, hb, hj⟩ := hrel
      have HB : Hid (Below W.heap.size W wr) := hb
      have HJ : Hid (∀ j, j < k → ndB (l.getD j nd0) (m.getD j nd0) = true) := hj
      clear hb hj
      by_cases hlt : k < l.length
      · obtain ⟨ab, ao, rfl, n0, n1, n2, n3, ⟨ta, tc, n4, ht⟩, n5⟩ := (HR.out.below HB.out) k hlt
        obtain ⟨bb, bo, rfl, g0, g1, g2, g3, ⟨tb, td, g4, hu⟩, g5⟩ := (HK.out.below HB.out) k (by rw [← HN.out]; exact hlt)
        have hab : ab < wr.heap.size := World.block_lt_of_cell? wr _ n0
        have hbb : bb < wr.heap.size := World.block_lt_of_cell? wr _ g0
        have hab2 : ab ≠ wr.heap.size := by omega
        have hbb2 : bb ≠ wr.heap.size := by omega
        have HBad : Hid (ndB (l.getD k nd0) (m.getD k nd0) = false → sameB l m = false) := fun q => eqL_bad nd0 ndB_iff q
        have HGo : Hid (ndB (l.getD k nd0) (m.getD k nd0) = true → ∀ j, j < k + 1 → ndB (l.getD j nd0) (m.getD j nd0) = true) := fun q j hj => by
          rcases Nat.lt_succ_iff_lt_or_eq.1 hj with z | z
          · exact HJ.out j z
          · rw [z]; exact q
        have q1 := getD_few fl k
        have q2 := getD_few fm k
        have HC : Hid (∀ X, Below wr.heap.size wr X → Calls Try.prog 37 #[.agg #[.int .i64 (l.getD k nd0).op, .int .i64 (l.getD k nd0).n, .int .i64 (l.getD k nd0).fr, .int .i64 (l.getD k nd0).to, .slice ta (l.getD k nd0).terms.length tc, .int .i64 (l.getD k nd0).num], .agg #[.int .i64 (m.getD k nd0).op, .int .i64 (m.getD k nd0).n, .int .i64 (m.getD k nd0).fr, .int .i64 (m.getD k nd0).to, .slice tb (m.getD k nd0).terms.length td, .int .i64 (m.getD k nd0).num]] X fun e W' => e = .returned (.bool (ndB (l.getD k nd0) (m.getD k nd0))) ∧ Below X.heap.size X W') :=
          fun X hX => sameNode_any _ _ ta tb tc td X (ht.below hX) (hu.below hX) q1 q2
        clear ht hu q1 q2
        generalize ndB (l.getD k nd0) (m.getD k nd0) = r at *
        generalize l.getD k nd0 = x at *
        generalize m.getD k nd0 = y at *
        obtain ⟨xo, xn, xf, xt, xs, xm⟩ := x
        obtain ⟨yo, yn, yf, yt, ys, ym⟩ := y
        simp only at n0 n1 n2 n3 n4 n5 g0 g1 g2 g3 g4 g5 HC
        generalize xs.length = z1 at *
        generalize ys.length = z2 at *
        have HB2 : Hid (Below wr.heap.size wr ((wr.alloc (.cells #[.int .i64 xo, .int .i64 xn, .int .i64 xf, .int .i64 xt, .slice ta z1 tc, .int .i64 xm] 37)).alloc (.cells #[.int .i64 yo, .int .i64 yn, .int .i64 yf, .int .i64 yt, .slice tb z2 td, .int .i64 ym] 37))) := ((Below.refl _ _).alloc (Nat.le_refl _) _).alloc (by simp) _
        have HCC := HC.out _ HB2.out
        clear HC
        cases r with
        | false =>
          have HZ : Hid (sameB l m = false) := HBad.out rfl
          go_wp2_with (go_at_call 37; refine HCC.mono ?_; rintro e w' ⟨rfl, hw⟩)
          go_ret
          exact ⟨ret_bool HZ.out.symm, HB.out.trans ((HB2.out.trans (hw.mono HB2.out.size)).mono HB.out.size)⟩
        | true =>
          have HZ : Hid (∀ j, j < k + 1 → ndB (l.getD j nd0) (m.getD j nd0) = true) := HGo.out rfl
          go_wp2_with (go_at_call 37; refine HCC.mono ?_; rintro e w' ⟨rfl, hw⟩)
          have HB3 : Hid (Below W.heap.size W w') := HB.out.trans ((HB2.out.trans (hw.mono HB2.out.size)).mono HB.out.size)
          clear hw
          go_roundw
          case rel => exact ⟨k + 1, by omega, by go_num, HB3.out, HZ.out⟩
          case measure => simp [intOf]; omega
      · have hkk : k = l.length := by omega
        have HZ : Hid (sameB l m = true) := eqL_all nd0 ndB_iff HN.out (by rw [← hkk]; exact HJ.out)
        clear hkk
        go_wp2
        go_ret
        exact ⟨ret_bool HZ.out.symm, HB.out⟩
  · have HZ : Hid (sameB l m = false) := eqL_len ndB_iff hne
    have k1 : ((l.length : Int) == (m.length : Int)) = false := by rw [beq_eq_false_iff_ne]; omega
    have k2 : ((l.length : Int) != (m.length : Int)) = true := by simp only [bne, k1]; rfl
    clear h k hne fl fm
    generalize l.length = x at *
    generalize m.length = y at *
    go_enter Try.func36, Try.ntmps36
    go_wp2
    go_ret
    exact ⟨ret_bool HZ.out.symm, Below.refl _ _⟩
set_option maxHeartbeats 1000000 in
theorem same_any (a b : Option Addr) (ca cb : Nat) (l m : List Nd) (W : World) (h : NodeRow W a l) (k : NodeRow W b m) (hl : l.length ≤ 4611686018427387904) (hm : m.length ≤ 4611686018427387904) (fl : FewT l) (fm : FewT m) :
    Calls Try.prog 18 #[.slice a l.length ca, .slice b m.length cb] W fun e W' => e = .returned (.bool (sameB l m)) ∧ Below W.heap.size W W' := by
  have HC := equalFunc_any a b ca cb l m W h k hl hm fl fm
  clear h k fl fm
  generalize sameB l m = r at *
  go_enter Try.func18, Try.ntmps18
  go_wp2_with fail
  refine Calls.mono HC ?_
  rintro e W2 ⟨rfl, hb⟩
  go_wp2
  go_ret
  exact ⟨rfl, hb⟩
end Go.Proofs.Ytpgdkgilmcipkaa
namespace Go.Proofs.Ytpgdkgilmcipkaa
open Go.RowKit
set_option linter.unusedVariables false
set_option maxRecDepth 100000

/-- A part of these parts. -/
def mkL (op fr to : Int) (l : List (List Nd)) : List Nd := ⟨op, l.length, fr, to, [], 0⟩ :: l.flatten
def notL (n : List Nd) : List Nd := if isB n 1 then [tt] else if isB n 0 then [ff] else if isB n 3 then n.drop 1 else mkL 3 0 0 [n]
def prevL (n : List Nd) : List Nd := if isB n 1 then [ff] else mkL 7 0 0 [n]
def sinceL (fr to : Int) (p q : List Nd) : List Nd := if isB q 1 || neverB fr to then [ff] else if fr == 0 && to == 0 then q else if isB p 1 && fr == 0 then q else if isB p 1 then [ff] else mkL 10 fr to [p, q]
theorem is_nds {W : World} {a : Option Addr} {cap : Nat} {ys : List NdV} (h : NdsAt W a cap ys) (op : Int) (X : World) (hX : Below W.heap.size W X) :
    Calls Try.prog 38 #[.slice a ys.length cap, .int .i64 op] X fun e W' => e = .returned (.bool (isB (ys.map (·.x)) op)) ∧ W' = X := by
  have := is_any a cap (ys.map (·.x)) op X (h.below hX).nodes
  rw [List.length_map] at this; exact this
theorem isB_pos {ys : List NdV} {op : Int} (h : isB (ys.map (·.x)) op = true) : 0 < ys.length := by
  cases ys with
  | nil => simp [isB] at h
  | cons y ys => simp
theorem lss_one {X : World} {a : Option Addr} {cap : Nat} {ys : List NdV} (h : NdsAt X a cap ys) : LssAt (X.alloc (.cells #[.slice a ys.length cap] 28)) (some ⟨X.heap.size, 0, none⟩) 1 [⟨ys, a, cap⟩] :=
  ⟨fun i hi => by
    obtain rfl : i = 0 := by simpa using hi
    exact ⟨X.heap.size, 0, rfl, fun j hj => by obtain rfl : j = 0 := by omega
                                               simp [go_sem, lsC]⟩, (fun e => by cases e), Nat.le_refl _, by simp, fun y hy => by simp only [List.mem_singleton] at hy; subst hy; exact h.below ((Below.refl _ _).alloc (Nat.le_refl _) _)⟩
theorem lss_two {X : World} {a b : Option Addr} {ca cb : Nat} {ys zs : List NdV} (h : NdsAt X a ca ys) (k : NdsAt X b cb zs) : LssAt (X.alloc (.cells #[.slice a ys.length ca, .slice b zs.length cb] 28)) (some ⟨X.heap.size, 0, none⟩) 2 [⟨ys, a, ca⟩, ⟨zs, b, cb⟩] :=
  ⟨fun i hi => by
    have hi2 : i = 0 ∨ i = 1 := by simp at hi; omega
    refine ⟨X.heap.size, 0, rfl, fun j hj => ?_⟩
    obtain rfl : j = 0 := by omega
    rcases hi2 with rfl | rfl <;> simp [go_sem, lsC], (fun e => by cases e), Nat.le_refl _, by simp, fun y hy => by
    have hb : Below X.heap.size X (X.alloc (.cells #[.slice a ys.length ca, .slice b zs.length cb] 28)) := (Below.refl _ _).alloc (Nat.le_refl _) _
    simp only [List.mem_cons, List.not_mem_nil, or_false] at hy
    rcases hy with rfl | rfl
    · exact h.below hb
    · exact k.below hb⟩
theorem flat_nds (L : List LsV) : (flat L).map (·.x) = (L.map LsV.nds).flatten := by
  induction L with
  | nil => rfl
  | cons y L ih => unfold flat at *; simp [LsV.nds, ih]
/-- Make of an Op with an interval, and lists whose row was just laid. -/
theorem make_op {W X : World} (hX : Below W.heap.size W X) (op fr to : Int) (a : Option Addr) (cap : Nat) (L : List LsV) (h : LssAt X a cap L) (ht : tot L ≤ 549755813888) (hl : L.length ≤ 549755813888) :
    Calls Try.prog 41 #[.agg #[.int .i64 op, .int .i64 0, .int .i64 fr, .int .i64 to, .slice none 0 0, .int .i64 0], .slice a L.length cap] X (Makes W (mkL op fr to (L.map LsV.nds))) := by
  have := make_any ⟨⟨op, 0, fr, to, [], 0⟩, none, 0⟩ a cap L X ⟨fun i hi => by simp at hi, fun _ => rfl, Nat.le_refl _, by simp⟩ h ht hl
  refine this.mono ?_
  rintro e W' ⟨v, zs, rfl, z1, z2, z3⟩
  refine ⟨v, zs, rfl, z1.lower hX.size, ?_, hX.trans (z3.mono hX.size)⟩
  rw [z2]
  unfold mkL
  rw [List.length_map, flat_nds]
theorem join_makes {W X : World} (hX : Below W.heap.size W X) (a : Option Addr) (cap : Nat) (ys : List NdV) (h : NdsAt X a cap ys) :
    Calls Try.prog 30 #[.slice (some ⟨X.heap.size, 0, none⟩) 1 1] (X.alloc (.cells #[.slice a ys.length cap] 28)) (Makes W (ys.map (·.x))) := by
  refine (join_one a cap ys X h).mono ?_
  rintro e W' ⟨v, zs, rfl, z1, z2, z3⟩
  exact ⟨v, zs, rfl, z1.lower hX.size, z2, hX.trans (z3.mono hX.size)⟩
theorem yes_makes {W X : World} (hX : Below W.heap.size W X) : Calls Try.prog 39 #[] X (Makes W [tt]) := by
  refine (yes_any X).mono ?_
  rintro e W' ⟨v, zs, rfl, z1, z2, z3⟩
  exact ⟨v, zs, rfl, z1.lower hX.size, z2, hX.trans (z3.mono hX.size)⟩
theorem no_makes {W X : World} (hX : Below W.heap.size W X) : Calls Try.prog 40 #[] X (Makes W [ff]) := by
  refine (no_any X).mono ?_
  rintro e W' ⟨v, zs, rfl, z1, z2, z3⟩
  exact ⟨v, zs, rfl, z1.lower hX.size, z2, hX.trans (z3.mono hX.size)⟩
theorem Makes.ret {W W' : World} {l : List Nd} {e : Ending} (h : Makes W l e W') : ∃ v, e = .returned v ∧ Makes W l (.returned v) W' := by
  obtain ⟨v, zs, rfl, h2⟩ := h
  exact ⟨v, rfl, v, zs, rfl, h2⟩
set_option maxHeartbeats 2000000 in
theorem not_any (a : Option Addr) (cap : Nat) (ys : List NdV) (W : World) (h : NdsAt W a cap ys) (hl : ys.length ≤ 274877906944) :
    Calls Try.prog 19 #[.slice a ys.length cap] W (Makes W (notL (ys.map (·.x)))) := by
  have HI : Hid (∀ op, Calls Try.prog 38 #[.slice a ys.length cap, .int .i64 op] W fun e W' => e = .returned (.bool (isB (ys.map (·.x)) op)) ∧ W' = W) := fun op => is_nds h op W (Below.refl _ _)
  have i1 := HI.out 1
  have HE : Hid (notL (ys.map (·.x)) = if isB (ys.map (·.x)) 1 then [tt] else if isB (ys.map (·.x)) 0 then [ff] else if isB (ys.map (·.x)) 3 then (ys.map (·.x)).drop 1 else mkL 3 0 0 [ys.map (·.x)]) := rfl
  cases h1 : isB (ys.map (·.x)) 1 with
  | true =>
    rw [h1] at i1 HE
    have HE2 : Hid (notL (ys.map (·.x)) = [tt]) := HE.out
    clear h h1 HI HE
    go_enter Try.func19, Try.ntmps19
    go_wp2_with fail
    refine Calls.mono (i1) ?_
    rintro e W1 ⟨rfl, hw⟩
    subst W1
    go_wp2_with fail
    refine Calls.mono (yes_makes (Below.refl _ _)) ?_
    intro e W2 hm
    obtain ⟨v, rfl, hm⟩ := hm.ret
    have HM : Hid (Makes W _ (.returned v) W2) := hm
    clear hm
    go_wp2
    go_ret
    rw [HE2.out]
    exact HM.out
  | false =>
    have i0 := HI.out 0
    rw [h1] at i1 HE
    cases h0 : isB (ys.map (·.x)) 0 with
    | true =>
      rw [h0] at i0 HE
      have HE2 : Hid (notL (ys.map (·.x)) = [ff]) := HE.out
      clear h h1 h0 HI HE
      go_enter Try.func19, Try.ntmps19
      go_wp2_with fail
      refine Calls.mono (i1) ?_
      rintro e W1 ⟨rfl, hw⟩
      subst W1
      go_wp2_with fail
      refine Calls.mono (i0) ?_
      rintro e W1 ⟨rfl, hw⟩
      subst W1
      go_wp2_with fail
      refine Calls.mono (no_makes (Below.refl _ _)) ?_
      intro e W2 hm
      obtain ⟨v, rfl, hm⟩ := hm.ret
      have HM : Hid (Makes W _ (.returned v) W2) := hm
      clear hm
      go_wp2
      go_ret
      rw [HE2.out]
      exact HM.out
    | false =>
      have i3 := HI.out 3
      rw [h0] at i0 HE
      cases h3 : isB (ys.map (·.x)) 3 with
      | true =>
        have hpos := isB_pos h3
        rw [h3] at i3 HE
        obtain ⟨a2, hd2, hn2⟩ := nds_drop h 1 (by omega)
        have hd : ∀ X, (Instr.slice 28 (.slice a ys.length cap) (some (.int .i64 1)) none none).run Try.prog X = .ok (.slice a2 (ys.length - 1) (cap - 1)) X := hd2
        have hj := join_makes (Below.refl _ _) a2 (cap - 1) (ys.drop 1) hn2
        rw [List.length_drop] at hj
        have HJ : Hid (Calls Try.prog 30 #[.slice (some ⟨W.heap.size, 0, none⟩) 1 1] (W.alloc (.cells #[.slice a2 (ys.length - 1) (cap - 1)] 28)) (Makes W ((ys.drop 1).map (·.x)))) := hj
        have HE2 : Hid (notL (ys.map (·.x)) = (ys.drop 1).map (·.x)) := by show _ = _; rw [HE.out, List.map_drop]; rfl
        clear h h1 h0 h3 HI HE hj hd2 hn2
        go_enter Try.func19, Try.ntmps19
        go_wp2_with fail
        refine Calls.mono (i1) ?_
        rintro e W1 ⟨rfl, hw⟩
        subst W1
        go_wp2_with fail
        refine Calls.mono (i0) ?_
        rintro e W1 ⟨rfl, hw⟩
        subst W1
        go_wp2_with fail
        refine Calls.mono (i3) ?_
        rintro e W1 ⟨rfl, hw⟩
        subst W1
        go_wp2_with fail
        refine Calls.mono (HJ.out) ?_
        intro e W2 hm
        obtain ⟨v, rfl, hm⟩ := hm.ret
        have HM : Hid (Makes W _ (.returned v) W2) := hm
        clear hm
        go_wp2
        go_ret
        rw [HE2.out]
        exact HM.out
      | false =>
        rw [h3] at i3 HE
        have hk := make_op ((Below.refl W.heap.size W).alloc (Nat.le_refl _) _) 3 0 0 (some ⟨W.heap.size, 0, none⟩) 1 _ (lss_one h) (by simp [tot]; omega) (by simp)
        have HK : Hid _ := hk
        have HE2 : Hid (notL (ys.map (·.x)) = mkL 3 0 0 [ys.map (·.x)]) := HE.out
        clear h h1 h0 h3 HI HE hk
        go_enter Try.func19, Try.ntmps19
        go_wp2_with fail
        refine Calls.mono (i1) ?_
        rintro e W1 ⟨rfl, hw⟩
        subst W1
        go_wp2_with fail
        refine Calls.mono (i0) ?_
        rintro e W1 ⟨rfl, hw⟩
        subst W1
        go_wp2_with fail
        refine Calls.mono (i3) ?_
        rintro e W1 ⟨rfl, hw⟩
        subst W1
        go_wp2_with fail
        refine Calls.mono (HK.out) ?_
        intro e W2 hm
        obtain ⟨v, rfl, hm⟩ := hm.ret
        have HM : Hid (Makes W _ (.returned v) W2) := hm
        clear hm
        go_wp2
        go_ret
        rw [HE2.out]
        exact HM.out
set_option maxHeartbeats 2000000 in
theorem prev_any (a : Option Addr) (cap : Nat) (ys : List NdV) (W : World) (h : NdsAt W a cap ys) (hl : ys.length ≤ 274877906944) :
    Calls Try.prog 35 #[.slice a ys.length cap] W (Makes W (prevL (ys.map (·.x)))) := by
  have HI : Hid (∀ op, Calls Try.prog 38 #[.slice a ys.length cap, .int .i64 op] W fun e W' => e = .returned (.bool (isB (ys.map (·.x)) op)) ∧ W' = W) := fun op => is_nds h op W (Below.refl _ _)
  have i1 := HI.out 1
  have HE : Hid (prevL (ys.map (·.x)) = if isB (ys.map (·.x)) 1 then [ff] else mkL 7 0 0 [ys.map (·.x)]) := rfl
  cases h1 : isB (ys.map (·.x)) 1 with
  | true =>
    rw [h1] at i1 HE
    have HE2 : Hid (prevL (ys.map (·.x)) = [ff]) := HE.out
    clear h h1 HI HE
    go_enter Try.func35, Try.ntmps35
    go_wp2_with fail
    refine Calls.mono (i1) ?_
    rintro e W1 ⟨rfl, hw⟩
    subst W1
    go_wp2_with fail
    refine Calls.mono (no_makes (Below.refl _ _)) ?_
    intro e W2 hm
    obtain ⟨v, rfl, hm⟩ := hm.ret
    have HM : Hid (Makes W _ (.returned v) W2) := hm
    clear hm
    go_wp2
    go_ret
    rw [HE2.out]
    exact HM.out
  | false =>
    rw [h1] at i1 HE
    have hk := make_op ((Below.refl W.heap.size W).alloc (Nat.le_refl _) _) 7 0 0 (some ⟨W.heap.size, 0, none⟩) 1 _ (lss_one h) (by simp [tot]; omega) (by simp)
    have HK : Hid _ := hk
    have HE2 : Hid (prevL (ys.map (·.x)) = mkL 7 0 0 [ys.map (·.x)]) := HE.out
    clear h h1 HI HE hk
    go_enter Try.func35, Try.ntmps35
    go_wp2_with fail
    refine Calls.mono (i1) ?_
    rintro e W1 ⟨rfl, hw⟩
    subst W1
    go_wp2_with fail
    refine Calls.mono (HK.out) ?_
    intro e W2 hm
    obtain ⟨v, rfl, hm⟩ := hm.ret
    have HM : Hid (Makes W _ (.returned v) W2) := hm
    clear hm
    go_wp2
    go_ret
    rw [HE2.out]
    exact HM.out
set_option maxHeartbeats 4000000 in
theorem since_any (fr to : Int) (a b : Option Addr) (ca cb : Nat) (ys zs : List NdV) (W : World) (h : NdsAt W a ca ys) (k : NdsAt W b cb zs) (hl : ys.length ≤ 137438953472) (hm : zs.length ≤ 137438953472) :
    Calls Try.prog 21 #[.int .i64 fr, .int .i64 to, .slice a ys.length ca, .slice b zs.length cb] W (Makes W (sinceL fr to (ys.map (·.x)) (zs.map (·.x)))) := by
  have iq := is_nds k 1 W (Below.refl _ _)
  have ip := is_nds h 1 W (Below.refl _ _)
  have iv := never_any fr to W
  have hj := join_makes (Below.refl _ _) b cb zs k
  have HJ : Hid _ := hj
  have hk := make_op ((Below.refl W.heap.size W).alloc (Nat.le_refl _) _) 10 fr to (some ⟨W.heap.size, 0, none⟩) 2 _ (lss_two h k) (by simp [tot]; omega) (by simp)
  have HK : Hid (Calls Try.prog 41 #[.agg #[.int .i64 10, .int .i64 0, .int .i64 fr, .int .i64 to, .slice none 0 0, .int .i64 0], .slice (some ⟨W.heap.size, 0, none⟩) 2 2] (W.alloc (.cells #[.slice a ys.length ca, .slice b zs.length cb] 28)) (Makes W (mkL 10 fr to [ys.map (·.x), zs.map (·.x)]))) := hk
  have HE : Hid (sinceL fr to (ys.map (·.x)) (zs.map (·.x)) = if isB (zs.map (·.x)) 1 || neverB fr to then [ff] else if fr == 0 && to == 0 then zs.map (·.x) else if isB (ys.map (·.x)) 1 && fr == 0 then zs.map (·.x) else if isB (ys.map (·.x)) 1 then [ff] else mkL 10 fr to [ys.map (·.x), zs.map (·.x)]) := rfl
  clear h k hj hk
  generalize sinceL fr to (ys.map (·.x)) (zs.map (·.x)) = res at *
  generalize isB (zs.map (·.x)) 1 = bq at *
  generalize isB (ys.map (·.x)) 1 = bp at *
  generalize neverB fr to = bv at *
  cases bq with
  | true =>
    have HE2 : Hid (res = [ff]) := by show _ = _; rw [HE.out]; simp
    clear HE HJ HK
    go_enter Try.func21, Try.ntmps21
    go_wp2_with fail
    refine Calls.mono (iq) ?_
    rintro e W1 ⟨rfl, hw⟩
    subst W1
    go_wp2_with fail
    refine Calls.mono (no_makes (Below.refl _ _)) ?_
    intro e W2 hm
    obtain ⟨v, rfl, hm⟩ := hm.ret
    have HM : Hid (Makes W _ (.returned v) W2) := hm
    clear hm
    go_wp2
    go_ret
    rw [HE2.out]
    exact HM.out
  | false =>
    cases bv with
    | true =>
      have HE2 : Hid (res = [ff]) := by show _ = _; rw [HE.out]; simp
      clear HE HJ HK
      go_enter Try.func21, Try.ntmps21
      go_wp2_with fail
      refine Calls.mono (iq) ?_
      rintro e W1 ⟨rfl, hw⟩
      subst W1
      go_wp2_with fail
      refine Calls.mono (iv) ?_
      rintro e W1 ⟨rfl, hw⟩
      subst W1
      go_wp2_with fail
      refine Calls.mono (no_makes (Below.refl _ _)) ?_
      intro e W2 hm
      obtain ⟨v, rfl, hm⟩ := hm.ret
      have HM : Hid (Makes W _ (.returned v) W2) := hm
      clear hm
      go_wp2
      go_ret
      rw [HE2.out]
      exact HM.out
    | false =>
      cases hf : (fr == 0) with
      | true =>
        cases ht : (to == 0) with
        | true =>
          have HE2 : Hid (res = zs.map (·.x)) := by show _ = _; rw [HE.out]; simp [hf, ht]
          clear HE HK
          go_enter Try.func21, Try.ntmps21
          go_wp2_with fail
          refine Calls.mono (iq) ?_
          rintro e W1 ⟨rfl, hw⟩
          subst W1
          go_wp2_with fail
          refine Calls.mono (iv) ?_
          rintro e W1 ⟨rfl, hw⟩
          subst W1
          go_wp2_with fail
          refine Calls.mono (HJ.out) ?_
          intro e W2 hm
          obtain ⟨v, rfl, hm⟩ := hm.ret
          have HM : Hid (Makes W _ (.returned v) W2) := hm
          clear hm
          go_wp2
          go_ret
          rw [HE2.out]
          exact HM.out
        | false =>
          cases bp with
          | true =>
            have HE2 : Hid (res = zs.map (·.x)) := by show _ = _; rw [HE.out]; simp [hf, ht]
            clear HE HK
            go_enter Try.func21, Try.ntmps21
            go_wp2_with fail
            refine Calls.mono (iq) ?_
            rintro e W1 ⟨rfl, hw⟩
            subst W1
            go_wp2_with fail
            refine Calls.mono (iv) ?_
            rintro e W1 ⟨rfl, hw⟩
            subst W1
            go_wp2_with fail
            refine Calls.mono (ip) ?_
            rintro e W1 ⟨rfl, hw⟩
            subst W1
            go_wp2_with fail
            refine Calls.mono (HJ.out) ?_
            intro e W2 hm
            obtain ⟨v, rfl, hm⟩ := hm.ret
            have HM : Hid (Makes W _ (.returned v) W2) := hm
            clear hm
            go_wp2
            go_ret
            rw [HE2.out]
            exact HM.out
          | false =>
            have HE2 : Hid (res = mkL 10 fr to [ys.map (·.x), zs.map (·.x)]) := by show _ = _; rw [HE.out]; simp [hf, ht]
            clear HE HJ
            go_enter Try.func21, Try.ntmps21
            go_wp2_with fail
            refine Calls.mono (iq) ?_
            rintro e W1 ⟨rfl, hw⟩
            subst W1
            go_wp2_with fail
            refine Calls.mono (iv) ?_
            rintro e W1 ⟨rfl, hw⟩
            subst W1
            go_wp2_with fail
            refine Calls.mono (ip) ?_
            rintro e W1 ⟨rfl, hw⟩
            subst W1
            go_wp2_with fail
            refine Calls.mono (ip) ?_
            rintro e W1 ⟨rfl, hw⟩
            subst W1
            go_wp2_with fail
            refine Calls.mono (HK.out) ?_
            intro e W2 hm
            obtain ⟨v, rfl, hm⟩ := hm.ret
            have HM : Hid (Makes W _ (.returned v) W2) := hm
            clear hm
            go_wp2
            go_ret
            rw [HE2.out]
            exact HM.out
      | false =>
        cases bp with
        | true =>
          have HE2 : Hid (res = [ff]) := by show _ = _; rw [HE.out]; simp [hf]
          clear HE HJ HK
          go_enter Try.func21, Try.ntmps21
          go_wp2_with fail
          refine Calls.mono (iq) ?_
          rintro e W1 ⟨rfl, hw⟩
          subst W1
          go_wp2_with fail
          refine Calls.mono (iv) ?_
          rintro e W1 ⟨rfl, hw⟩
          subst W1
          go_wp2_with fail
          refine Calls.mono (ip) ?_
          rintro e W1 ⟨rfl, hw⟩
          subst W1
          go_wp2_with fail
          refine Calls.mono (ip) ?_
          rintro e W1 ⟨rfl, hw⟩
          subst W1
          go_wp2_with fail
          refine Calls.mono (no_makes (Below.refl _ _)) ?_
          intro e W2 hm
          obtain ⟨v, rfl, hm⟩ := hm.ret
          have HM : Hid (Makes W _ (.returned v) W2) := hm
          clear hm
          go_wp2
          go_ret
          rw [HE2.out]
          exact HM.out
        | false =>
          have HE2 : Hid (res = mkL 10 fr to [ys.map (·.x), zs.map (·.x)]) := by show _ = _; rw [HE.out]; simp [hf]
          clear HE HJ
          go_enter Try.func21, Try.ntmps21
          go_wp2_with fail
          refine Calls.mono (iq) ?_
          rintro e W1 ⟨rfl, hw⟩
          subst W1
          go_wp2_with fail
          refine Calls.mono (iv) ?_
          rintro e W1 ⟨rfl, hw⟩
          subst W1
          go_wp2_with fail
          refine Calls.mono (ip) ?_
          rintro e W1 ⟨rfl, hw⟩
          subst W1
          go_wp2_with fail
          refine Calls.mono (ip) ?_
          rintro e W1 ⟨rfl, hw⟩
          subst W1
          go_wp2_with fail
          refine Calls.mono (HK.out) ?_
          intro e W2 hm
          obtain ⟨v, rfl, hm⟩ := hm.ret
          have HM : Hid (Makes W _ (.returned v) W2) := hm
          clear hm
          go_wp2
          go_ret
          rw [HE2.out]
          exact HM.out
end Go.Proofs.Ytpgdkgilmcipkaa
namespace Go.Proofs.Ytpgdkgilmcipkaa
open Go.RowKit
set_option linter.unusedVariables false
set_option maxRecDepth 100000

def mixV (m v : Int) : Int := IntKind.u64.wrap (IntKind.u64.wrap (bits BinOp.xor IntKind.u64 m (m / 4294967296) * 11400714819323198485) + IntKind.u64.wrap v)
def mixL (m : Int) (vs : List Int) : Int := vs.foldl mixV m
theorem foldl_take {X Y : Type} (f : Y → X → Y) (d : X) (m : Y) (l : List X) (k : Nat) (hk : k < l.length) : (l.take (k + 1)).foldl f m = f ((l.take k).foldl f m) (l.getD k d) := by
  rw [take_getD d l k hk, List.foldl_append]; rfl
/-- The cell of a mark, in a world that grew from W. -/
structure MarkAt (W : World) (g : Nat) (wr : World) (m : Int) : Prop where
  bel : Below W.heap.size W wr
  le : W.heap.size ≤ g
  cell : wr.cell? ⟨g, 0, none⟩ = some (.int .u64 m)
  frz : wr.frozen? ⟨g, 0, none⟩ = false
theorem MarkAt.below {W wr wr' : World} {g : Nat} {m : Int} (h : MarkAt W g wr m) (k : Below wr.heap.size wr wr') : MarkAt W g wr' m :=
  ⟨h.bel.trans (k.mono h.bel.size), h.le, cell_up k h.cell, by rw [k.frozen (p := ⟨g, 0, none⟩) (World.block_lt_of_cell? wr _ h.cell)]; exact h.frz⟩
/-- What a mix leaves. -/
def Mixed (W : World) (g : Nat) (W' : World) (m : Int) : Prop := Mod [g] W W' ∧ W'.cell? ⟨g, 0, none⟩ = some (.int .u64 m) ∧ W'.frozen? ⟨g, 0, none⟩ = false
theorem MarkAt.mixed {W wr wr' : World} {g : Nat} {m m' : Int} (h : MarkAt W g wr m) (k : Mixed wr g wr' m') : MarkAt W g wr' m' :=
  ⟨h.bel.trans (k.1.belowOf h.bel.size (by simpa using h.le)), h.le, k.2.1, k.2.2⟩
set_option maxHeartbeats 2000000 in
theorem mix_any (g : Nat) (a : Option Addr) (cap : Nat) (vs : List Int) (m0 : Int) (W : World) (h : IntRow W a vs) (hg : W.cell? ⟨g, 0, none⟩ = some (.int .u64 m0)) (hf : W.frozen? ⟨g, 0, none⟩ = false) (hl : vs.length ≤ 9223372036854775807) (ha : ∀ x, a = some x → x.block ≠ g) :
    Calls Try.prog 77 #[.slice a vs.length cap, .pointer (some ⟨g, 0, none⟩)] W fun e W' => e = .returned (.tuple #[]) ∧ Mixed W g W' (mixL m0 vs) := by
  have HR : Hid (IntRow W a vs) := h
  clear h
  go_enter Try.func77, Try.ntmps77
  go_wp2
  go_loopw [7] (fun i wr => ∃ k : Nat, k ≤ vs.length ∧ i = .int .i64 k ∧ Mixed W g wr ((vs.take k).foldl mixV m0)) (fun i _ => vs.length - (intOf i).toNat)
  case atStart => exact ⟨0, Nat.zero_le _, rfl, Mod.refl _ _, hg, hf⟩
  case round =>
    obtain ⟨k, hk, rfl, hm, hc, hfz⟩ := hrel
    have HM : Hid (Mod [g] W wr) := hm
    by_cases hlt : k < vs.length
    · obtain ⟨b, off, rfl, h0⟩ := HR.out k hlt
      have h1 := hm.cell h0 (by have := ha _ rfl; simpa using this)
      have HF : Hid ((vs.take (k + 1)).foldl mixV m0 = mixV ((vs.take k).foldl mixV m0) (vs.getD k 0)) := foldl_take mixV 0 m0 vs k hlt
      clear h0 hm
      generalize (vs.take k).foldl mixV m0 = m at *
      generalize vs.getD k 0 = v at *
      have HZ : Hid (Mixed W g (wr.setCell ⟨g, 0, none⟩ (.int .u64 (mixV m v))) (mixV m v)) := ⟨HM.out.setCell g 0 _ (by simp), World.cell?_setCell_same _ _ _ hc, by simpa using hfz⟩
      go_wp2
      go_roundw
      case rel => exact ⟨k + 1, by omega, by go_num, by rw [HF.out]; exact HZ.out⟩
      case measure => simp [intOf]; omega
    · have hkk : k = vs.length := by omega
      have HZ : Hid (Mixed W g wr (mixL m0 vs)) := by
        have := hc
        rw [hkk, List.take_length] at this
        exact ⟨HM.out, this, hfz⟩
      clear hkk
      go_wp2
      first | go_end0 | refine bodyPost_ret (results_none rfl _ _ _) rfl ?_
      exact ⟨rfl, HZ.out⟩
end Go.Proofs.Ytpgdkgilmcipkaa
namespace Go.Proofs.Ytpgdkgilmcipkaa
open Go.RowKit
set_option linter.unusedVariables false
set_option maxRecDepth 100000

def bytesI (s : ByteArray) : List Int := s.data.toList.map fun b => (b.toNat : Int)
def mixT (m : Int) (t : Tm) : Int := (bytesI t.name).foldl (fun m b => mixL m [b]) (mixL m [t.times])
def mixN (m : Int) (x : Nd) : Int := x.terms.foldl mixT (mixL m [x.op, x.n, x.fr, x.to, x.num])
def markL (l : List Nd) : Int := l.foldl mixN 0
theorem IntRow.lit (Y : World) (vs : List Int) : IntRow (Y.alloc (.cells (vs.map (Value.int .i64)).toArray 3)) (some ⟨Y.heap.size, 0, none⟩) vs := by
  intro i hi
  refine ⟨Y.heap.size, 0, rfl, ?_⟩
  simp [go_sem, List.getD_eq_getElem?_getD, hi]
theorem conv_bytes (s : ByteArray) (W : World) : ∃ G W', (convert 9 118 (.string s)).run Try.prog W = .ok (.slice (some ⟨W.heap.size, 0, none⟩) s.size G) W' ∧ Below W.heap.size W W' ∧ W.heap.size < W'.heap.size ∧ ∀ j, j < s.size → W'.cell? ⟨W.heap.size, j, none⟩ = some (.int .u8 ((bytesI s).getD j 0)) := by
  refine ⟨_, _, Lib.run_convert_string_bytes W _ _ _ s Try.underlying9 Try.underlying118 Try.underlying5, ⟨rfl, rfl, rfl, by rw [Lib.bytesWorld_size]; omega, fun k hk => Lib.bytesWorld_at_old W _ s k hk⟩, by rw [Lib.bytesWorld_size]; omega, fun j hj => ?_⟩
  rw [Lib.bytesWorld_cell W _ s j hj]
  unfold bytesI
  have hj2 : j < s.data.toList.length := by simpa using hj
  rw [List.getD_eq_getElem?_getD, List.getD_eq_getElem?_getD, List.getElem?_map]
  cases s.data.toList[j]? <;> rfl
theorem bytesI_len (s : ByteArray) : (bytesI s).length = s.size := by unfold bytesI; rw [List.length_map, Array.length_toList]; rfl
theorem bytesI_in (s : ByteArray) (k : Nat) : 0 ≤ (bytesI s).getD k 0 ∧ (bytesI s).getD k 0 ≤ 255 := by
  unfold bytesI
  by_cases h : k < s.data.toList.length
  · rw [List.getD_eq_getElem?_getD, List.getElem?_map, List.getElem?_eq_getElem h, Option.map_some, Option.getD_some]
    have := s.data.toList[k].toNat_lt; omega
  · rw [List.getD_eq_getElem?_getD, List.getElem?_map, List.getElem?_eq_none (by omega)]; simp
theorem mix_lit (W Y : World) (g : Nat) (m : Int) (vs : List Int) (cs : Array Value) (n : Nat) (h : MarkAt W g Y m) (hcs : cs = (vs.map (Value.int .i64)).toArray) (hn : n = vs.length) (hl : vs.length ≤ 1000) :
    Calls Try.prog 77 #[.slice (some ⟨Y.heap.size, 0, none⟩) n n, .pointer (some ⟨g, 0, none⟩)] (Y.alloc (.cells cs 3)) fun e W' => e = .returned (.tuple #[]) ∧ MarkAt W g W' (mixL m vs) ∧ Mod [g] Y W' := by
  subst hcs hn
  have hb : Below Y.heap.size Y (Y.alloc (.cells (vs.map (Value.int .i64)).toArray 3)) := (Below.refl _ _).alloc (Nat.le_refl _) _
  have h2 := h.below hb
  have hg : g < Y.heap.size := World.block_lt_of_cell? Y _ h.cell
  refine (mix_any g (some ⟨Y.heap.size, 0, none⟩) vs.length vs m _ (IntRow.lit Y vs) h2.cell h2.frz (by omega) (fun x hx => by cases hx; show Y.heap.size ≠ g; omega)).mono ?_
  rintro e W' ⟨rfl, hm⟩
  exact ⟨rfl, h2.mixed hm, (Mod.of_below hb).trans hm.1⟩
set_option maxHeartbeats 16000000 in
theorem mark_any (a : Option Addr) (cap : Nat) (l : List Nd) (W : World) (h : NodeRow W a l) (hl : l.length ≤ 4611686018427387904) (hf : FewT l) (hn : ∀ x ∈ l, ∀ t ∈ x.terms, t.name.size ≤ 1099511627776) :
    Calls Try.prog 64 #[.slice a l.length cap] W fun e W' => e = .returned (.int .u64 (markL l)) ∧ Below W.heap.size W W' := by
  have HR : Hid (NodeRow W a l) := h
  have HM0 : Hid (MarkAt W W.heap.size (W.alloc (.cells #[.int .u64 0] 100)) 0) := ⟨(Below.refl _ _).alloc (Nat.le_refl _) _, Nat.le_refl _, by simp [go_sem], by simp [go_sem]⟩
  clear h
  go_enter Try.func64, Try.ntmps64
  go_wp2
  go_loopw [14] (fun i wr => ∃ k : Nat, k ≤ l.length ∧ i = .int .i64 k ∧ MarkAt W W.heap.size wr ((l.take k).foldl mixN 0)) (fun i _ => l.length - (intOf i).toNat)
  case atStart => exact ⟨0, Nat.zero_le _, rfl, HM0.out⟩
  case round =>
    obtain ⟨k, hk, rfl, hm⟩ := hrel
    have HM : Hid (MarkAt W W.heap.size wr ((l.take k).foldl mixN 0)) := hm
    clear hm
    by_cases hlt : k < l.length
    · obtain ⟨b, off, rfl, n0, n1, n2, n3, ⟨ta, tc, n4, ht⟩, n5⟩ := HR.out k hlt
      replace n0 := cell_up HM.out.bel n0
      replace n1 := cell_up HM.out.bel n1
      replace n2 := cell_up HM.out.bel n2
      replace n3 := cell_up HM.out.bel n3
      replace n4 := cell_up HM.out.bel n4
      replace n5 := cell_up HM.out.bel n5
      have hb : b < wr.heap.size := World.block_lt_of_cell? wr _ n0
      have hb2 : b ≠ wr.heap.size := by omega
      have HF : Hid ((l.take (k + 1)).foldl mixN 0 = mixN ((l.take k).foldl mixN 0) (l.getD k nd0)) := foldl_take mixN nd0 0 l k hlt
      have HXN : Hid (mixN ((l.take k).foldl mixN 0) (l.getD k nd0) = (l.getD k nd0).terms.foldl mixT (mixL ((l.take k).foldl mixN 0) [(l.getD k nd0).op, (l.getD k nd0).n, (l.getD k nd0).fr, (l.getD k nd0).to, (l.getD k nd0).num])) := rfl
      have HTR : Hid (TermRow W ta (l.getD k nd0).terms) := ht
      have hfew := hf _ (getD_mem nd0 hlt)
      have HNM : Hid (∀ t ∈ (l.getD k nd0).terms, t.name.size ≤ 1099511627776) := hn _ (getD_mem nd0 hlt)
      clear ht
      generalize (l.take k).foldl mixN 0 = m at *
      generalize l.getD k nd0 = x at *
      obtain ⟨op, xn, fr, to, ts, num⟩ := x
      simp only at n0 n1 n2 n3 n4 n5 HTR HXN hfew HNM
      have hgl : W.heap.size < wr.heap.size := World.block_lt_of_cell? wr _ HM.out.cell
      have HM1 : Hid (MarkAt W W.heap.size (wr.alloc (.cells #[.int .i64 op, .int .i64 xn, .int .i64 fr, .int .i64 to, .slice ta ts.length tc, .int .i64 num] 37)) m) := HM.out.below ((Below.refl _ _).alloc (Nat.le_refl _) _)
      have hmx := mix_lit W _ W.heap.size m [op, xn, fr, to, num] #[.int .i64 op, .int .i64 xn, .int .i64 fr, .int .i64 to, .int .i64 num] 5 HM1.out rfl rfl (by simp)
      have hs1 : (wr.alloc (.cells #[.int .i64 op, .int .i64 xn, .int .i64 fr, .int .i64 to, .slice ta ts.length tc, .int .i64 num] 37)).heap.size = wr.heap.size + 1 := by simp
      rw [hs1] at hmx
      go_wp2_with fail
      refine Calls.mono hmx ?_
      rintro e W3 ⟨rfl, hm3, hmod3⟩
      have HM3 : Hid (MarkAt W W.heap.size W3 (mixL m [op, xn, fr, to, num])) := hm3
      have HMD3 : Hid (Mod [W.heap.size] (wr.alloc (.cells #[.int .i64 op, .int .i64 xn, .int .i64 fr, .int .i64 to, .slice ta ts.length tc, .int .i64 num] 37)) W3) := hmod3
      have q4 : W3.cell? ⟨wr.heap.size, 4, none⟩ = some (.slice ta ts.length tc) := HMD3.out.cell (by simp [go_sem]) (by simp; omega)
      clear hm3 hmod3 hmx hs1 n0 n1 n2 n3 n4 n5
      generalize mixL m [op, xn, fr, to, num] = m1 at *
      go_wp2
      go_loopw [34] (fun i wr => ∃ k2 : Nat, k2 ≤ ts.length ∧ i = .int .i64 k2 ∧ MarkAt W W.heap.size wr ((ts.take k2).foldl mixT m1)) (fun i _ => ts.length - (intOf i).toNat)
      case atStart => exact ⟨0, Nat.zero_le _, rfl, HM3.out⟩
      case round =>
        obtain ⟨k2, hk2, rfl, hm2⟩ := hrel
        have HN2 : Hid (MarkAt W W.heap.size wr ((ts.take k2).foldl mixT m1)) := hm2
        clear hm2
        by_cases hlt2 : k2 < ts.length
        · obtain ⟨tb, toff, rfl, t0, t1⟩ := HTR.out k2 hlt2
          replace t0 := cell_up HN2.out.bel t0
          replace t1 := cell_up HN2.out.bel t1
          have htb : tb < wr.heap.size := World.block_lt_of_cell? wr _ t0
          have htb2 : tb ≠ wr.heap.size := by omega
          have HF2 : Hid ((ts.take (k2 + 1)).foldl mixT m1 = mixT ((ts.take k2).foldl mixT m1) (ts.getD k2 tm0)) := foldl_take mixT tm0 m1 ts k2 hlt2
          have hnm := HNM.out _ (getD_mem tm0 hlt2)
          have HXT : Hid (mixT ((ts.take k2).foldl mixT m1) (ts.getD k2 tm0) = (bytesI (ts.getD k2 tm0).name).foldl (fun m b => mixL m [b]) (mixL ((ts.take k2).foldl mixT m1) [(ts.getD k2 tm0).times])) := rfl
          generalize (ts.take k2).foldl mixT m1 = m2 at *
          generalize ts.getD k2 tm0 = t at *
          obtain ⟨tn, tv⟩ := t
          simp only at t0 t1 hnm HXT
          have hgl2 : W.heap.size < wr.heap.size := World.block_lt_of_cell? wr _ HN2.out.cell
          have HN3 : Hid (MarkAt W W.heap.size (wr.alloc (.cells #[.string tn, .int .i64 tv] 67)) m2) := HN2.out.below ((Below.refl _ _).alloc (Nat.le_refl _) _)
          have hmx := mix_lit W _ W.heap.size m2 [tv] #[.int .i64 tv] 1 HN3.out rfl rfl (by simp)
          have hs1 : (wr.alloc (.cells #[.string tn, .int .i64 tv] 67)).heap.size = wr.heap.size + 1 := by simp
          rw [hs1] at hmx
          go_wp2_with fail
          refine Calls.mono hmx ?_
          rintro e W4 ⟨rfl, hm4, hmod4⟩
          have HM4 : Hid (MarkAt W W.heap.size W4 (mixL m2 [tv])) := hm4
          have HMD4 : Hid (Mod [W.heap.size] (wr.alloc (.cells #[.string tn, .int .i64 tv] 67)) W4) := hmod4
          have r0 : W4.cell? ⟨wr.heap.size, 0, none⟩ = some (.string tn) := HMD4.out.cell (by simp [go_sem]) (by simp; omega)
          clear hm4 hmod4 hmx hs1 t0 t1
          obtain ⟨G, W5, hcv, hb5, hw5, hc5⟩ := conv_bytes tn W4
          have HM5 : Hid (MarkAt W W.heap.size W5 (mixL m2 [tv])) := HM4.out.below hb5
          have HC5 : Hid (∀ j, j < tn.size → W5.cell? ⟨W4.heap.size, j, none⟩ = some (.int .u8 ((bytesI tn).getD j 0))) := hc5
          have hgl4 : W.heap.size < W4.heap.size := World.block_lt_of_cell? W4 _ HM4.out.cell
          have HBL : Hid ((bytesI tn).length = tn.size) := bytesI_len tn
          clear hb5 hc5
          go_wp2
          go_loopw [47] (fun i wr => ∃ k3 : Nat, k3 ≤ tn.size ∧ i = .int .i64 k3 ∧ MarkAt W W.heap.size wr (((bytesI tn).take k3).foldl (fun m b => mixL m [b]) (mixL m2 [tv])) ∧ ∀ j, j < tn.size → wr.cell? ⟨W4.heap.size, j, none⟩ = some (.int .u8 ((bytesI tn).getD j 0))) (fun i _ => tn.size - (intOf i).toNat)
          case atStart => exact ⟨0, Nat.zero_le _, rfl, HM5.out, HC5.out⟩
          case round =>
            obtain ⟨k3, hk3, rfl, hm6, hc6⟩ := hrel
            have HM6 : Hid (MarkAt W W.heap.size wr (((bytesI tn).take k3).foldl (fun m b => mixL m [b]) (mixL m2 [tv]))) := hm6
            have HC6 : Hid (∀ j, j < tn.size → wr.cell? ⟨W4.heap.size, j, none⟩ = some (.int .u8 ((bytesI tn).getD j 0))) := hc6
            clear hm6 hc6
            by_cases hlt3 : k3 < tn.size
            · have b0 := HC6.out k3 hlt3
              have HF3 : Hid (((bytesI tn).take (k3 + 1)).foldl (fun m b => mixL m [b]) (mixL m2 [tv]) = mixL (((bytesI tn).take k3).foldl (fun m b => mixL m [b]) (mixL m2 [tv])) [(bytesI tn).getD k3 0]) := foldl_take _ 0 _ _ k3 (by rw [HBL.out]; exact hlt3)
              obtain ⟨hv0, hv1⟩ := bytesI_in tn k3
              generalize ((bytesI tn).take k3).foldl (fun m b => mixL m [b]) (mixL m2 [tv]) = m3 at *
              have hmx := fun v => mix_lit W wr W.heap.size m3 [v] #[.int .i64 v] 1 HM6.out rfl rfl (by simp)
              have HMX : Hid (Calls Try.prog 77 #[.slice (some ⟨wr.heap.size, 0, none⟩) 1 1, .pointer (some ⟨W.heap.size, 0, none⟩)] (wr.alloc (.cells #[.int .i64 ((bytesI tn).getD k3 0)] 3)) fun e W' => e = .returned (.tuple #[]) ∧ MarkAt W W.heap.size W' (mixL m3 [(bytesI tn).getD k3 0]) ∧ Mod [W.heap.size] wr W') := hmx _
              have hcl : ∀ j, j < tn.size → W4.heap.size < wr.heap.size := fun j hj => World.block_lt_of_cell? wr ⟨W4.heap.size, j, none⟩ (HC6.out j hj)
              clear hmx
              generalize (bytesI tn).getD k3 0 = bv at *
              have hcv2 : wrap64 bv = bv := wrap64_id (by omega) (by omega)
              go_wp2_with fail
              refine Calls.mono HMX.out ?_
              rintro e W6 ⟨rfl, hm7, hmod7⟩
              have HM7 : Hid (MarkAt W W.heap.size W6 (mixL m3 [bv])) := hm7
              have HC7 : Hid (∀ j, j < tn.size → W6.cell? ⟨W4.heap.size, j, none⟩ = some (.int .u8 ((bytesI tn).getD j 0))) := fun j hj => hmod7.cell (HC6.out j hj) (by simp; omega)
              clear hm7 hmod7 HMX
              go_wp2
              go_roundw
              case rel => exact ⟨k3 + 1, by omega, by go_num, by rw [HF3.out]; exact HM7.out, HC7.out⟩
              case measure => simp [intOf]; omega
            · have hkk : k3 = tn.size := by omega
              have HZ : Hid (MarkAt W W.heap.size wr ((ts.take (k2 + 1)).foldl mixT m1)) := by
                have := HM6.out
                rw [hkk, ← HBL.out, List.take_length] at this
                show MarkAt _ _ _ _
                rw [HF2.out, HXT.out]; exact this
              clear hkk HM6 HC6
              go_wp2
              go_roundw
              case rel => exact ⟨k2 + 1, by omega, by go_num, HZ.out⟩
              case measure => simp [intOf]; omega
        · have hkk : k2 = ts.length := by omega
          have HZ : Hid (MarkAt W W.heap.size wr ((l.take (k + 1)).foldl mixN 0)) := by
            have := HN2.out
            rw [hkk, List.take_length] at this
            show MarkAt _ _ _ _
            rw [HF.out, HXN.out]; exact this
          clear hkk HN2
          go_wp2
          go_roundw
          case rel => exact ⟨k + 1, by omega, by go_num, HZ.out⟩
          case measure => simp [intOf]; omega
    · have hkk : k = l.length := by omega
      have HZ : Hid (MarkAt W W.heap.size wr (markL l)) := by have := HM.out; rw [hkk, List.take_length] at this; exact this
      have hc := HZ.out.cell
      clear hkk HM
      go_wp2
      go_ret
      exact ⟨ret_int rfl, HZ.out.bel⟩
end Go.Proofs.Ytpgdkgilmcipkaa
namespace Go.Proofs.Ytpgdkgilmcipkaa
open Go.RowKit Go.Maps Go.ChangeShapes
set_option linter.unusedVariables false
set_option maxRecDepth 100000

/-- Where in a list those of a mark stand. -/
def idxsN (l : List (List Nd)) (m : Int) : List Int := ((List.range l.length).filter fun i => markL (l.getD i []) == m).map fun (i : Nat) => (i : Int)
theorem idxsN_mem (l : List (List Nd)) (m : Int) (z : Int) : z ∈ idxsN l m ↔ ∃ i : Nat, i < l.length ∧ z = i ∧ markL (l.getD i []) = m := by
  unfold idxsN
  simp only [List.mem_map, List.mem_filter, List.mem_range, beq_iff_eq]
  exact ⟨fun ⟨i, ⟨h1, h2⟩, h3⟩ => ⟨i, h1, h3.symm, h2⟩, fun ⟨i, h1, h2, h3⟩ => ⟨i, ⟨h1, h3⟩, h2.symm⟩⟩
theorem idxsN_len (l : List (List Nd)) (m : Int) : (idxsN l m).length ≤ l.length := by
  unfold idxsN
  rw [List.length_map]
  exact Nat.le_trans (List.length_filter_le _ _) (by simp)
theorem idxsN_push (l : List (List Nd)) (x : List Nd) (m : Int) : idxsN (l ++ [x]) m = if markL x = m then idxsN l m ++ [(l.length : Int)] else idxsN l m := by
  unfold idxsN
  rw [List.length_append, List.length_singleton, List.range_succ, List.filter_append, List.map_append]
  have e1 : (List.range l.length).filter (fun i => markL ((l ++ [x]).getD i []) == m) = (List.range l.length).filter (fun i => markL (l.getD i []) == m) := by
    apply List.filter_congr
    intro i hi
    rw [List.mem_range] at hi
    rw [List.getD_eq_getElem?_getD, List.getElem?_append_left hi, ← List.getD_eq_getElem?_getD]
  have e2 : (l ++ [x]).getD l.length [] = x := by simp [List.getD_eq_getElem?_getD]
  rw [e1]
  by_cases h : markL x = m
  · rw [if_pos h]; simp [h]
  · rw [if_neg h]
    have h2 : (markL x == m) = false := by simpa using h
    simp [h2]
/-- A map says where those of each mark stand. -/
def IdxIs (D : DataW Unit) (l : List (List Nd)) : Prop := ∀ m : Int, (Lit.int .u64 m).wf = true → (D.atKey (.int .u64 m) .nil = .nil ∧ idxsN l m = []) ∨ D.atKey (.int .u64 m) .nil = .slice (lits .i64 (idxsN l m)) []
theorem mix_wf (m v : Int) : (Lit.int .u64 (mixV m v)).wf = true := by
  unfold mixV
  generalize IntKind.u64.wrap (bits BinOp.xor IntKind.u64 m (m / 4294967296) * 11400714819323198485) + IntKind.u64.wrap v = z
  simp only [IntKind.wrap_u64, Lit.wf, IntKind.min, IntKind.max, IntKind.bits, IntKind.signed]
  simp
  omega
theorem fold_wf {X : Type} (f : Int → X → Int) (hf : ∀ m x, (Lit.int .u64 m).wf = true → (Lit.int .u64 (f m x)).wf = true) (l : List X) (m : Int) (h : (Lit.int .u64 m).wf = true) : (Lit.int .u64 (l.foldl f m)).wf = true := by
  induction l generalizing m with
  | nil => exact h
  | cons x l ih => exact ih _ (hf m x h)
theorem mixL_wf (vs : List Int) (m : Int) (h : (Lit.int .u64 m).wf = true) : (Lit.int .u64 (mixL m vs)).wf = true := fold_wf mixV (fun m v _ => mix_wf m v) vs m h
theorem mark_wf (l : List Nd) : (Lit.int .u64 (markL l)).wf = true := by
  refine fold_wf mixN (fun m x h => ?_) l 0 (by decide)
  refine fold_wf mixT (fun m t h => ?_) _ _ (mixL_wf _ _ h)
  exact fold_wf _ (fun m b h => mixL_wf _ _ h) _ _ (mixL_wf _ _ h)
theorem idx_start : IdxIs (.map []) [] := fun m hm => .inl ⟨rfl, rfl⟩
theorem lits_inj {zs ys : List Int} (h : lits (H := Unit) .i64 zs = lits .i64 ys) : zs = ys := by
  unfold lits at h
  induction zs generalizing ys with
  | nil => cases ys with
    | nil => rfl
    | cons y ys => cases h
  | cons z zs ih => cases ys with
    | nil => cases h
    | cons y ys =>
      simp only [List.map_cons, List.cons.injEq, DataW.lit.injEq, Lit.int.injEq, true_and] at h
      rw [h.1, ih h.2]
/-- What a look-up hands over is just those places. -/
theorem IdxIs.at {D : DataW Unit} {l : List (List Nd)} (h : IdxIs D l) {m : Int} (hm : (Lit.int .u64 m).wf = true) {v : Value} {zs : List Int} {w : World} {base : Nat} (hat : D.atKey (.int .u64 m) .nil = rowDatum .i64 v zs) (ho : w.ownsInts base 3 .i64 v zs) : zs = idxsN l m := by
  rcases ho.datum (H := Unit) with ⟨h1, h2⟩ | h1
  · rw [h1] at hat
    rcases h m hm with ⟨_, k⟩ | k
    · rw [k, h2]
    · rw [hat] at k; cases k
  · rw [h1] at hat
    rcases h m hm with ⟨k, _⟩ | k
    · rw [hat] at k; cases k
    · rw [hat] at k
      simp only [DataW.slice.injEq, and_true] at k
      exact lits_inj k
theorem IdxIs.push {D : DataW Unit} {l : List (List Nd)} (h : IdxIs D l) (hD : IsMap D) (x : List Nd) {v : Value} {w : World} {base : Nat} (ho : w.ownsInts base 3 .i64 v (idxsN l (markL x) ++ [(l.length : Int)])) :
    IdxIs (D.put (.int .u64 (markL x)) (rowDatum .i64 v (idxsN l (markL x) ++ [(l.length : Int)]))) (l ++ [x]) := by
  intro m hm
  rw [idxsN_push]
  by_cases e : markL x = m
  · subst e
    rw [if_pos rfl, atKey_put_same hD (by trivial), ho.datum_pos (by simp)]
    exact .inr rfl
  · rw [if_neg e, atKey_put_other (by intro q; cases q; exact e rfl)]
    exact h m hm
end Go.Proofs.Ytpgdkgilmcipkaa
namespace Go.Proofs.Ytpgdkgilmcipkaa
open Go.RowKit Go.Maps Go.ChangeShapes
set_option linter.unusedVariables false
set_option maxRecDepth 100000

/-- Nodes that a mark can be reckoned of. -/
def Markable (l : List Nd) : Prop := l.length ≤ 4611686018427387904 ∧ FewT l ∧ ∀ x ∈ l, ∀ t ∈ x.terms, t.name.size ≤ 1099511627776
theorem grown_of {W W' : World} (h : Below W.heap.size W W') (row : Option Nat) : W.grownBy W' row := ⟨h.os, h.tape, h.output, h.size, fun k hk _ => h.block k hk⟩
/-- The map of a some: block b, its rows from block b + 1 on. -/
structure MapAt (w : World) (b : Nat) (lv : Value) (l : List (List Nd)) (D : DataW Unit) (n : Nat) : Prop where
  map : w.ownsGroups Try.prog 100 (b + 1) 3 .i64 b n D
  le : n ≤ l.length
  sh : w.Shuns b (fun g => lv.ownBlock = some g)
  idx : IdxIs D l
  ne : lv.ownBlock ≠ some b
theorem MapAt.lt {w : World} {b : Nat} {lv : Value} {l : List (List Nd)} {D : DataW Unit} {n : Nat} (h : MapAt w b lv l D n) : b < w.heap.size := by
  obtain ⟨es, clock, hb, _⟩ := h.map
  exact (Array.getElem?_eq_some_iff.1 hb).1
theorem MapAt.kept {w w' : World} {b : Nat} {lv : Value} {l : List (List Nd)} {D : DataW Unit} {n : Nat} (h : MapAt w b lv l D n) {row : Option Nat} (hg : w.grownBy w' row) (h1 : some b ≠ row) (h2 : (∀ j, row = some j → j < b + 1) ∨ ∀ j, row = some j → lv.ownBlock = some j) : MapAt w' b lv l D n :=
  ⟨h.map.kept hg h1 (by
    rcases h2 with h2 | h2
    · exact h.map.rowsAbove h2
    · exact h.sh.rowsOff h2), h.le, h.sh.kept hg h.lt h1, h.idx, h.ne⟩
theorem MapAt.below {w w' : World} {b : Nat} {lv : Value} {l : List (List Nd)} {D : DataW Unit} {n : Nat} (h : MapAt w b lv l D n) (k : Below w.heap.size w w') : MapAt w' b lv l D n :=
  h.kept (grown_of k none) (by simp) (.inl fun j hj => by cases hj)
/-- Another list's block: the old one's, or a new one. -/
theorem MapAt.list {w w' : World} {b : Nat} {lv lv' : Value} {l : List (List Nd)} {D : DataW Unit} {n : Nat} (h : MapAt w b lv l D n) (hg : w.grownBy w' lv.ownBlock) (hl : lv'.ownBlock = lv.ownBlock ∨ lv'.ownBlock = some w.heap.size) : MapAt w' b lv' l D n := by
  have k := h.kept hg (fun e => h.ne e.symm) (.inr fun j hj => hj)
  refine ⟨k.map, k.le, ?_, k.idx, ?_⟩
  · have hs : w.Shuns b (fun g => lv'.ownBlock = some g) := h.sh.reno h.map fun g hh => by
      rcases hl with e | e
      · exact .inl (by rw [← e]; exact hh)
      · rw [e] at hh; cases hh; exact .inr (Nat.le_refl _)
    exact hs.kept hg h.lt (fun e => h.ne e.symm)
  · rcases hl with e | e
    · rw [e]; exact h.ne
    · rw [e]; have := h.lt; simp; omega
theorem law64 : Keyed Try.prog 100 := int_keyed Try.underlying100
theorem zeroInts (w : World) : (zeroValue 102).run Try.prog w = .ok (.slice none 0 0) w := by kernel_rfl
/-- The look-up of a mark: where those of that mark stand. -/
theorem MapAt.look {w : World} {b : Nat} {lv : Value} {l : List (List Nd)} {D : DataW Unit} {n : Nat} (h : MapAt w b lv l D n) (x : List Nd) (hl : l.length ≤ 1073741824) :
    ∃ a n' c, (Instr.lookup 79 (.map (some b)) (.int .u64 (markL x)) false).run Try.prog w = .ok (.slice a n' c) w ∧ n' = (idxsN l (markL x)).length ∧ w.ownsInts (b + 1) 3 .i64 (.slice a n' c) (idxsN l (markL x)) ∧
      w.groupBack Try.prog 79 100 (b + 1) 3 .i64 b n D (.int .u64 (markL x)) (.int .u64 (markL x)) (.slice a n' c) ∧ (idxsN l (markL x)).length ≤ n ∧ ∀ No : Nat → Prop, w.Shuns b No → ∀ g, (Value.slice a n' c).ownBlock = some g → ¬ No g := by
  have hkey := keyOf_int_mk (P := Try.prog) Try.underlying100 (mark_wf x)
  have hn : n < maxLen := by have := h.le; unfold maxLen; omega
  obtain ⟨v, zs, hrun, hat, ho, hzl, hback⟩ := h.map.at law64 Try.underlying79 (zeroInts w) hn hkey
  obtain rfl := h.idx.at (mark_wf x) hat ho
  have hsh : ∀ No : Nat → Prop, w.Shuns b No → ∀ g, v.ownBlock = some g → ¬ No g := by
    obtain ⟨es, clock, hb, F, _⟩ := h.map
    rcases Maps.fit_look false law64 Try.underlying79 (zeroInts w) hb F hkey with ⟨hrun', _, _⟩ | ⟨e0, y, hm0, _, hrun', _, _, _⟩
    · rw [hrun] at hrun'
      obtain rfl : v = .slice none 0 0 := by simpa using hrun'
      intro _ _ g hg'; cases hg'
    · rw [hrun] at hrun'
      obtain rfl : v = e0.val := by simpa using hrun'
      exact fun No hs g hg' => hs es clock hb e0 hm0 g hg'
  rcases ho.1.2 with ⟨rfl, h0⟩ | ⟨g, cap, cur, rfl, _⟩
  · exact ⟨none, 0, 0, hrun, h0.symm, ho, hback, hzl, hsh⟩
  · exact ⟨_, _, cap, hrun, rfl, ho, hback, hzl, hsh⟩
/-- 'm[k] = append(m[k], i)': looked up at X0, the number laid at block g, appended at X1. -/
theorem MapAt.push {X0 X1 : World} {b : Nat} {lv : Value} {l : List (List Nd)} {D : DataW Unit} {n : Nat} (h : MapAt X0 b lv l D n) (x : List Nd) (hl : l.length ≤ 1073741823) (hX : Below X0.heap.size X0 X1) (hlv : ∀ g, lv.ownBlock = some g → g < X0.heap.size) (g : Nat) (hg : X1.cell? ⟨g, 0, none⟩ = some (.int .i64 l.length)) :
    ∃ a n' c a2 n2 c2 X2 X3 D', (Instr.lookup 79 (.map (some b)) (.int .u64 (markL x)) false).run Try.prog X0 = .ok (.slice a n' c) X0 ∧ (Builtin.append_ #[102, 102] 102 #[.slice a n' c, .slice (some ⟨g, 0, none⟩) 1 1]).run Try.prog X1 = .ok (.slice a2 n2 c2) X2 ∧
      (Instr.mapUpdate 79 (.map (some b)) (.int .u64 (markL x)) (.slice a2 n2 c2)).run Try.prog X2 = .ok () X3 ∧ MapAt X3 b lv (l ++ [x]) D' (n + 1) ∧ ∃ S : List Nat, Mod S X1 X3 ∧ Mod S X1 X2 ∧ (∀ i ∈ S, b ≤ i) ∧ ∀ No : Nat → Prop, X0.Shuns b No → (∀ g, No g → g < X0.heap.size) → ¬ No b → X3.Shuns b No ∧ ∀ i ∈ S, ¬ No i := by
  obtain ⟨a, n', c, hlk, hn', ho, hback, hzl, hsh⟩ := h.look x (by omega)
  have ho1 : X1.ownsInts (b + 1) 3 .i64 (.slice a n' c) (idxsN l (markL x)) := ho.kept (grown_of hX none) (by cases hq : (Value.slice a n' c).ownBlock <;> simp)
  have hle : n ≤ l.length := h.le
  obtain ⟨i0, hi, hz0, hz1, hz2⟩ := info_parts infoInt
  obtain ⟨v', X2, hr, how, hgr, hnil, hloc⟩ := run_append_own_at (P := Try.prog) (w := X1) (b + 1) 102 102 3 i0 (.int .i64 0) 1 8 Try.underlying102 hi hz0 hz1 hz2 rfl (by decide) (.slice a n' c) _ _ ho1.1 ⟨g, 0, none⟩ 1 1 [.int .i64 (l.length : Int)] rfl
    (fun j u hj => by
      cases j with
      | zero => simp at hj; subst hj; simpa [Addr.add] using hg
      | succ j => simp at hj) (by simp [Value.oneCell']) (by unfold maxLen; omega) (by omega) (by have := h.lt; have := hX.size; omega)
  have ho2 := ho1.appended how (by simp [Lit.wf, IntKind.min, IntKind.max, IntKind.bits, IntKind.signed]; omega)
  have hgr0 : X0.grownBy X2 (Value.slice a n' c).ownBlock := (grown_of hX _).trans hgr
  have hloc0 : v'.ownBlock = (Value.slice a n' c).ownBlock ∨ ∃ g, v'.ownBlock = some g ∧ X0.heap.size ≤ g := hloc.imp id fun e => ⟨_, e, hX.size⟩
  obtain ⟨X3, hup, hm3, hg3⟩ := hback X2 v' _ hgr0 ho2 (by rw [List.length_append, List.length_singleton]; omega) hloc0
  have hblt : b < X0.heap.size := h.lt
  have hbne : some b ≠ (Value.slice a n' c).ownBlock := fun e => by have := (ho.1.lt b e.symm).1; omega
  have hsh3 : ∀ No : Nat → Prop, X0.Shuns b No → (∀ g, No g → g < X0.heap.size) → X3.Shuns b No := by
    intro No hNo hNl
    have hown0 := h.map
    obtain ⟨es, clock, hb, F, hs, _, hbb, _⟩ := hown0
    have hb1 : X2.heap[b]? = some (.map es clock) := (hgr0.block b hblt (fun e => hbne (by rw [e]))).trans hb
    obtain ⟨es', clock', hb2, hwho⟩ := stored_who law64 Try.underlying79 hb1 F (by unfold maxLen; omega) (keyOf_int_mk (P := Try.prog) Try.underlying100 (mark_wf x)) hup
    intro es2 clock2 hb2' y hy g' hyg
    obtain ⟨rfl, rfl⟩ : es' = es2 ∧ clock' = clock2 := by rw [hb2] at hb2'; simpa using hb2'
    rcases hwho y hy with ⟨hy0, _⟩ | ⟨_, hval⟩
    · exact hNo es clock hb y hy0 g' hyg
    · rw [hval] at hyg
      intro hll
      rcases hloc with e | e
      · rw [e] at hyg; exact hsh No hNo g' hyg hll
      · rw [e] at hyg
        cases hyg
        have := hNl _ hll
        have := hX.size
        omega
  have hIM : IsMap D := by obtain ⟨es, clock, _, _, _, rfl, _⟩ := h.map; exact ⟨_, rfl⟩
  obtain ⟨a2, n2, c2, rfl⟩ : ∃ a2 n2 c2, v' = .slice a2 n2 c2 := by
    rcases ho2.1.2 with ⟨rfl, _⟩ | ⟨g, cap, cur, rfl, _⟩
    · exact ⟨_, _, _, rfl⟩
    · exact ⟨_, _, _, rfl⟩
  refine ⟨a, n', c, a2, n2, c2, X2, X3, _, hlk, hr, hup, ⟨hm3, by rw [List.length_append, List.length_singleton]; omega, hsh3 _ h.sh hlv, h.idx.push hIM x ho2, h.ne⟩, (Value.slice a n' c).ownBlock.toList ++ [b], ?_, (Mod.grown hgr).mono fun i hi => List.mem_append_left _ hi, ?_, ?_⟩
  · exact ((Mod.grown hgr).mono fun i hi => List.mem_append_left _ hi).trans ((Mod.grown hg3).mono fun i hi => List.mem_append_right _ (by simpa using hi))
  · intro i hi
    rw [List.mem_append] at hi
    rcases hi with hi | hi
    · have := (ho.1.lt i (by simpa using hi)).1
      omega
    · simp only [List.mem_singleton] at hi
      omega
  · intro No hNo hNl hNb
    refine ⟨hsh3 No hNo hNl, fun i hi => ?_⟩
    rw [List.mem_append] at hi
    rcases hi with hi | hi
    · exact hsh No hNo i (by simpa using hi)
    · simp only [List.mem_singleton] at hi
      subst hi
      exact hNb
end Go.Proofs.Ytpgdkgilmcipkaa
namespace Go.Proofs.Ytpgdkgilmcipkaa
open Go.RowKit Go.Maps Go.ChangeShapes
set_option linter.unusedVariables false
set_option maxRecDepth 100000

/-- A some at p, of formulas that were there in W. -/
structure SomeAt (W : World) (p : Nat) (w : World) (lv : Value) (L : List LsV) (b : Nat) (D : DataW Unit) (n : Nat) : Prop where
  bel : Below W.heap.size W w
  le : W.heap.size ≤ p
  c0 : w.cell? ⟨p, 0, none⟩ = some lv
  c1 : w.cell? ⟨p, 1, none⟩ = some (.map (some b))
  f0 : w.frozen? ⟨p, 0, none⟩ = false
  own : Own lsC 28 1 w (p + 1) lv L
  pb : p < b
  map : MapAt w b lv (L.map LsV.nds) D n
  each : ∀ y ∈ L, NdsAt W y.a y.cap y.ys
  good : ∀ y ∈ L, Markable y.nds
theorem SomeAt.below {W w w' : World} {p : Nat} {lv : Value} {L : List LsV} {b : Nat} {D : DataW Unit} {n : Nat} (h : SomeAt W p w lv L b D n) (k : Below w.heap.size w w') : SomeAt W p w' lv L b D n :=
  ⟨h.bel.trans (k.mono h.bel.size), h.le, cell_up k h.c0, cell_up k h.c1, by rw [k.frozen (p := ⟨p, 0, none⟩) (World.block_lt_of_cell? w _ h.c0)]; exact h.f0, h.own.below k, h.pb, h.map.below k, h.each, h.good⟩
def hasV (L : List LsV) (n : List Nd) : Bool := L.any fun y => sameB y.nds n
theorem nds_getD {L : List LsV} {k : Nat} (h : k < L.length) : (L.map LsV.nds).getD k [] = (L.getD k default).nds := map_getD LsV.nds default [] h
theorem hasV_yes {L : List LsV} {n : List Nd} {k : Nat} (h : k < L.length) (hs : sameB (L.getD k default).nds n = true) : hasV L n = true := by
  unfold hasV; rw [List.any_eq_true]; exact ⟨_, getD_mem default h, hs⟩
theorem hasV_no {L : List LsV} {n : List Nd} (h : ∀ j, j < (idxsN (L.map LsV.nds) (markL n)).length → ∀ i : Nat, (idxsN (L.map LsV.nds) (markL n)).getD j 0 = i → sameB (L.getD i default).nds n = false) : hasV L n = false := by
  unfold hasV
  rw [List.any_eq_false]
  intro y hy hs
  obtain ⟨i, hi, rfl⟩ := List.getElem_of_mem hy
  have he := (sameB_iff _ _).1 hs
  have hm : (i : Int) ∈ idxsN (L.map LsV.nds) (markL n) := (idxsN_mem _ _ _).2 ⟨i, by simpa using hi, rfl, by
    rw [nds_getD hi, show L.getD i default = L[i] by simp [List.getD_eq_getElem?_getD, hi], he]⟩
  obtain ⟨j, hj, hje⟩ := List.getElem_of_mem hm
  have := h j hj i (by simp [List.getD_eq_getElem?_getD, hj, hje])
  rw [show L.getD i default = L[i] by simp [List.getD_eq_getElem?_getD, hi], hs] at this
  cases this
set_option maxHeartbeats 8000000 in
theorem has8_any (W : World) (p : Nat) (X : World) (lv : Value) (L : List LsV) (b : Nat) (D : DataW Unit) (n : Nat) (h : SomeAt W p X lv L b D n) (a : Option Addr) (cap : Nat) (ys : List NdV) (hy : NdsAt W a cap ys) (hg : Markable (ys.map (·.x))) (hl : L.length ≤ 1073741824) :
    Calls Try.prog 63 #[.pointer (some ⟨p, 0, none⟩), .slice a ys.length cap] X fun e W' => e = .returned (.bool (hasV L (ys.map (·.x)))) ∧ Below X.heap.size X W' := by
  have HS : Hid (∀ Y, Below X.heap.size X Y → SomeAt W p Y lv L b D n) := fun Y hY => h.below hY
  have HMK : Hid (∀ Y, Below X.heap.size X Y → Calls Try.prog 64 #[.slice a ys.length cap] Y fun e W' => e = .returned (.int .u64 (markL (ys.map (·.x)))) ∧ Below Y.heap.size Y W') := fun Y hY => by
    have := mark_any a cap (ys.map (·.x)) Y (hy.below (h.below hY).bel).nodes hg.1 hg.2.1 hg.2.2
    rw [List.length_map] at this; exact this
  have HLK : Hid (∀ Y, Below X.heap.size X Y → ∃ za zn zc, (Instr.lookup 79 (.map (some b)) (.int .u64 (markL (ys.map (·.x)))) false).run Try.prog Y = .ok (.slice za zn zc) Y ∧ zn = (idxsN (L.map LsV.nds) (markL (ys.map (·.x)))).length ∧ ∀ k, k < (idxsN (L.map LsV.nds) (markL (ys.map (·.x)))).length → ∃ g, za = some ⟨g, 0, none⟩ ∧ ∀ Z, Below Y.heap.size Y Z → Z.cell? ⟨g, k, none⟩ = some (.int .i64 ((idxsN (L.map LsV.nds) (markL (ys.map (·.x)))).getD k 0))) := fun Y hY => by
    obtain ⟨za, zn, zc, h1, h2, h3, _⟩ := (h.below hY).map.look (ys.map (·.x)) (by rw [List.length_map]; exact hl)
    refine ⟨za, zn, zc, h1, h2, fun k hk => ?_⟩
    rcases h3.1.2 with ⟨_, h0⟩ | ⟨g, cap', cur, e, hg0, hh, hle, _, _, hp⟩
    · omega
    · cases e
      refine ⟨g, rfl, fun Z hZ => cell_up hZ ?_⟩
      have := World.ownsRow.cells h3.1 (g := g) rfl k (.int .i64 ((idxsN (L.map LsV.nds) (markL (ys.map (·.x)))).getD k 0)) (by simp [List.getD_eq_getElem?_getD, hk])
      rw [addr_add0] at this; exact this
  have HSM : Hid (∀ k, k < L.length → ∀ Y, Below X.heap.size X Y → Calls Try.prog 18 #[.slice (L.getD k default).a (L.getD k default).ys.length (L.getD k default).cap, .slice a ys.length cap] Y fun e W' => e = .returned (.bool (sameB (L.getD k default).nds (ys.map (·.x)))) ∧ Below Y.heap.size Y W') := fun k hk Y hY => by
    have q := (h.each _ (getD_mem default hk)).below (h.below hY).bel
    have g := h.good _ (getD_mem default hk)
    have := same_any (L.getD k default).a a (L.getD k default).cap cap (L.getD k default).nds (ys.map (·.x)) Y q.nodes (hy.below (h.below hY).bel).nodes g.1 hg.1 g.2.1 hg.2.1
    rw [List.length_map, show (L.getD k default).nds.length = (L.getD k default).ys.length by unfold LsV.nds; rw [List.length_map]] at this
    exact this
  obtain ⟨la, lc, rfl, _, _, hrow⟩ := h.own.sl lsC_len default
  have HROW : Hid (∀ k, k < L.length → ∃ g, la = some ⟨g, 0, none⟩ ∧ ∀ Y, Below X.heap.size X Y → Y.cell? ⟨g, k, none⟩ = some (.slice (L.getD k default).a (L.getD k default).ys.length (L.getD k default).cap)) := fun k hk => by
    obtain ⟨g, e, _, _, hj⟩ := hrow k hk
    refine ⟨g, e, fun Y hY => cell_up hY ?_⟩
    have := hj 0 (by omega)
    simpa [lsC] using this
  have HYES : Hid (∀ i, i < L.length → sameB (L.getD i default).nds (ys.map (·.x)) = true → hasV L (ys.map (·.x)) = true) := fun i hi hs => hasV_yes hi hs
  have HNO : Hid ((∀ j, j < (idxsN (L.map LsV.nds) (markL (ys.map (·.x)))).length → ∀ i : Nat, (idxsN (L.map LsV.nds) (markL (ys.map (·.x)))).getD j 0 = i → sameB (L.getD i default).nds (ys.map (·.x)) = false) → hasV L (ys.map (·.x)) = false) := hasV_no
  have HIN : Hid (∀ j, j < (idxsN (L.map LsV.nds) (markL (ys.map (·.x)))).length → ∃ i : Nat, i < L.length ∧ (idxsN (L.map LsV.nds) (markL (ys.map (·.x)))).getD j 0 = i) := fun j hj => by
    obtain ⟨i, h1, h2, _⟩ := (idxsN_mem _ _ _).1 (getD_mem 0 hj)
    exact ⟨i, by simpa using h1, h2⟩
  have hil : (idxsN (L.map LsV.nds) (markL (ys.map (·.x)))).length ≤ 1073741824 := by have := idxsN_len (L.map LsV.nds) (markL (ys.map (·.x))); rw [List.length_map] at this; omega
  have c1 := h.c1
  clear h hrow hy hg
  generalize idxsN (L.map LsV.nds) (markL (ys.map (·.x))) = ix at *
  generalize markL (ys.map (·.x)) = mk at *
  generalize hasV L (ys.map (·.x)) = res at *
  go_enter Try.func63, Try.ntmps63
  go_wp2_with fail
  have HB : Hid (Below X.heap.size X X.drew) := (Below.refl _ _).drew
  refine wp_region_held_drew (S := fun W' => W'.cell? ⟨p, 1, none⟩ = some (.map (some b))) (by kernel_rfl) ((HS.out _ HB.out).c1) (fun hHeld => ?_)
  refine wpAnyH_take (i := 0) (oi := { dst := some 7, op := Op.move (Operand.tmp 0), type := 99, pos := "some.go:29", after := #[], guard := none }) (v := ?_) rfl (by kernel_rfl) (by kernel_rfl) (by kernel_rfl) (fun _ _ _ h => h) (Or.inl ⟨by rfl, ?_⟩) hHeld ?_
  rotate_left
  · (intro w hSw; (try dsimp only at hSw); go_simp; all_goals (try with_reducible rfl))
  try simp only [Act.put, List.setIfInBounds_toArray, List.set_cons_zero, List.set_cons_succ]
  refine wpAnyH_take (i := 1) (oi := { dst := some 8, op := Op.nilCheck (Operand.tmp 7), type := 0, pos := "some.go:29", after := #[{ on := 0, ground := Ground.data }], guard := none }) (v := ?_) rfl (by kernel_rfl) (by kernel_rfl) (by kernel_rfl) (fun _ _ _ h => h) (Or.inl ⟨by rfl, ?_⟩) hHeld ?_
  rotate_left
  · (intro w hSw; (try dsimp only at hSw); go_simp; all_goals (try with_reducible rfl))
  try simp only [Act.put, List.setIfInBounds_toArray, List.set_cons_zero, List.set_cons_succ]
  refine wpAnyH_take (i := 2) (oi := { dst := some 9, op := Op.fieldAddr 81 (Operand.tmp 8) 1, type := 0, pos := "some.go:29", after := #[{ on := 1, ground := Ground.data }], guard := none }) (v := ?_) rfl (by kernel_rfl) (by kernel_rfl) (by kernel_rfl) (fun _ _ _ h => h) (Or.inl ⟨by rfl, ?_⟩) hHeld ?_
  rotate_left
  · (intro w hSw; (try dsimp only at hSw); go_simp; all_goals (try with_reducible rfl))
  try simp only [Act.put, List.setIfInBounds_toArray, List.set_cons_zero, List.set_cons_succ]
  refine wpAnyH_take (i := 3) (oi := { dst := some 10, op := Op.load 79 (Operand.tmp 9), type := 79, pos := "some.go:29", after := #[{ on := 2, ground := Ground.data }], guard := none }) (v := ?_) rfl (by kernel_rfl) (by kernel_rfl) (by kernel_rfl) (fun _ _ _ h => h) (Or.inl ⟨by rfl, ?_⟩) hHeld ?_
  rotate_left
  · (intro w hSw; (try dsimp only at hSw); go_simp; all_goals (try with_reducible rfl))
  try simp only [Act.put, List.setIfInBounds_toArray, List.set_cons_zero, List.set_cons_succ]
  refine wpAnyH_take (i := 4) (oi := { dst := some 11, op := Op.move (Operand.tmp 1), type := 28, pos := "some.go:29", after := #[], guard := none }) (v := ?_) rfl (by kernel_rfl) (by kernel_rfl) (by kernel_rfl) (fun _ _ _ h => h) (Or.inl ⟨by rfl, ?_⟩) hHeld ?_
  rotate_left
  · (intro w hSw; (try dsimp only at hSw); go_simp; all_goals (try with_reducible rfl))
  try simp only [Act.put, List.setIfInBounds_toArray, List.set_cons_zero, List.set_cons_succ]
  refine wpAnyH_take (i := 8) (oi := { dst := some 15, op := Op.move (Operand.const (Value.int IntKind.i64 0)), type := 3, pos := "some.go:29", after := #[], guard := none }) (v := ?_) rfl (by kernel_rfl) (by kernel_rfl) (by kernel_rfl) (fun _ _ _ h => h) (Or.inl ⟨by rfl, ?_⟩) hHeld ?_
  rotate_left
  · (intro w hSw; (try dsimp only at hSw); go_simp; all_goals (try with_reducible rfl))
  try simp only [Act.put, List.setIfInBounds_toArray, List.set_cons_zero, List.set_cons_succ]
  refine wpAnyH_ready (rs := [5]) (by kernel_rfl) (by simp) ?_
  refine AllReadyH.cons (o := { dst := some 12, op := Op.call { callee := Callee.value (Operand.func 64), args := #[Operand.tmp 11], argTypes := #[28] }, type := 100, pos := "some.go:29", after := #[{ on := 4, ground := Ground.data }], guard := none }) rfl (fun K hK => ?_) AllReadyH.nil
  go_simp
  refine Calls.mono (HMK.out _ HB.out) ?_
  rintro e W2 ⟨rfl, hb2⟩
  have HB : Hid (Below X.heap.size X W2) := HB.out.trans (hb2.mono HB.out.size)
  obtain ⟨za, zn, zc, hlk, rfl, hz⟩ := HLK.out W2 HB.out
  have HZC : Hid (∀ k, k < ix.length → ∃ g, za = some ⟨g, 0, none⟩ ∧ ∀ Z, Below W2.heap.size W2 Z → Z.cell? ⟨g, k, none⟩ = some (.int .i64 (ix.getD k 0))) := hz
  clear hz hb2
  go_wp2_with fail
  refine hK.out _ _ ((HS.out _ HB.out).c1) (fun hHeld => ?_)
  clear hK K
  try simp only [Act.put, List.setIfInBounds_toArray, List.set_cons_zero, List.set_cons_succ]
  refine wpAnyH_ready (rs := [6]) (by kernel_rfl) (by simp) ?_
  refine AllReadyH.cons (o := { dst := some 13, op := Op.lookup 79 (Operand.tmp 10) (Operand.tmp 12) false, type := 102, pos := "some.go:29", after := #[{ on := 3, ground := Ground.data }, { on := 5, ground := Ground.data }], guard := none }) rfl (fun K hK => ?_) AllReadyH.nil
  go_simp
  refine hK.out _ _ ((HS.out _ HB.out).c1) (fun hHeld => ?_)
  clear hK K
  try simp only [Act.put, List.setIfInBounds_toArray, List.set_cons_zero, List.set_cons_succ]
  refine wpAnyH_take (i := 7) (oi := { dst := some 14, op := Op.call { callee := Callee.builtin Builtin.len, args := #[Operand.tmp 13], argTypes := #[102] }, type := 3, pos := "some.go:29", after := #[{ on := 6, ground := Ground.data }], guard := none }) (v := ?_) rfl (by kernel_rfl) (by kernel_rfl) (by kernel_rfl) (fun _ _ _ h => h) (Or.inl ⟨by rfl, ?_⟩) hHeld ?_
  rotate_left
  · (intro w hSw; (try dsimp only at hSw); go_simp; all_goals (try with_reducible rfl))
  try simp only [Act.put, List.setIfInBounds_toArray, List.set_cons_zero, List.set_cons_succ]
  refine wpAnyH_done (by kernel_rfl) ?_ _
  clear hlk c1 hHeld HMK HLK
  have HJ0 : Hid (Below X.heap.size X W2) := HB.out
  clear HB
  go_wp2
  go_loopw [15] (fun i wr => ∃ k : Nat, k ≤ ix.length ∧ i = .int .i64 k ∧ Below W2.heap.size W2 wr ∧ ∀ j, j < k → ∀ i : Nat, ix.getD j 0 = i → sameB (L.getD i default).nds (ys.map (·.x)) = false) (fun i _ => ix.length - (intOf i).toNat)
  case atStart => exact ⟨0, Nat.zero_le _, rfl, Below.refl _ _, fun j hj => by omega⟩
  case round =>
    obtain ⟨k, hk, rfl, hb, hj⟩ := hrel
    have HB2 : Hid (Below W2.heap.size W2 wr) := hb
    have HB : Hid (Below X.heap.size X wr) := HJ0.out.trans (hb.mono HJ0.out.size)
    have HJ : Hid (∀ j, j < k → ∀ i : Nat, ix.getD j 0 = i → sameB (L.getD i default).nds (ys.map (·.x)) = false) := hj
    clear hb hj
    by_cases hlt : k < ix.length
    · obtain ⟨zg, rfl, hzc⟩ := HZC.out k hlt
      have hzc := hzc _ HB2.out
      obtain ⟨i0, hi0, hie⟩ := HIN.out k hlt
      rw [hie] at hzc
      obtain ⟨lg, rfl, hlc⟩ := HROW.out i0 hi0
      have hlc := hlc _ HB.out
      have c0 := (HS.out _ HB.out).c0
      have hsm := HSM.out i0 hi0 wr HB.out
      have HY : Hid (sameB (L.getD i0 default).nds (ys.map (·.x)) = true → res = true) := fun q => HYES.out i0 hi0 q
      have HN : Hid (sameB (L.getD i0 default).nds (ys.map (·.x)) = false → ∀ j, j < k + 1 → ∀ i : Nat, ix.getD j 0 = i → sameB (L.getD i default).nds (ys.map (·.x)) = false) := fun q j hj i he => by
        rcases Nat.lt_succ_iff_lt_or_eq.1 hj with z | z
        · exact HJ.out j z i he
        · subst z
          have : i = i0 := by rw [hie] at he; omega
          rw [this]; exact q
      clear hie
      generalize sameB (L.getD i0 default).nds (ys.map (·.x)) = r at *
      generalize (L.getD i0 default).ys.length = zn at *
      generalize (L.getD i0 default).a = za at *
      generalize (L.getD i0 default).cap = zc2 at *
      cases r with
      | true =>
        have HR : Hid (res = true) := HY.out rfl
        go_wp2_with (go_at_call 18; refine hsm.mono ?_; rintro e w' ⟨rfl, hw⟩)
        go_ret
        exact ⟨ret_bool HR.out.symm, HB.out.trans (hw.mono HB.out.size)⟩
      | false =>
        have HR : Hid (∀ j, j < k + 1 → ∀ i : Nat, ix.getD j 0 = i → sameB (L.getD i default).nds (ys.map (·.x)) = false) := HN.out rfl
        go_wp2_with (go_at_call 18; refine hsm.mono ?_; rintro e w' ⟨rfl, hw⟩)
        have HB3 : Hid (Below W2.heap.size W2 w') := HB2.out.trans (hw.mono HB2.out.size)
        clear hw
        go_roundw
        case rel => exact ⟨k + 1, by omega, by go_num, HB3.out, HR.out⟩
        case measure => simp [intOf]; omega
    · have hkk : k = ix.length := by omega
      have HR : Hid (res = false) := HNO.out (by rw [← hkk]; exact HJ.out)
      clear hkk
      go_wp2
      go_ret
      exact ⟨ret_bool HR.out.symm, HB.out⟩
end Go.Proofs.Ytpgdkgilmcipkaa
namespace Go.Proofs.Ytpgdkgilmcipkaa
open Go.RowKit Go.Maps Go.ChangeShapes
set_option linter.unusedVariables false
set_option maxRecDepth 100000

theorem RowOf.mod {X : Type} [Inhabited X] {C : X → List Value} {c : Nat} (hC : ∀ x, (C x).length = c) {S : List Nat} {w w' : World} {a : Option Addr} {l : List X} (h : RowOf C c w a l) (m : Mod S w w') (ho : ∀ x, a = some x → x.block ∉ S) : RowOf C c w' a l := by
  intro i hi
  obtain ⟨b, off, e, hj⟩ := h i hi
  refine ⟨b, off, e, fun j hjj => ?_⟩
  have h1 := hj j hjj
  rw [List.getElem?_eq_getElem (by rw [hC]; exact hjj)] at h1 ⊢
  exact m.cell h1 (ho _ e)
/-- The block of a slice. -/
def InRow (a : Option Addr) (g : Nat) : Prop := ∃ x, a = some x ∧ x.block = g
/-- A row of lists that a some does not own. -/
structure RowBy (w : World) (b p : Nat) (lv : Value) (a : Option Addr) (K : List LsV) : Prop where
  row : RowOf lsC 1 w a K
  sh : w.Shuns b (InRow a)
  np : ¬ InRow a p
  nb : ¬ InRow a b
  nl : ∀ g, lv.ownBlock = some g → ¬ InRow a g
  lt : ∀ g, InRow a g → g < w.heap.size
theorem RowBy.below {w w' : World} {b p : Nat} {lv : Value} {a : Option Addr} {K : List LsV} (h : RowBy w b p lv a K) (hb : b < w.heap.size) (k : Below w.heap.size w w') : RowBy w' b p lv a K :=
  ⟨h.row.below lsC_len k, h.sh.kept (grown_of k none) hb (by simp), h.np, h.nb, h.nl, fun g hg => Nat.lt_of_lt_of_le (h.lt g hg) k.size⟩
/-- A some with nothing in it and no map. -/
structure SomeNil (W : World) (p : Nat) (w : World) : Prop where
  bel : Below W.heap.size W w
  le : W.heap.size ≤ p
  c0 : w.cell? ⟨p, 0, none⟩ = some (.slice none 0 0)
  c1 : w.cell? ⟨p, 1, none⟩ = some (.map none)
  f0 : w.frozen? ⟨p, 0, none⟩ = false
  f1 : w.frozen? ⟨p, 1, none⟩ = false
theorem SomeNil.below {W w w' : World} {p : Nat} (h : SomeNil W p w) (k : Below w.heap.size w w') : SomeNil W p w' :=
  ⟨h.bel.trans (k.mono h.bel.size), h.le, cell_up k h.c0, cell_up k h.c1, by rw [k.frozen (p := ⟨p, 0, none⟩) (World.block_lt_of_cell? w _ h.c0)]; exact h.f0, by rw [k.frozen (p := ⟨p, 1, none⟩) (World.block_lt_of_cell? w _ h.c1)]; exact h.f1⟩
/-- The map is made. -/
theorem SomeNil.made {W w : World} {p : Nat} (h : SomeNil W p w) : SomeAt W p ((w.alloc (.map #[] 0)).setCell ⟨p, 1, none⟩ (.map (some w.heap.size))) (.slice none 0 0) [] w.heap.size (.map []) 0 := by
  have hp : p < w.heap.size := World.block_lt_of_cell? w _ h.c0
  have hb : Below w.heap.size w (w.alloc (.map #[] 0)) := (Below.refl _ _).alloc (Nat.le_refl _) _
  have h2 := h.below hb
  have hm : MapAt (w.alloc (.map #[] 0)) w.heap.size (.slice none 0 0) [] (.map []) 0 := ⟨World.ownsGroups_made _ _ _ _ _, Nat.le_refl _, World.Shuns_made _ _, idx_start, by simp [Value.ownBlock]⟩
  have hmod : Mod [p] (w.alloc (.map #[] 0)) ((w.alloc (.map #[] 0)).setCell ⟨p, 1, none⟩ (.map (some w.heap.size))) := ⟨rfl, rfl, rfl, by simp, fun q hq hs => Below.heap_setCell _ _ _ _ (by simpa using hs)⟩
  refine ⟨h2.bel.trans (hmod.belowOf h2.bel.size (by simpa using h.le)), h.le, ?_, World.cell?_setCell_same _ _ _ h2.c1, by simpa using h2.f0, Own.nil _ _ _ _ _, hp, hm.kept (row := some p) ⟨hmod.os, hmod.tape, hmod.output, hmod.size, fun k hk hne => hmod.block k hk (by simp; intro e; exact hne (by rw [e]))⟩ (by simp; omega) (.inl fun j hj => by cases hj; omega), fun y hy => by simp at hy, fun y hy => by simp at hy⟩
  rw [World.cell?_setCell_other _ _ _ _ (by intro e; cases e)]; exact h2.c0
theorem RowBy.first {w w' : World} {p b : Nat} {a : Option Addr} {K : List LsV} (hb : b = w.heap.size) (hm : Mod [p] (w.alloc (.map #[] 0)) w') (hp : p < w.heap.size) (row : RowOf lsC 1 w a K) (np : ¬ InRow a p) (lt : ∀ g, InRow a g → g < w.heap.size) : RowBy w' b p (.slice none 0 0) a K := by
  subst hb
  have hbl : Below w.heap.size w (w.alloc (.map #[] 0)) := (Below.refl _ _).alloc (Nat.le_refl _) _
  refine ⟨(row.below lsC_len hbl).mod lsC_len hm fun x hx => ?_, (World.Shuns_made _ _).kept (row := some p) ⟨hm.os, hm.tape, hm.output, hm.size, fun k hk hne => hm.block k hk (by simp; intro e; exact hne (by rw [e]))⟩ (by simp) (by simp; omega), np, fun q => by have := lt _ q; omega, fun g hg => by simp [Value.ownBlock] at hg, fun g hg => by have := lt _ hg; have := hm.size; have := hbl.size; omega⟩
  simp; intro e; exact np ⟨x, hx, e⟩
/-- One list more, or none: where it is false or there. -/
def addV (L : List LsV) (y : LsV) : List LsV := if isB y.nds 1 || hasV L y.nds then L else L ++ [y]
/-- What a push leaves. -/
theorem SomeAt.push {W : World} {p : Nat} {X1 X3 : World} {lv : Value} {L : List LsV} {b : Nat} {D D' : DataW Unit} {n : Nat} {a : Option Addr} {K : List LsV} (h : SomeAt W p X1 lv L b D n) (hr : RowBy X1 b p lv a K) (y : LsV) (hy : NdsAt W y.a y.cap y.ys) (hg : Markable y.nds)
    (hm3 : MapAt X3 b lv (L.map LsV.nds ++ [y.nds]) D' (n + 1)) (S : List Nat) (hmod : Mod S X1 X3) (hS : ∀ i ∈ S, b ≤ i) (hl3 : ∀ i ∈ S, lv.ownBlock ≠ some i) (hs3 : X3.Shuns b (InRow a)) (hr3 : ∀ i ∈ S, ¬ InRow a i) (hL : L.length ≤ 1073741823) :
    ∃ a' n' c' Y, (Builtin.append_ #[39, 39] 39 #[lv, .slice (some ⟨X3.heap.size, 0, none⟩) 1 1]).run Try.prog (X3.alloc (.cells #[.slice y.a y.ys.length y.cap] 28)) = .ok (.slice a' n' c') Y ∧
      Y.cell? ⟨p, 0, none⟩ = some lv ∧ Y.frozen? ⟨p, 0, none⟩ = false ∧ SomeAt W p (Y.setCell ⟨p, 0, none⟩ (.slice a' n' c')) (.slice a' n' c') (L ++ [y]) b D' (n + 1) ∧ RowBy (Y.setCell ⟨p, 0, none⟩ (.slice a' n' c')) b p (.slice a' n' c') a K := by
  have hp : p < X1.heap.size := World.block_lt_of_cell? X1 _ h.c0
  have hpS : p ∉ S := fun q => by have := hS p q; have := h.pb; omega
  have hble := h.bel.size
  have hle := h.le
  have hpb := h.pb
  have h30 := hmod.cell h.c0 hpS
  have h31 := hmod.cell h.c1 hpS
  have hf3 : X3.frozen? ⟨p, 0, none⟩ = false := (hmod.frozen hp hpS).trans h.f0
  have ho3 := h.own.mod hmod (fun g hg' q => hl3 g q hg')
  have hb4 : Below X3.heap.size X3 (X3.alloc (.cells #[.slice y.a y.ys.length y.cap] 28)) := (Below.refl _ _).alloc (Nat.le_refl _) _
  obtain ⟨v', Y, hrun, ho, hgr, hat⟩ := Own.append lsC_len lsC_one Try.underlying39 infoNodes rfl (by omega) (X3.alloc (.cells #[.slice y.a y.ys.length y.cap] 28)) (p + 1) lv L (ho3.below hb4) y X3.heap.size
    (by intro j hj; obtain rfl : j = 0 := by omega
        simp [go_sem, lsC]) (by unfold maxLen; omega) (by omega) (by have := hmod.size; simp; omega)
  obtain ⟨a', c', rfl, _⟩ := ho.sl lsC_len default
  generalize (L ++ [y]).length = n' at *
  have hlt4 : p < (X3.alloc (.cells #[.slice y.a y.ys.length y.cap] 28)).heap.size := by have := hmod.size; simp; omega
  have hmg := Mod.grown hgr
  have hlvp : ∀ g, lv.ownBlock = some g → p + 1 ≤ g := fun g hg' => (Own.lt h.own g hg').1
  have hpn : p ∉ lv.ownBlock.toList := fun q => by have := hlvp p (by simpa using q); omega
  have y0 : Y.cell? ⟨p, 0, none⟩ = some lv := hmg.cell (cell_up hb4 h30) hpn
  have y1 : Y.cell? ⟨p, 1, none⟩ = some (.map (some b)) := hmg.cell (cell_up hb4 h31) hpn
  have hfY : Y.frozen? ⟨p, 0, none⟩ = false := by
    rw [hmg.frozen hlt4 hpn, hb4.frozen (p := ⟨p, 0, none⟩) (World.block_lt_of_cell? X3 _ h30)]; exact hf3
  have hmp : Mod [p] Y (Y.setCell ⟨p, 0, none⟩ (.slice a' n' c')) := ⟨rfl, rfl, rfl, by simp, fun q hq hs => Below.heap_setCell _ _ _ _ (by simpa using hs)⟩
  have hgp : Y.grownBy (Y.setCell ⟨p, 0, none⟩ (.slice a' n' c')) (some p) := ⟨hmp.os, hmp.tape, hmp.output, hmp.size, fun k hk hne => hmp.block k hk (by simp; intro e; exact hne (by rw [e]))⟩
  have hm4 := hm3.below hb4
  have hm5 := hm4.list hgr hat
  have hbp : some b ≠ some p := by simp; omega
  have hm6 := hm5.kept hgp hbp (.inl fun j hj => by cases hj; omega)
  have hX3W : Below W.heap.size W X3 := h.bel.trans (hmod.belowOf hble fun i hi => by have := hS i hi; omega)
  have hX4W := hX3W.trans (hb4.mono hX3W.size)
  have hYW : Below W.heap.size W Y := hX4W.trans (hmg.belowOf hX4W.size fun i hi => by have := hlvp i (by simpa using hi); omega)
  have hbl := hm3.lt
  refine ⟨a', n', c', Y, hrun, y0, hfY, ⟨hYW.trans (hmp.belowOf hYW.size (by simpa using hle)), hle, World.cell?_setCell_same _ _ _ y0, ?_, by simpa using hfY, ho.mod hmp (fun g hg' => ?_), hpb, by rw [List.map_append]; exact hm6, ?_, ?_⟩, ?_⟩
  · rw [World.cell?_setCell_other _ _ _ _ (by intro e; cases e)]; exact y1
  · have := (Own.lt ho g hg').1
    simp; omega
  · intro z hz
    rcases List.mem_append.1 hz with hz | hz
    · exact h.each z hz
    · simp only [List.mem_singleton] at hz; subst hz; exact hy
  · intro z hz
    rcases List.mem_append.1 hz with hz | hz
    · exact h.good z hz
    · simp only [List.mem_singleton] at hz; subst hz; exact hg
  · have r3 := hr.row.mod lsC_len hmod fun x hx q => hr3 _ q ⟨x, hx, rfl⟩
    have r4 := r3.below lsC_len hb4
    have r5 := r4.mod lsC_len hmg fun x hx q => hr.nl x.block (by simpa using q) ⟨x, hx, rfl⟩
    have r6 := r5.mod lsC_len hmp fun x hx => by simp; intro e; exact hr.np ⟨x, hx, e⟩
    have s4 := hs3.kept (grown_of hb4 none) hbl (by simp)
    have s5 := s4.kept hgr (by have := hb4.size; omega) (fun e => hm3.ne e.symm)
    have s6 := s5.kept hgp (by have := hmg.size; have := hb4.size; omega) hbp
    refine ⟨r6, s6, hr.np, hr.nb, fun g hg' => ?_, fun g hg' => ?_⟩
    · rcases hat with e | e
      · rw [e] at hg'; exact hr.nl g hg'
      · rw [e] at hg'
        cases hg'
        intro q
        have := hr.lt _ q
        have := hmod.size
        simp at *
        omega
    · have := hr.lt _ hg'
      have := hmod.size
      have := hmg.size
      have := hb4.size
      have := hmp.size
      omega
end Go.Proofs.Ytpgdkgilmcipkaa
