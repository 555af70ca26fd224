/- The contracts of core's is, isNever, yes, no and of tree's Make. Conditions: at most 2^39 nodes in all, each of at most 2^40 terms. -/
import Derived.Test.YtipbjoeekbgnbaaBz6
namespace Go.Proofs.Ytipbjoeekbgnbaa
open Go.RowKit
set_option linter.unusedVariables false
set_option maxRecDepth 100000

def isB (l : List Nd) (op : Int) : Bool := match l with | [] => false | x :: _ => x.op == op
def neverB (fr to : Int) : Bool := to != -1 && decide (to < fr)
set_option maxHeartbeats 1000000 in
theorem never_any (fr to : Int) (W : World) : Calls Try.prog 53 #[.int .i64 fr, .int .i64 to] W fun e W' => e = .returned (.bool (neverB fr to)) ∧ W' = W := by
  by_cases h : to = -1
  · subst h
    go_enter Try.func53, Try.ntmps53
    go_wp2
    go_ret
    exact ⟨rfl, rfl⟩
  · have k1 : (to == -1) = false := by simpa using h
    have k2 : (to != -1) = true := by simpa using h
    have HE : Hid (neverB fr to = decide (to < fr)) := by simp [Hid, neverB, k2]
    clear h
    go_enter Try.func53, Try.ntmps53
    go_wp2
    go_ret
    exact ⟨ret_bool HE.out.symm, rfl⟩
/-- A new row of one element. -/
theorem Own.lit1 {X : Type} (C : X → List Value) (e : TypeId) (c : Nat) (hC : ∀ x, (C x).length = c) (W : World) (B : Nat) (hB : B ≤ W.heap.size) (x : X) (cs : Array Value) (hcs : cs.toList = C x) : Own C e c (W.alloc (.cells cs e)) B (.slice (some ⟨W.heap.size, 0, none⟩) 1 1) [x] :=
  ⟨by simp [cellsL, hC], .inr ⟨W.heap.size, 1, cs, rfl, hB, heap_alloc_new W _, Nat.le_refl _, by unfold maxLen; omega, by rw [← Array.length_toList, hcs, hC]; omega, by
    have : cs.toList.length = c := by rw [hcs, hC]
    simp [cellsL, hcs, ← this]⟩⟩
/-- What Make tells: what comes first, and lists behind it. -/
def MakeTells (W : World) (y : NdV) (L : List LsV) (e : Ending) (W' : World) : Prop := ∃ v zs, e = .returned v ∧ OwnN W' W.heap.size v zs ∧ zs.map (·.x) = { y.x with n := (L.length : Int) } :: (flat L).map (·.x) ∧ Below W.heap.size W W'
theorem nil_lss (W : World) : LssAt W none 0 [] := ⟨fun i hi => by simp at hi, fun _ => rfl, Nat.le_refl _, by simp, fun y hy => by cases hy⟩
def tt : Nd := ⟨0, 0, 0, 0, [], 0⟩
def ff : Nd := ⟨1, 0, 0, 0, [], 0⟩
/-- A node that has an Op alone. -/
def opV (op : Int) : NdV := ⟨⟨op, 0, 0, 0, [], 0⟩, none, 0⟩
theorem opV_tms (op : Int) (W : World) : TmsAt W (opV op) := ⟨fun i hi => by simp [opV] at hi, fun _ => rfl, by simp [opV], by simp [opV]⟩
/-- Nodes in rows of their own, as a list that is told. -/
def Makes (W : World) (l : List Nd) (e : Ending) (W' : World) : Prop := ∃ v zs, e = .returned v ∧ OwnN W' W.heap.size v zs ∧ zs.map (·.x) = l ∧ Below W.heap.size W W'
end Go.Proofs.Ytipbjoeekbgnbaa
