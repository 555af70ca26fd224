/- And and or: false says nothing, twice the same says it once; what can be handed on. Conditions: at most 10^6 nodes a list. -/
import Derived.Test.YtpgdkgilmcipkaaCp4
namespace Go.Proofs.Ytpgdkgilmcipkaa
open Go.RowKit
set_option linter.unusedVariables false
set_option maxRecDepth 100000

theorem addN_skip {M : List (List Nd)} {x : List Nd} (h : isB x 1 = true ∨ x ∈ M) : addN M x = M := by
  unfold addN
  rcases h with h | h
  · rw [h]; rfl
  · have : M.any (fun y => sameB y x) = true := by rw [List.any_eq_true]; exact ⟨x, h, same_refl x⟩
    rw [this]; simp
theorem addN_in (M : List (List Nd)) (x : List Nd) : (isB x 1 = true ∨ x ∈ addN M x) ∧ ∀ y ∈ M, y ∈ addN M x := by
  unfold addN
  split
  · rename_i h
    refine ⟨?_, fun y hy => hy⟩
    rcases Bool.or_eq_true_iff.1 h with h | h
    · exact .inl h
    · rw [List.any_eq_true] at h
      obtain ⟨y, hy, hs⟩ := h
      rw [← (sameB_iff _ _).1 hs]; exact .inr hy
  · exact ⟨.inr (by simp), fun y hy => by simp [hy]⟩
theorem foldN_in (l : List (List Nd)) : ∀ M : List (List Nd), (∀ x ∈ l, isB x 1 = true ∨ x ∈ l.foldl addN M) ∧ ∀ y ∈ M, y ∈ l.foldl addN M := by
  induction l with
  | nil => intro M; exact ⟨fun x hx => by simp at hx, fun y hy => hy⟩
  | cons x l ih =>
    intro M
    obtain ⟨h1, h2⟩ := ih (addN M x)
    obtain ⟨k1, k2⟩ := addN_in M x
    refine ⟨fun y hy => ?_, fun y hy => h2 y (k2 y hy)⟩
    rcases List.mem_cons.1 hy with rfl | hy
    · exact k1.imp id fun q => h2 _ q
    · exact h1 y hy
theorem foldN_skip (l : List (List Nd)) (M : List (List Nd)) (h : ∀ x ∈ l, isB x 1 = true ∨ x ∈ M) : l.foldl addN M = M := by
  induction l with
  | nil => rfl
  | cons x l ih =>
    simp only [List.foldl_cons]
    rw [addN_skip (h x (by simp)), ih fun y hy => h y (by simp [hy])]
theorem flatO_append (A B : List (List Nd)) : flatO (A ++ B) = flatO A ++ flatO B := by unfold flatO; simp
theorem orL_some {A B : List (List Nd)} (h : someN A = someN B) : orL A = orL B := by unfold orL; rw [h]
/-- False says nothing in an or. -/
theorem orL_ff (A : List (List Nd)) : orL (A ++ [[ff]]) = orL A := by
  refine orL_some ?_
  unfold someN
  rw [flatO_append, List.foldl_append]
  exact foldN_skip _ _ fun x hx => by
    have : x = [ff] := by simpa [flatO, isB, ff] using hx
    subst this; exact .inl rfl
/-- Twice the same says it once. -/
theorem orL_twice (x : List Nd) : orL [x, x] = orL [x] := by
  refine orL_some ?_
  unfold someN
  have : flatO [x, x] = flatO [x] ++ flatO [x] := flatO_append [x] [x]
  rw [this, List.foldl_append]
  exact foldN_skip _ _ (foldN_in (flatO [x]) []).1
theorem andL_tt (a b : List Nd) : andL [a, b, [tt]] = andL [a, b] := by
  unfold andL
  have : notL [tt] = [ff] := rfl
  simp only [List.map_cons, List.map_nil, this]
  exact congrArg notL (orL_ff [notL a, notL b])
theorem andL_twice (a : List Nd) : andL [a, a] = andL [a] := by
  unfold andL
  simp only [List.map_cons, List.map_nil]
  rw [orL_twice]
theorem andL_good {l : List (List Nd)} (h : ∀ n ∈ l, GoodN n) : GoodN (andL l) := notL_good (orL_good fun n hn => by
  obtain ⟨m, hm, rfl⟩ := List.mem_map.1 hn
  exact notL_good (h m hm))
theorem andL_len (l : List (List Nd)) : (andL l).length ≤ totN l + l.length + 2 := by
  unfold andL
  have h1 := notL_len (orL (l.map notL))
  have h2 := orL_len (l.map notL)
  have h3 := map_notL_tot l
  omega
/-- A list with where it lies, that can be handed on. -/
structure Pc (X : World) (a : Option Addr) (c : Nat) (ys : List NdV) (l : List Nd) : Prop where
  at' : NdsAt X a c ys
  eq : ys.map (·.x) = l
  good : GoodN l
  len : ys.length ≤ 1000000
theorem Pc.below {X Y : World} {a : Option Addr} {c : Nat} {ys : List NdV} {l : List Nd} (h : Pc X a c ys l) (k : Below X.heap.size X Y) : Pc Y a c ys l := ⟨h.at'.below k, h.eq, h.good, h.len⟩
theorem Pc.nds {X : World} {a : Option Addr} {c : Nat} {ys : List NdV} {l : List Nd} (h : Pc X a c ys l) : (⟨ys, a, c⟩ : LsV).nds = l := h.eq
theorem Makes.pc {W W' : World} {l : List Nd} {e : Ending} (h : Makes W l e W') (hg : GoodN l) (hl : l.length ≤ 1000000) : ∃ a zs c, e = .returned (.slice a zs.length c) ∧ Pc W' a c zs l ∧ Below W.heap.size W W' := by
  obtain ⟨v, rfl, h⟩ := h.ret
  obtain ⟨a, zs, c, rfl, h1, _, h3, h4⟩ := h.at hg (by omega)
  exact ⟨a, zs, c, rfl, ⟨h1, h3, hg, by have := congrArg List.length h3; rw [List.length_map] at this; omega⟩, h4⟩
theorem pc_and2 {X : World} {a b : Option Addr} {c d : Nat} {ys zs : List NdV} {l m : List Nd} (h : Pc X a c ys l) (k : Pc X b d zs m) : Calls Try.prog 17 #[.slice (some ⟨X.heap.size, 0, none⟩) 2 2] (X.alloc (.cells #[.slice a ys.length c, .slice b zs.length d] 28)) (Makes X (andL [l, m])) := by
  have := and_any _ 2 _ _ (lss_two h.at' k.at') (fun y hy => by
    simp only [List.mem_cons, List.not_mem_nil, or_false] at hy
    rcases hy with rfl | rfl
    · rw [h.nds]; exact h.good
    · rw [k.nds]; exact k.good) (by have := h.len; have := k.len; simp [tot]; omega)
  have e : [(⟨ys, a, c⟩ : LsV), ⟨zs, b, d⟩].map LsV.nds = [l, m] := by simp only [List.map_cons, List.map_nil, h.nds, k.nds]
  rw [e] at this
  exact this.mono fun e W' q => q.up ((Below.refl _ _).alloc (Nat.le_refl _) _)
theorem pc_or2 {X : World} {a b : Option Addr} {c d : Nat} {ys zs : List NdV} {l m : List Nd} (h : Pc X a c ys l) (k : Pc X b d zs m) : Calls Try.prog 20 #[.slice (some ⟨X.heap.size, 0, none⟩) 2 2] (X.alloc (.cells #[.slice a ys.length c, .slice b zs.length d] 28)) (Makes X (orL [l, m])) := by
  have := or_any _ 2 _ _ (lss_two h.at' k.at') (fun y hy => by
    simp only [List.mem_cons, List.not_mem_nil, or_false] at hy
    rcases hy with rfl | rfl
    · rw [h.nds]; exact h.good
    · rw [k.nds]; exact k.good) (by have := h.len; have := k.len; simp [tot]; omega)
  have e : [(⟨ys, a, c⟩ : LsV), ⟨zs, b, d⟩].map LsV.nds = [l, m] := by simp only [List.map_cons, List.map_nil, h.nds, k.nds]
  rw [e] at this
  exact this.mono fun e W' q => q.up ((Below.refl _ _).alloc (Nat.le_refl _) _)
theorem pc_and1 {X : World} {a : Option Addr} {c : Nat} {ys : List NdV} {l : List Nd} (h : Pc X a c ys l) : Calls Try.prog 17 #[.slice (some ⟨X.heap.size, 0, none⟩) 1 1] (X.alloc (.cells #[.slice a ys.length c] 28)) (Makes X (andL [l])) := by
  have := and_any _ 1 _ _ (lss_one h.at') (fun y hy => by simp only [List.mem_singleton] at hy; subst hy; rw [h.nds]; exact h.good) (by have := h.len; simp [tot]; omega)
  have e : [(⟨ys, a, c⟩ : LsV)].map LsV.nds = [l] := by simp only [List.map_cons, List.map_nil, h.nds]
  rw [e] at this
  exact this.mono fun e W' q => q.up ((Below.refl _ _).alloc (Nat.le_refl _) _)
theorem pc_three {X : World} {a b u : Option Addr} {c d v : Nat} {ys zs us : List NdV} {l m n : List Nd} (h : Pc X a c ys l) (k : Pc X b d zs m) (j : Pc X u v us n) :
    Calls Try.prog 17 #[.slice (some ⟨X.heap.size, 0, none⟩) 3 3] (X.alloc (.cells #[.slice a ys.length c, .slice b zs.length d, .slice u us.length v] 28)) (Makes X (andL [l, m, n])) ∧ Calls Try.prog 20 #[.slice (some ⟨X.heap.size, 0, none⟩) 3 3] (X.alloc (.cells #[.slice a ys.length c, .slice b zs.length d, .slice u us.length v] 28)) (Makes X (orL [l, m, n])) := by
  have hg : ∀ y ∈ [(⟨ys, a, c⟩ : LsV), ⟨zs, b, d⟩, ⟨us, u, v⟩], GoodN y.nds := fun y hy => by
    simp only [List.mem_cons, List.not_mem_nil, or_false] at hy
    rcases hy with rfl | rfl | rfl
    · rw [h.nds]; exact h.good
    · rw [k.nds]; exact k.good
    · rw [j.nds]; exact j.good
  have ht : tot [(⟨ys, a, c⟩ : LsV), ⟨zs, b, d⟩, ⟨us, u, v⟩] ≤ 3000000 := by have := h.len; have := k.len; have := j.len; simp [tot]; omega
  have e : [(⟨ys, a, c⟩ : LsV), ⟨zs, b, d⟩, ⟨us, u, v⟩].map LsV.nds = [l, m, n] := by simp only [List.map_cons, List.map_nil, h.nds, k.nds, j.nds]
  have h1 := and_any _ 3 _ _ (lss_three h.at' k.at' j.at') hg (by simp; omega)
  have h2 := or_any _ 3 _ _ (lss_three h.at' k.at' j.at') hg (by simp; omega)
  rw [e] at h1 h2
  exact ⟨h1.mono fun e W' q => q.up ((Below.refl _ _).alloc (Nat.le_refl _) _), h2.mono fun e W' q => q.up ((Below.refl _ _).alloc (Nat.le_refl _) _)⟩
theorem pc_not {X : World} {a : Option Addr} {c : Nat} {ys : List NdV} {l : List Nd} (h : Pc X a c ys l) : Calls Try.prog 19 #[.slice a ys.length c] X (Makes X (notL l)) := by
  have := not_any a c ys X h.at' (by have := h.len; omega)
  rw [h.eq] at this; exact this
theorem pc_same {X : World} {a b : Option Addr} {c d : Nat} {ys zs : List NdV} {l m : List Nd} (h : Pc X a c ys l) (k : Pc X b d zs m) (e : l = m) : Calls Try.prog 18 #[.slice a ys.length c, .slice b zs.length d] X fun e W' => e = .returned (.bool true) ∧ Below X.heap.size X W' := by
  have := same_nds h.at' k.at'
  rw [h.eq, k.eq, e, same_refl] at this; exact this
theorem pc_op (X : World) (op : Int) : Pc (X.alloc (.cells #[.int .i64 op, .int .i64 0, .int .i64 0, .int .i64 0, .slice none 0 0, .int .i64 0] 37)) (some ⟨X.heap.size, 0, none⟩) 1 [⟨⟨op, 0, 0, 0, [], 0⟩, none, 0⟩] [⟨op, 0, 0, 0, [], 0⟩] := ⟨op_nds X op 0 0 0, rfl, good_one, by simp⟩
end Go.Proofs.Ytpgdkgilmcipkaa
