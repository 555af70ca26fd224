/- The contracts of ring's NewTop and of a Top's Push, Clear, Max, Min. Conditions: a ring of 1 to 2000 cells; at most 1000000 numbers at once. -/
import Derived.Test.YtgdijnmanhglnaaRingT
namespace Go.Proofs.Ytgdijnmanhglnaa
open Go.RowKit
set_option linter.unusedVariables false
set_option maxRecDepth 100000

theorem best_above {W : World} {t b g n : Nat} {xs zs : List Int} (h : TopOn W t b g n (pushL n xs zs)) (hn : n ≤ 2000) (hx : xs.length ≤ n) (p : Nat) (hp : bestAt true xs p) (hf : zs.length ≤ 1000000) :
    Calls Try.prog 30 #[.pointer (some ⟨t, 0, none⟩), .int .i64 p, .int .i64 zs.length, .func (.func 31) #[] #[]] W fun e w' => ∃ r : Nat, e = .returned (.int .i64 r) ∧ bestAt true (pushL n xs zs) r ∧ w' = W := by
  by_cases hw : p + zs.length < (pushL n xs zs).length
  · exact best_kept_true h hn p zs.length hp.1 hf hw (fun q h1 h2 => best_stays hp hx hw h1 h2) (fun q h1 h2 => best_was hp hx hw h1 h2)
  · exact best_anew_true h hn p zs.length hp.1 hf (by omega)
theorem best_below {W : World} {t b g n : Nat} {xs zs : List Int} (h : TopOn W t b g n (pushL n xs zs)) (hn : n ≤ 2000) (hx : xs.length ≤ n) (p : Nat) (hp : bestAt false xs p) (hf : zs.length ≤ 1000000) :
    Calls Try.prog 30 #[.pointer (some ⟨t, 0, none⟩), .int .i64 p, .int .i64 zs.length, .func (.func 32) #[] #[]] W fun e w' => ∃ r : Nat, e = .returned (.int .i64 r) ∧ bestAt false (pushL n xs zs) r ∧ w' = W := by
  by_cases hw : p + zs.length < (pushL n xs zs).length
  · exact best_kept_false h hn p zs.length hp.1 hf hw (fun q h1 h2 => best_stays hp hx hw h1 h2) (fun q h1 h2 => best_was hp hx hw h1 h2)
  · exact best_anew_false h hn p zs.length hp.1 hf (by omega)
/-- A top in memory: its struct at block t, its ring at b and g. -/
structure TopAt (W : World) (t b g n : Nat) (xs : List Int) (p q : Nat) : Prop where
  c0 : W.cell? ⟨t, 0, none⟩ = some (.pointer (some ⟨b, 0, none⟩))
  c1 : W.cell? ⟨t, 1, none⟩ = some (.int .i64 p)
  c2 : W.cell? ⟨t, 2, none⟩ = some (.int .i64 q)
  f : ∀ i, W.frozen? ⟨t, i, none⟩ = false
  ring : RingIs W b g n xs
  nb : t ≠ b
  ng : t ≠ g
  bp : bestAt true xs p
  bq : bestAt false xs q
def TopIs (W : World) (t b g n : Nat) (xs : List Int) : Prop := ∃ p q, TopAt W t b g n xs p q
theorem TopAt.lt {W : World} {t b g n p q : Nat} {xs : List Int} (h : TopAt W t b g n xs p q) : t < W.heap.size := World.block_lt_of_cell? W _ h.c0
theorem TopAt.on {W : World} {t b g n p q : Nat} {xs : List Int} (h : TopAt W t b g n xs p q) : TopOn W t b g n xs := ⟨h.c0, h.ring⟩
theorem TopIs.ring {W : World} {t b g n : Nat} {xs : List Int} (h : TopIs W t b g n xs) : RingIs W b g n xs := by obtain ⟨p, q, h⟩ := h; exact h.ring
theorem TopIs.c0 {W : World} {t b g n : Nat} {xs : List Int} (h : TopIs W t b g n xs) : W.cell? ⟨t, 0, none⟩ = some (.pointer (some ⟨b, 0, none⟩)) := by obtain ⟨p, q, h⟩ := h; exact h.c0
theorem TopIs.lt {W : World} {t b g n : Nat} {xs : List Int} (h : TopIs W t b g n xs) : t < W.heap.size ∧ b < W.heap.size ∧ g < W.heap.size := by
  obtain ⟨p, q, h⟩ := h; exact ⟨h.lt, h.ring.lt⟩
theorem TopIs.mod {S : List Nat} {W W' : World} {t b g n : Nat} {xs : List Int} (h : TopIs W t b g n xs) (k : Mod S W W') (ht : t ∉ S) (hb : b ∉ S) (hg : g ∉ S) : TopIs W' t b g n xs := by
  obtain ⟨p, q, h⟩ := h
  exact ⟨p, q, k.cell h.c0 ht, k.cell h.c1 ht, k.cell h.c2 ht, fun i => (k.frozen h.lt ht).trans (h.f i), h.ring.mod k hb hg, h.nb, h.ng, h.bp, h.bq⟩
theorem TopIs.below {W W' : World} {t b g n : Nat} {xs : List Int} (h : TopIs W t b g n xs) (k : Below W.heap.size W W') : TopIs W' t b g n xs :=
  h.mod (S := []) (Mod.of_below k) (by simp) (by simp) (by simp)
/-- Behind a change of the ring and stores of both places. -/
theorem TopAt.stored {W W1 : World} {t b g n p q : Nat} {xs ys : List Int} (h : TopAt W t b g n xs p q) (k : Mod [b, g] W W1) (hr : RingIs W1 b g n ys) (p' q' : Nat) (bp : bestAt true ys p') (bq : bestAt false ys q') :
    TopIs ((W1.setCell ⟨t, 1, none⟩ (.int .i64 p')).setCell ⟨t, 2, none⟩ (.int .i64 q')) t b g n ys := by
  have hs : t ∉ [b, g] := by simp [h.nb, h.ng]
  have hf : ∀ i, W1.frozen? ⟨t, i, none⟩ = false := fun i => (k.frozen h.lt hs).trans (h.f i)
  refine ⟨p', q', ?_, ?_, ?_, fun i => by simp [hf], ?_, h.nb, h.ng, bp, bq⟩
  · rw [cell_oo _ _ _ _ _ _ (by omega), cell_oo _ _ _ _ _ _ (by omega)]; exact k.cell h.c0 hs
  · rw [cell_oo _ _ _ _ _ _ (by omega)]; exact World.cell?_setCell_same _ _ _ (k.cell h.c1 hs)
  · have e : (W1.setCell ⟨t, 1, none⟩ (.int .i64 p')).cell? ⟨t, 2, none⟩ = some (.int .i64 q) := by rw [cell_oo _ _ _ _ _ _ (by omega)]; exact k.cell h.c2 hs
    exact World.cell?_setCell_same _ _ _ e
  · exact hr.mod (S := [t]) (((Mod.refl _ _).setCell _ _ _ (by simp)).setCell _ _ _ (by simp)) (by simp; exact fun e => h.nb e.symm) (by simp; exact fun e => h.ng e.symm)
set_option maxHeartbeats 4000000 in
theorem tpush_any {W : World} {t b g n : Nat} {xs : List Int} (h : TopIs W t b g n xs) (hn : n ≤ 2000) (a : Option Addr) (zs : List Int) (cap : Nat) (hz : IntRow W a zs) (ho : 0 < zs.length → Off a [t, b, g]) (hl : zs.length ≤ 1000000) :
    Calls Try.prog 13 #[.pointer (some ⟨t, 0, none⟩), .slice a zs.length cap] W fun e w' => e = .returned (.tuple #[]) ∧ TopIs w' t b g n (pushL n xs zs) ∧ Mod [t, b, g] W w' := by
  obtain ⟨p, q, T⟩ := h
  have HT : Hid (TopAt W t b g n xs p q) := T
  have HZ : Hid (IntRow W a zs) := hz
  have HO : Hid (0 < zs.length → Off a [b, g]) := fun h0 x hx hm => ho h0 x hx (by simp at hm ⊢; exact Or.inr hm)
  have HN : Hid (n ≤ 2000 ∧ zs.length ≤ 1000000 ∧ xs.length ≤ n) := ⟨hn, hl, T.ring.len⟩
  have HS : Hid (t ∉ [b, g]) := by show t ∉ [b, g]; simp [T.nb, T.ng]
  have c0 := T.c0
  clear T hz ho
  go_enter Try.func13, Try.ntmps13
  go_wp2_with fail
  refine Calls.mono (push_any HT.out.ring hn a zs cap HZ.out HO.out (by omega)) ?_
  rintro e w1 ⟨rfl, h1, m1⟩
  have H1 : Hid (RingIs w1 b g n (pushL n xs zs)) := h1
  have M1 : Hid (Mod [b, g] W w1) := m1
  have d0 := m1.cell HT.out.c0 HS.out
  have d1 := m1.cell HT.out.c1 HS.out
  have d2 := m1.cell HT.out.c2 HS.out
  have f1 := (m1.frozen (i := 1) HT.out.lt HS.out).trans (HT.out.f 1)
  have f2 := (m1.frozen (i := 2) HT.out.lt HS.out).trans (HT.out.f 2)
  clear h1 m1 c0
  go_wp2_with fail
  refine Calls.mono (best_above ⟨d0, H1.out⟩ HN.out.1 HN.out.2.2 p HT.out.bp HN.out.2.1) ?_
  rintro e w' ⟨r1, rfl, hb1, hw⟩
  have hw' := hw.symm; subst hw'; clear hw
  have B1 : Hid (bestAt true (pushL n xs zs) r1) := hb1
  clear hb1
  go_wp2_with fail
  refine Calls.mono (best_below (W := w1.setCell ⟨t, 1, none⟩ (.int .i64 r1)) ⟨by rw [cell_oo _ _ _ _ _ _ (by omega)]; exact d0, H1.out.mod (S := [t]) ((Mod.refl _ _).setCell _ _ _ (by simp)) (by simp; exact fun e => HT.out.nb e.symm) (by simp; exact fun e => HT.out.ng e.symm)⟩ HN.out.1 HN.out.2.2 q HT.out.bq HN.out.2.1) ?_
  rintro e w2 ⟨r2, rfl, hb2, hw⟩
  have B2 : Hid (bestAt false (pushL n xs zs) r2) := hb2
  subst hw
  clear hb2
  go_wp2
  first | go_end0 | refine bodyPost_ret (results_none rfl _ _ _) rfl ?_
  exact ⟨rfl, HT.out.stored M1.out H1.out r1 r2 B1.out B2.out, ((M1.out.mono (by simp)).setCell _ _ _ (by simp)).setCell _ _ _ (by simp)⟩
theorem below_drewN {B : Nat} {a w : World} (h : Below B a w) (n : Nat) : Below B a (w.drewN n) := ⟨h.os, h.tape, h.output, h.size, h.block⟩
theorem RingIs.drewN {W : World} {b g n : Nat} {xs : List Int} (h : RingIs W b g n xs) (k : Nat) : RingIs (W.drewN k) b g n xs := h.below (below_drewN (Below.refl _ _) k)
/-- The best value of a list; 0 where none is there. -/
def topV (s : Bool) (xs : List Int) : Int := xs.foldl (fun m x => if betB s x m then x else m) (xs.headD 0)
theorem fold_best (s : Bool) (l : List Int) (m : Int) : (l.foldl (fun m x => if betB s x m then x else m) m = m ∨ l.foldl (fun m x => if betB s x m then x else m) m ∈ l) ∧ betB s m (l.foldl (fun m x => if betB s x m then x else m) m) = false ∧ ∀ x ∈ l, betB s x (l.foldl (fun m x => if betB s x m then x else m) m) = false := by
  induction l generalizing m with
  | nil => exact ⟨Or.inl rfl, betB_self _ _, fun x hx => by simp at hx⟩
  | cons y l ih =>
    obtain ⟨h1, h2, h3⟩ := ih (if betB s y m then y else m)
    rw [List.foldl_cons]
    by_cases hb : betB s y m = true
    · rw [if_pos hb] at h1 h2 h3 ⊢
      refine ⟨?_, betB_trans (betB_asym hb) h2, ?_⟩
      · rcases h1 with h | h
        · right; rw [h]; exact List.mem_cons_self
        · right; exact List.mem_cons_of_mem _ h
      · intro x hx
        rcases List.mem_cons.1 hx with rfl | hx
        · exact h2
        · exact h3 x hx
    · rw [if_neg hb] at h1 h2 h3 ⊢
      refine ⟨?_, h2, ?_⟩
      · rcases h1 with h | h
        · left; exact h
        · right; exact List.mem_cons_of_mem _ h
      · intro x hx
        rcases List.mem_cons.1 hx with rfl | hx
        · exact betB_trans (by simpa using hb) h2
        · exact h3 x hx
theorem topV_mem (s : Bool) (xs : List Int) (h : 0 < xs.length) : topV s xs ∈ xs := by
  cases xs with
  | nil => simp at h
  | cons x l =>
    unfold topV
    rcases (fold_best s (x :: l) x).1 with e | e
    · show List.foldl _ x (x :: l) ∈ _; rw [e]; exact List.mem_cons_self
    · exact e
theorem topV_best (s : Bool) (xs : List Int) (x : Int) (h : x ∈ xs) : betB s x (topV s xs) = false := (fold_best s xs _).2.2 x h
theorem betB_antisymm {s : Bool} {x y : Int} (h : betB s x y = false) (k : betB s y x = false) : x = y := by
  unfold betB at *; cases s <;> simp at * <;> omega
theorem atL_mem {xs : List Int} {i : Nat} (h : i < xs.length) : atL xs i ∈ xs := by
  unfold atL; rw [List.getD_eq_getElem?_getD, List.getElem?_eq_getElem h]; exact List.getElem_mem h
theorem bestAt_top {s : Bool} {xs : List Int} {p : Nat} (h : bestAt s xs p) (h0 : 0 < xs.length) : atL xs p = topV s xs := by
  obtain ⟨h1, h2⟩ := h.2 h0
  refine betB_antisymm (topV_best s xs _ (atL_mem h1)) ?_
  obtain ⟨i, hi, e⟩ := List.getElem_of_mem (topV_mem s xs h0)
  have := h2 i hi
  rw [List.getD_eq_getElem?_getD, List.getElem?_eq_getElem hi] at this
  rw [← e]; exact this
/-- The error of Max and Min. -/
def topE (xs : List Int) : Int := if xs.length = 0 then 3 else 0
theorem ago_top {s : Bool} {xs : List Int} {p : Nat} (h : bestAt s xs p) : agoV xs p = topV s xs ∧ agoE xs p = topE xs := by
  by_cases h0 : xs.length = 0
  · obtain rfl : xs = [] := List.length_eq_zero_iff.1 h0
    refine ⟨by rw [agoV_nat]; rfl, ?_⟩
    unfold agoE topE; rw [if_neg (by simp), if_pos h0]
  · obtain ⟨h1, h2⟩ := h.2 (by omega)
    refine ⟨by rw [agoV_nat]; exact bestAt_top h (by omega), ?_⟩
    unfold agoE topE; rw [if_pos (by omega), if_neg h0]
theorem tmax_any {W : World} {t b g n : Nat} {xs : List Int} (h : TopIs W t b g n xs) (hn : n ≤ 2000) :
    Calls Try.prog 19 #[.pointer (some ⟨t, 0, none⟩)] W fun e w' => e = .returned (.tuple #[.int .i64 (topV true xs), .int .i64 (topE xs)]) ∧ Below W.heap.size W w' := by
  obtain ⟨p, q, T⟩ := h
  have c0 := T.c0
  have c1 := T.c1
  have ha := fun k => ago_any (T.ring.drewN k) hn p
  rw [(ago_top T.bp).1, (ago_top T.bp).2] at ha
  have HA : Hid (∀ k, Calls Try.prog 15 #[.pointer (some ⟨b, 0, none⟩), .int .i64 p] (W.drewN k) fun e w' => e = .returned (.tuple #[.int .i64 (topV true xs), .int .i64 (topE xs)]) ∧ w' = W.drewN k) := ha
  clear T ha
  go_enter Try.func19, Try.ntmps19
  go_wp2_with fail
  go_quiet ((go_at_call 15; exact Calls.quiet_of_same (HA.out _)))
  go_wp2
  go_ret2
  exact ⟨rfl, below_drewN (Below.refl _ _) _⟩
theorem tmin_any {W : World} {t b g n : Nat} {xs : List Int} (h : TopIs W t b g n xs) (hn : n ≤ 2000) :
    Calls Try.prog 20 #[.pointer (some ⟨t, 0, none⟩)] W fun e w' => e = .returned (.tuple #[.int .i64 (topV false xs), .int .i64 (topE xs)]) ∧ Below W.heap.size W w' := by
  obtain ⟨p, q, T⟩ := h
  have c0 := T.c0
  have c1 := T.c2
  have ha := fun k => ago_any (T.ring.drewN k) hn q
  rw [(ago_top T.bq).1, (ago_top T.bq).2] at ha
  have HA : Hid (∀ k, Calls Try.prog 15 #[.pointer (some ⟨b, 0, none⟩), .int .i64 q] (W.drewN k) fun e w' => e = .returned (.tuple #[.int .i64 (topV false xs), .int .i64 (topE xs)]) ∧ w' = W.drewN k) := ha
  clear T ha
  go_enter Try.func20, Try.ntmps20
  go_wp2_with fail
  go_quiet ((go_at_call 15; exact Calls.quiet_of_same (HA.out _)))
  go_wp2
  go_ret2
  exact ⟨rfl, below_drewN (Below.refl _ _) _⟩
set_option maxHeartbeats 2000000 in
theorem tclear_any {W : World} {t b g n : Nat} {xs : List Int} (h : TopIs W t b g n xs) :
    Calls Try.prog 18 #[.pointer (some ⟨t, 0, none⟩)] W fun e w' => e = .returned (.tuple #[]) ∧ TopIs w' t b g n [] ∧ Mod [t, b, g] W w' := by
  obtain ⟨p, q, T⟩ := h
  have HT : Hid (TopAt W t b g n xs p q) := T
  have HS : Hid (t ∉ [b, g]) := by show t ∉ [b, g]; simp [T.nb, T.ng]
  have c0 := T.c0
  clear T
  go_enter Try.func18, Try.ntmps18
  go_wp2_with fail
  refine Calls.mono (clear_any HT.out.ring) ?_
  rintro e w1 ⟨rfl, h1, m1⟩
  have H1 : Hid (RingIs w1 b g n []) := h1
  have M1 : Hid (Mod [b, g] W w1) := m1
  have d0 := m1.cell HT.out.c0 HS.out
  have d1 := m1.cell HT.out.c1 HS.out
  have d2 := m1.cell HT.out.c2 HS.out
  have f1 := (m1.frozen (i := 1) HT.out.lt HS.out).trans (HT.out.f 1)
  have f2 := (m1.frozen (i := 2) HT.out.lt HS.out).trans (HT.out.f 2)
  clear h1 m1 c0
  go_wp2
  try (go_region; go_wp2)
  all_goals (first | go_end0 | refine bodyPost_ret (results_none rfl _ _ _) rfl ?_)
  all_goals exact ⟨rfl, HT.out.stored M1.out H1.out 0 0 (bestAt_nil _ _ (by omega)) (bestAt_nil _ _ (by omega)), ((M1.out.mono (by simp)).setCell _ _ _ (by simp)).setCell _ _ _ (by simp)⟩
theorem newtop_bad (n : Int) (W : World) (h : n < 1 ∨ 2000 < n) : Calls Try.prog 11 #[.int .i64 n] W fun e w' => e = .returned (.tuple #[.pointer none, .int .i64 1]) ∧ w' = W := by
  go_enter Try.func11, Try.ntmps11
  go_wp2_with fail
  refine Calls.mono (new_bad n W h) ?_
  rintro e w' ⟨rfl, hw⟩
  have hw' := hw.symm; subst hw'; clear hw
  go_wp2
  go_ret2
  exact ⟨rfl, rfl⟩
theorem newtop_ok (n : Nat) (W : World) (h1 : 1 ≤ n) (h2 : n ≤ 2000) : Calls Try.prog 11 #[.int .i64 n] W fun e w' => ∃ t b g, e = .returned (.tuple #[.pointer (some ⟨t, 0, none⟩), .int .i64 0]) ∧ W.heap.size ≤ t ∧ W.heap.size ≤ b ∧ W.heap.size ≤ g ∧ TopIs w' t b g n [] ∧ Below W.heap.size W w' := by
  go_enter Try.func11, Try.ntmps11
  go_wp2_with fail
  refine Calls.mono (new_ok n W h1 h2) ?_
  rintro e w1 ⟨b, g, rfl, hb, hg, hr, hbel⟩
  have H : Hid (W.heap.size ≤ b ∧ W.heap.size ≤ g ∧ RingIs w1 b g n [] ∧ Below W.heap.size W w1) := ⟨hb, hg, hr, hbel⟩
  clear hb hg hr hbel
  go_wp2
  go_ret2
  obtain ⟨hb, hg, hr, hbel⟩ := H.out
  have l := hr.lt
  exact ⟨_, b, g, rfl, hbel.size, hb, hg, ⟨0, 0, by simp, by simp, by simp, fun i => World.frozen?_alloc_at _ _ _ _ rfl, hr.below ((Below.refl _ _).alloc (Nat.le_refl _) _), by omega, by omega, bestAt_nil _ _ (by omega), bestAt_nil _ _ (by omega)⟩, hbel.alloc hbel.size _⟩
end Go.Proofs.Ytgdijnmanhglnaa
