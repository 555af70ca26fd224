/- The contracts of trace's leaf, one and two. Conditions: at most 1000 rows and names, at most 2^30 terms. -/
import Derived.Test.YtipbjoeekbgnbaaTdA
namespace Go.Proofs.Ytipbjoeekbgnbaa
open Go.RowKit Go.Maps Go.ChangeShapes
set_option linter.unusedVariables false
set_option maxRecDepth 100000

def leafF (names : List ByteArray) (rows : List RwV) (x : Nd) : Nat → Bool := if x.op = 2 then atH names rows x else fun _ => x.op == 0
noncomputable def oneF (x : Nd) (p : Nat → Bool) : Nat → Bool :=
  if x.op = 7 then prevF p else if x.op = 8 then sinceF x.fr x.to (fun _ => true) p else if x.op = 9 then fun i => !sinceF x.fr x.to (fun _ => true) (fun i => !p i) i else fun i => !p i
noncomputable def twoF (x : Nd) (p q : Nat → Bool) : Nat → Bool :=
  if x.op = 4 then fun i => !((!p i) || (!q i)) else if x.op = 6 then fun i => (!p i) || q i else if x.op = 10 then sinceF x.fr x.to p q else fun i => p i || q i
theorem BoTells.up {W X : World} {n : Nat} {f : Nat → Bool} {e : Ending} {W' : World} (h : BoTells X n f e W') (k : Below W.heap.size W X) : BoTells W n f e W' := by
  obtain ⟨g, h1, h2, h3, h4⟩ := h
  exact ⟨g, h1, Nat.le_trans k.size h2, h3, k.trans (h4.mono k.size)⟩
theorem BoTells.congr {W : World} {n : Nat} {f f' : Nat → Bool} {e : Ending} {W' : World} (h : BoTells W n f e W') (k : f = f') : BoTells W n f' e W' := by subst k; exact h
theorem LookTells.of {W0 w : World} {g b : Nat} {names : List ByteArray} {ra : Option Addr} {rc : Nat} {rows : List RwV} {o : Nat} {Q : Nat → Prop} {f : Nat → Bool} {e : Ending} {W' : World} (hL : LookAt W0 w g b names ra rc rows o) (hQ : OvIs rows.length Q o) (h : BoTells w rows.length f e W') : LookTells W0 w g b names ra rc rows Q f e W' := by
  obtain ⟨r, h1, h2, h3, h4⟩ := h
  exact ⟨r, o, h1, h2, h3, hL.below h4, hQ, Mod.of_below h4⟩
theorem LookTells.up {W0 w X : World} {g b : Nat} {names : List ByteArray} {ra : Option Addr} {rc : Nat} {rows : List RwV} {Q Q' : Nat → Prop} {f f' : Nat → Bool} {e : Ending} {W' : World} (h : LookTells W0 X g b names ra rc rows Q f e W') (k : Below w.heap.size w X) (hQ : ∀ j, j < rows.length → (Q j ↔ Q' j)) (hf : f = f') : LookTells W0 w g b names ra rc rows Q' f' e W' := by
  obtain ⟨r, o, h1, h2, h3, h4, h5, h6⟩ := h
  subst hf
  exact ⟨r, o, h1, Nat.le_trans k.size h2, h3, h4, h5.congr hQ, (Mod.of_below k).trans h6⟩
theorem LookTells.ret {W0 w : World} {g b : Nat} {names : List ByteArray} {ra : Option Addr} {rc : Nat} {rows : List RwV} {Q : Nat → Prop} {f : Nat → Bool} {e : Ending} {W' : World} (h : LookTells W0 w g b names ra rc rows Q f e W') : ∃ r, e = .returned (.slice (some ⟨r, 0, none⟩) rows.length rows.length) ∧ LookTells W0 w g b names ra rc rows Q f (.returned (.slice (some ⟨r, 0, none⟩) rows.length rows.length)) W' := by
  obtain ⟨r, o, rfl, h⟩ := h; exact ⟨r, rfl, r, o, rfl, h⟩
theorem BoTells.ret {W : World} {n : Nat} {f : Nat → Bool} {e : Ending} {W' : World} (h : BoTells W n f e W') : ∃ r, e = .returned (.slice (some ⟨r, 0, none⟩) n n) ∧ BoTells W n f (.returned (.slice (some ⟨r, 0, none⟩) n n)) W' ∧ BoRow W' (some ⟨r, 0, none⟩) n f ∧ Below W.heap.size W W' := by
  obtain ⟨r, rfl, h, h1, h2⟩ := h; exact ⟨r, rfl, ⟨r, rfl, h, h1, h2⟩, h1, h2⟩
set_option maxHeartbeats 4000000 in
theorem leaf_any (W0 : World) (g b : Nat) (names : List ByteArray) (ra : Option Addr) (rc : Nat) (rows : List RwV) (o : Nat) (Q : Nat → Prop) (x : Nd) (ta : Option Addr) (tc : Nat) (W : World) (hL : LookAt W0 W g b names ra rc rows o) (hQ : OvIs rows.length Q o) (h : TermRow W0 ta x.terms) (hf : NamesFit x.terms) (hx : ∀ t ∈ x.terms, B64 t.times) (hnum : B64 x.num) (hrows : ∀ r ∈ rows, ∀ z ∈ r.zs, B64 z) (hn : names.length ≤ 1000) (hl : x.terms.length ≤ 1073741824) (hrl : rows.length ≤ 1000) :
    Calls Try.prog 45 #[.pointer (some ⟨g, 0, none⟩), .agg #[.int .i64 x.op, .int .i64 x.n, .int .i64 x.fr, .int .i64 x.to, .slice ta x.terms.length tc, .int .i64 x.num]] W (LookTells W0 W g b names ra rc rows (fun j => Q j ∨ (x.op = 2 ∧ atO names rows x j = true)) (leafF names rows x)) := by
  have HBY : Hid (Below W.heap.size W (W.alloc (.cells #[.int .i64 x.op, .int .i64 x.n, .int .i64 x.fr, .int .i64 x.to, .slice ta x.terms.length tc, .int .i64 x.num] 24))) := (Below.refl _ _).alloc (Nat.le_refl _) _
  have HLY := hL.below HBY.out
  by_cases hop : x.op = 2
  · have HA : Hid (Calls Try.prog 54 #[.pointer (some ⟨g, 0, none⟩), .agg #[.int .i64 x.op, .int .i64 x.n, .int .i64 x.fr, .int .i64 x.to, .slice ta x.terms.length tc, .int .i64 x.num]] (W.alloc (.cells #[.int .i64 x.op, .int .i64 x.n, .int .i64 x.fr, .int .i64 x.to, .slice ta x.terms.length tc, .int .i64 x.num] 24)) (LookTells W0 W g b names ra rc rows (fun j => Q j ∨ (x.op = 2 ∧ atO names rows x j = true)) (leafF names rows x))) :=
      (tatom_any W0 g b names ra rc rows o Q x ta tc _ HLY hQ h hf hx hnum hrows hn hl hrl).mono fun e W' hh => hh.up HBY.out (fun j _ => or_congr Iff.rfl ⟨fun q => ⟨hop, q⟩, fun q => q.2⟩) (by unfold leafF; rw [if_pos hop])
    clear hL hQ h hf hx hnum hrows HLY
    obtain ⟨op, n, fr, to, ts, num⟩ := x
    simp only at hop
    subst hop
    simp only at *
    go_enter Try.func45, Try.ntmps45
    go_wp2_with fail
    refine Calls.mono HA.out ?_
    intro e W2 hh
    obtain ⟨r, rfl, hh2⟩ := hh.ret
    have HH : Hid _ := hh2
    clear hh hh2
    go_wp2
    go_ret
    exact HH.out
  · have HLK : Hid (LookAt W0 W g b names ra rc rows o) := hL
    have HQ : Hid (OvIs rows.length (fun j => Q j ∨ (x.op = 2 ∧ atO names rows x j = true)) o) := hQ.congr fun j _ => ⟨.inl, fun q => q.elim id fun q => absurd q.1 hop⟩
    have HF : Hid (leafF names rows x = fun _ => x.op == 0) := by show _ = _; unfold leafF; rw [if_neg hop]
    have HALL : Hid (∀ X, Below (W.alloc (.cells #[.int .i64 x.op, .int .i64 x.n, .int .i64 x.fr, .int .i64 x.to, .slice ta x.terms.length tc, .int .i64 x.num] 24)).heap.size (W.alloc (.cells #[.int .i64 x.op, .int .i64 x.n, .int .i64 x.fr, .int .i64 x.to, .slice ta x.terms.length tc, .int .i64 x.num] 24)) X → X.cell? ⟨g, 1, none⟩ = some (.slice ra rows.length rc) ∧ X.cell? ⟨W.heap.size, 0, none⟩ = some (.int .i64 x.op)) := fun X hX => ⟨cell_up hX HLY.c1, cell_up hX (by simp [go_sem])⟩
    have hopB : (x.op == 2) = false := by simpa using hop
    have HC : Hid (∀ X, Calls Try.prog 55 #[.slice ra rows.length rc, .bool (x.op == 0)] X (BoTells X rows.length fun _ => x.op == 0)) := fun X => constant_tells ra rows.length rc (x.op == 0) X hrl
    clear hL hQ h hf hx hnum hrows HLY hop
    generalize leafF names rows x = lf at *
    generalize (fun j => Q j ∨ (x.op = 2 ∧ atO names rows x j = true)) = qf at *
    obtain ⟨op, n, fr, to, ts, num⟩ := x
    simp only at *
    go_enter Try.func45, Try.ntmps45
    go_wp2_with fail
    have HBC : Hid (Below (W.alloc (.cells #[.int .i64 op, .int .i64 n, .int .i64 fr, .int .i64 to, .slice ta ts.length tc, .int .i64 num] 24)).heap.size (W.alloc (.cells #[.int .i64 op, .int .i64 n, .int .i64 fr, .int .i64 to, .slice ta ts.length tc, .int .i64 num] 24)) (W.alloc (.cells #[.int .i64 op, .int .i64 n, .int .i64 fr, .int .i64 to, .slice ta ts.length tc, .int .i64 num] 24)).drew) := (Below.refl _ _).drew
    refine wp_region_held_drew (S := fun W' => W'.cell? ⟨g, 1, none⟩ = some (.slice ra rows.length rc) ∧ W'.cell? ⟨W.heap.size, 0, none⟩ = some (.int .i64 op)) (by kernel_rfl) (HALL.out _ HBC.out) (fun hHeld => ?_)
    refine wpAnyH_take (i := 0) (oi := { dst := some 11, op := Op.move (Operand.tmp 0), type := 90, pos := "look.go:73", after := #[], guard := none }) (v := ?_) rfl (by kernel_rfl) (by kernel_rfl) (by kernel_rfl) (fun _ _ _ h => h) (Or.inl ⟨by rfl, ?_⟩) hHeld ?_
    rotate_left
    · (intro w hSw; (try dsimp only at hSw); go_simp; all_goals (try with_reducible rfl))
    try simp only [Act.put, List.setIfInBounds_toArray, List.set_cons_zero, List.set_cons_succ]
    refine wpAnyH_take (i := 1) (oi := { dst := some 12, op := Op.nilCheck (Operand.tmp 11), type := 0, pos := "look.go:73", after := #[{ on := 0, ground := Ground.data }], guard := none }) (v := ?_) rfl (by kernel_rfl) (by kernel_rfl) (by kernel_rfl) (fun _ _ _ h => h) (Or.inl ⟨by rfl, ?_⟩) hHeld ?_
    rotate_left
    · (intro w hSw; (try dsimp only at hSw); go_simp; all_goals (try with_reducible rfl))
    try simp only [Act.put, List.setIfInBounds_toArray, List.set_cons_zero, List.set_cons_succ]
    refine wpAnyH_take (i := 2) (oi := { dst := some 13, op := Op.fieldAddr 76 (Operand.tmp 12) 1, type := 0, pos := "look.go:73", after := #[{ on := 1, ground := Ground.data }], guard := none }) (v := ?_) rfl (by kernel_rfl) (by kernel_rfl) (by kernel_rfl) (fun _ _ _ h => h) (Or.inl ⟨by rfl, ?_⟩) hHeld ?_
    rotate_left
    · (intro w hSw; (try dsimp only at hSw); go_simp; all_goals (try with_reducible rfl))
    try simp only [Act.put, List.setIfInBounds_toArray, List.set_cons_zero, List.set_cons_succ]
    refine wpAnyH_take (i := 3) (oi := { dst := some 14, op := Op.load 74 (Operand.tmp 13), type := 74, pos := "look.go:73", after := #[{ on := 2, ground := Ground.data }], guard := none }) (v := ?_) rfl (by kernel_rfl) (by kernel_rfl) (by kernel_rfl) (fun _ _ _ h => h) (Or.inl ⟨by rfl, ?_⟩) hHeld ?_
    rotate_left
    · (intro w hSw; (try dsimp only at hSw); go_simp; all_goals (try with_reducible rfl))
    try simp only [Act.put, List.setIfInBounds_toArray, List.set_cons_zero, List.set_cons_succ]
    refine wpAnyH_take (i := 4) (oi := { dst := some 15, op := Op.fieldAddr 24 (Operand.tmp 3) 0, type := 0, pos := "look.go:73", after := #[], guard := none }) (v := ?_) rfl (by kernel_rfl) (by kernel_rfl) (by kernel_rfl) (fun _ _ _ h => h) (Or.inl ⟨by rfl, ?_⟩) hHeld ?_
    rotate_left
    · (intro w hSw; (try dsimp only at hSw); go_simp; all_goals (try with_reducible rfl))
    try simp only [Act.put, List.setIfInBounds_toArray, List.set_cons_zero, List.set_cons_succ]
    refine wpAnyH_take (i := 5) (oi := { dst := some 16, op := Op.load 3 (Operand.tmp 15), type := 3, pos := "look.go:73", after := #[{ on := 4, ground := Ground.data }], guard := none }) (v := ?_) rfl (by kernel_rfl) (by kernel_rfl) (by kernel_rfl) (fun _ _ _ h => h) (Or.inl ⟨by rfl, ?_⟩) hHeld ?_
    rotate_left
    · (intro w hSw; (try dsimp only at hSw); go_simp; all_goals (try with_reducible rfl))
    try simp only [Act.put, List.setIfInBounds_toArray, List.set_cons_zero, List.set_cons_succ]
    refine wpAnyH_take (i := 6) (oi := { dst := some 17, op := Op.binOp BinOp.eql 3 (Operand.tmp 16) (Operand.const (Value.int IntKind.i64 0)) 3, type := 4, pos := "look.go:73", after := #[{ on := 5, ground := Ground.data }], guard := none }) (v := ?_) rfl (by kernel_rfl) (by kernel_rfl) (by kernel_rfl) (fun _ _ _ h => h) (Or.inl ⟨by rfl, ?_⟩) hHeld ?_
    rotate_left
    · (intro w hSw; (try dsimp only at hSw); go_simp; all_goals (try with_reducible rfl))
    try simp only [Act.put, List.setIfInBounds_toArray, List.set_cons_zero, List.set_cons_succ]
    refine wpAnyH_ready (rs := [7]) (by kernel_rfl) (by simp) ?_
    refine AllReadyH.cons (o := { dst := some 18, op := Op.call { callee := Callee.value (Operand.func 55), args := #[Operand.tmp 14, Operand.tmp 17], argTypes := #[74, 4] }, type := 77, pos := "look.go:73", after := #[{ on := 3, ground := Ground.data }, { on := 6, ground := Ground.data }], guard := none }) rfl (fun K hK => ?_) AllReadyH.nil
    go_simp
    refine Calls.mono (HC.out _) ?_
    intro e W4 hh
    obtain ⟨r, rfl, hh2, _, hb4⟩ := hh.ret
    have HH : Hid _ := hh2.up (HBY.out.trans (HBC.out.mono HBY.out.size))
    have HBC : Hid (Below (W.alloc (.cells #[.int .i64 op, .int .i64 n, .int .i64 fr, .int .i64 to, .slice ta ts.length tc, .int .i64 num] 24)).heap.size (W.alloc (.cells #[.int .i64 op, .int .i64 n, .int .i64 fr, .int .i64 to, .slice ta ts.length tc, .int .i64 num] 24)) W4) := HBC.out.trans (hb4.mono HBC.out.size)
    clear hh hh2 hb4
    go_wp2_with fail
    refine hK.out _ _ (HALL.out _ HBC.out) (fun hHeld => ?_)
    clear hK K
    try simp only [Act.put, List.setIfInBounds_toArray, List.set_cons_zero, List.set_cons_succ]
    refine wpAnyH_take (i := 8) (oi := { dst := some 4, op := Op.assign (Operand.tmp 18), type := 77, pos := "look.go:73", after := #[{ on := 7, ground := Ground.data }, { on := 7, ground := Ground.chain }, { on := 0, ground := Ground.phase }, { on := 1, ground := Ground.phase }, { on := 2, ground := Ground.phase }, { on := 3, ground := Ground.phase }, { on := 4, ground := Ground.phase }, { on := 5, ground := Ground.phase }, { on := 6, ground := Ground.phase }, { on := 7, ground := Ground.phase }], guard := none }) (v := ?_) rfl (by kernel_rfl) (by kernel_rfl) (by kernel_rfl) (fun _ _ _ h => h) (Or.inl ⟨by rfl, ?_⟩) hHeld ?_
    rotate_left
    · (intro w hSw; (try dsimp only at hSw); go_simp; all_goals (try with_reducible rfl))
    try simp only [Act.put, List.setIfInBounds_toArray, List.set_cons_zero, List.set_cons_succ]
    refine wpAnyH_done (by kernel_rfl) ?_ _
    go_wp2
    go_ret
    exact LookTells.of HLK.out HQ.out (BoTells.congr HH.out HF.out.symm)
end Go.Proofs.Ytipbjoeekbgnbaa

namespace Go.Proofs.Ytipbjoeekbgnbaa
open Go.RowKit Go.Maps Go.ChangeShapes
set_option linter.unusedVariables false
set_option maxRecDepth 100000

set_option maxHeartbeats 8000000 in
theorem one_any (W0 : World) (g b : Nat) (names : List ByteArray) (ra : Option Addr) (rc : Nat) (rows : List RwV) (o : Nat) (x : Nd) (ta : Option Addr) (tc : Nat) (pa : Option Addr) (pc : Nat) (p : Nat → Bool) (W : World) (hL : LookAt W0 W g b names ra rc rows o) (hp : BoRow W pa rows.length p) (hfr : (x.op = 8 ∨ x.op = 9) → 0 ≤ x.fr) (hrl : rows.length ≤ 1000) :
    Calls Try.prog 46 #[.pointer (some ⟨g, 0, none⟩), .agg #[.int .i64 x.op, .int .i64 x.n, .int .i64 x.fr, .int .i64 x.to, .slice ta x.terms.length tc, .int .i64 x.num], .slice pa rows.length pc] W (BoTells W rows.length (oneF x p)) := by
  have HBY : Hid (Below W.heap.size W (W.alloc (.cells #[.int .i64 x.op, .int .i64 x.n, .int .i64 x.fr, .int .i64 x.to, .slice ta x.terms.length tc, .int .i64 x.num] 24))) := (Below.refl _ _).alloc (Nat.le_refl _) _
  have HLY := hL.below HBY.out
  have HALL : Hid (∀ X, Below (W.alloc (.cells #[.int .i64 x.op, .int .i64 x.n, .int .i64 x.fr, .int .i64 x.to, .slice ta x.terms.length tc, .int .i64 x.num] 24)).heap.size (W.alloc (.cells #[.int .i64 x.op, .int .i64 x.n, .int .i64 x.fr, .int .i64 x.to, .slice ta x.terms.length tc, .int .i64 x.num] 24)) X → X.cell? ⟨g, 1, none⟩ = some (.slice ra rows.length rc) ∧ X.cell? ⟨W.heap.size, 2, none⟩ = some (.int .i64 x.fr) ∧ X.cell? ⟨W.heap.size, 3, none⟩ = some (.int .i64 x.to)) := fun X hX => ⟨cell_up hX HLY.c1, cell_up hX (by simp [go_sem]), cell_up hX (by simp [go_sem])⟩
  have HP : Hid (∀ X, Below W.heap.size W X → BoRow X pa rows.length p) := fun X hX => hp.below hX
  have HC : Hid (∀ X, Calls Try.prog 55 #[.slice ra rows.length rc, .bool true] X (BoTells X rows.length fun _ => true)) := fun X => constant_tells ra rows.length rc true X hrl
  clear hL hp HLY
  obtain ⟨op, n, fr, to, ts, num⟩ := x
  simp only at *
  by_cases h7 : op = 7
  · subst h7
    have hcall := before_tells pa rows.length pc p (W.alloc (.cells #[.int .i64 7, .int .i64 n, .int .i64 fr, .int .i64 to, .slice ta ts.length tc, .int .i64 num] 24)) (HP.out _ HBY.out) hrl
    have HH0 : Hid _ := hcall
    clear hcall HC HALL
    go_enter Try.func46, Try.ntmps46
    go_wp2_with fail
    refine Calls.mono HH0.out ?_
    intro e W4 hh
    obtain ⟨r, rfl, hh2, _, hb4⟩ := hh.ret
    have HH : Hid _ := hh2.up HBY.out
    clear hh hh2 hb4
    go_wp2
    go_ret
    exact BoTells.congr HH.out (by unfold oneF; rw [if_pos rfl])
  · by_cases h8 : op = 8
    · subst h8
      obtain ⟨f, rfl⟩ : ∃ f : Nat, fr = f := ⟨fr.toNat, by have := hfr (.inl rfl); omega⟩
      have HE : Hid (oneF ⟨8, n, f, to, ts, num⟩ p = sinceF f to (fun _ => true) p) := by show _ = _; unfold oneF; rw [if_neg (by simp), if_pos rfl]
      have HBC : Hid (Below (W.alloc (.cells #[.int .i64 8, .int .i64 n, .int .i64 f, .int .i64 to, .slice ta ts.length tc, .int .i64 num] 24)).heap.size (W.alloc (.cells #[.int .i64 8, .int .i64 n, .int .i64 f, .int .i64 to, .slice ta ts.length tc, .int .i64 num] 24)) (W.alloc (.cells #[.int .i64 8, .int .i64 n, .int .i64 f, .int .i64 to, .slice ta ts.length tc, .int .i64 num] 24)).drew) := (Below.refl _ _).drew
      clear h7 hfr
      go_enter Try.func46, Try.ntmps46
      go_wp2_with fail
      refine wp_region_held_drew (S := fun W' => W'.cell? ⟨g, 1, none⟩ = some (.slice ra rows.length rc) ∧ W'.cell? ⟨W.heap.size, 2, none⟩ = some (.int .i64 f) ∧ W'.cell? ⟨W.heap.size, 3, none⟩ = some (.int .i64 to)) (by kernel_rfl) (HALL.out _ HBC.out) (fun hHeld => ?_)
      refine wpAnyH_take (i := 0) (oi := { dst := some 15, op := Op.fieldAddr 24 (Operand.tmp 4) 2, type := 0, pos := "look.go:96", after := #[], guard := none }) (v := ?_) rfl (by kernel_rfl) (by kernel_rfl) (by kernel_rfl) (fun _ _ _ h => h) (Or.inl ⟨by rfl, ?_⟩) hHeld ?_
      rotate_left
      · (intro w hSw; (try dsimp only at hSw); go_simp; all_goals (try with_reducible rfl))
      try simp only [Act.put, List.setIfInBounds_toArray, List.set_cons_zero, List.set_cons_succ]
      refine wpAnyH_take (i := 1) (oi := { dst := some 16, op := Op.load 3 (Operand.tmp 15), type := 3, pos := "look.go:96", after := #[{ on := 0, ground := Ground.data }], guard := none }) (v := ?_) rfl (by kernel_rfl) (by kernel_rfl) (by kernel_rfl) (fun _ _ _ h => h) (Or.inl ⟨by rfl, ?_⟩) hHeld ?_
      rotate_left
      · (intro w hSw; (try dsimp only at hSw); go_simp; all_goals (try with_reducible rfl))
      try simp only [Act.put, List.setIfInBounds_toArray, List.set_cons_zero, List.set_cons_succ]
      refine wpAnyH_take (i := 2) (oi := { dst := some 17, op := Op.fieldAddr 24 (Operand.tmp 4) 3, type := 0, pos := "look.go:96", after := #[], guard := none }) (v := ?_) rfl (by kernel_rfl) (by kernel_rfl) (by kernel_rfl) (fun _ _ _ h => h) (Or.inl ⟨by rfl, ?_⟩) hHeld ?_
      rotate_left
      · (intro w hSw; (try dsimp only at hSw); go_simp; all_goals (try with_reducible rfl))
      try simp only [Act.put, List.setIfInBounds_toArray, List.set_cons_zero, List.set_cons_succ]
      refine wpAnyH_take (i := 3) (oi := { dst := some 18, op := Op.load 3 (Operand.tmp 17), type := 3, pos := "look.go:96", after := #[{ on := 2, ground := Ground.data }], guard := none }) (v := ?_) rfl (by kernel_rfl) (by kernel_rfl) (by kernel_rfl) (fun _ _ _ h => h) (Or.inl ⟨by rfl, ?_⟩) hHeld ?_
      rotate_left
      · (intro w hSw; (try dsimp only at hSw); go_simp; all_goals (try with_reducible rfl))
      try simp only [Act.put, List.setIfInBounds_toArray, List.set_cons_zero, List.set_cons_succ]
      refine wpAnyH_take (i := 4) (oi := { dst := some 19, op := Op.move (Operand.tmp 0), type := 90, pos := "look.go:96", after := #[], guard := none }) (v := ?_) rfl (by kernel_rfl) (by kernel_rfl) (by kernel_rfl) (fun _ _ _ h => h) (Or.inl ⟨by rfl, ?_⟩) hHeld ?_
      rotate_left
      · (intro w hSw; (try dsimp only at hSw); go_simp; all_goals (try with_reducible rfl))
      try simp only [Act.put, List.setIfInBounds_toArray, List.set_cons_zero, List.set_cons_succ]
      refine wpAnyH_take (i := 5) (oi := { dst := some 20, op := Op.nilCheck (Operand.tmp 19), type := 0, pos := "look.go:96", after := #[{ on := 4, ground := Ground.data }], guard := none }) (v := ?_) rfl (by kernel_rfl) (by kernel_rfl) (by kernel_rfl) (fun _ _ _ h => h) (Or.inl ⟨by rfl, ?_⟩) hHeld ?_
      rotate_left
      · (intro w hSw; (try dsimp only at hSw); go_simp; all_goals (try with_reducible rfl))
      try simp only [Act.put, List.setIfInBounds_toArray, List.set_cons_zero, List.set_cons_succ]
      refine wpAnyH_take (i := 6) (oi := { dst := some 21, op := Op.fieldAddr 76 (Operand.tmp 20) 1, type := 0, pos := "look.go:96", after := #[{ on := 5, ground := Ground.data }], guard := none }) (v := ?_) rfl (by kernel_rfl) (by kernel_rfl) (by kernel_rfl) (fun _ _ _ h => h) (Or.inl ⟨by rfl, ?_⟩) hHeld ?_
      rotate_left
      · (intro w hSw; (try dsimp only at hSw); go_simp; all_goals (try with_reducible rfl))
      try simp only [Act.put, List.setIfInBounds_toArray, List.set_cons_zero, List.set_cons_succ]
      refine wpAnyH_take (i := 7) (oi := { dst := some 22, op := Op.load 74 (Operand.tmp 21), type := 74, pos := "look.go:96", after := #[{ on := 6, ground := Ground.data }], guard := none }) (v := ?_) rfl (by kernel_rfl) (by kernel_rfl) (by kernel_rfl) (fun _ _ _ h => h) (Or.inl ⟨by rfl, ?_⟩) hHeld ?_
      rotate_left
      · (intro w hSw; (try dsimp only at hSw); go_simp; all_goals (try with_reducible rfl))
      try simp only [Act.put, List.setIfInBounds_toArray, List.set_cons_zero, List.set_cons_succ]
      refine wpAnyH_take (i := 9) (oi := { dst := some 24, op := Op.move (Operand.tmp 2), type := 77, pos := "look.go:96", after := #[], guard := none }) (v := ?_) rfl (by kernel_rfl) (by kernel_rfl) (by kernel_rfl) (fun _ _ _ h => h) (Or.inl ⟨by rfl, ?_⟩) hHeld ?_
      rotate_left
      · (intro w hSw; (try dsimp only at hSw); go_simp; all_goals (try with_reducible rfl))
      try simp only [Act.put, List.setIfInBounds_toArray, List.set_cons_zero, List.set_cons_succ]
      refine wpAnyH_ready (rs := [8]) (by kernel_rfl) (by simp) ?_
      refine AllReadyH.cons (o := { dst := some 23, op := Op.call { callee := Callee.value (Operand.func 55), args := #[Operand.tmp 22, Operand.const (Value.bool true)], argTypes := #[74, 4] }, type := 77, pos := "look.go:96", after := #[{ on := 7, ground := Ground.data }], guard := none }) rfl (fun K hK => ?_) AllReadyH.nil
      go_simp
      refine Calls.mono (HC.out _) ?_
      intro e W4 hh
      obtain ⟨r, rfl, hh2, hr4, hb4⟩ := hh.ret
      have HR : Hid (BoRow W4 (some ⟨r, 0, none⟩) rows.length fun _ => true) := hr4
      have HBC : Hid (Below (W.alloc (.cells #[.int .i64 8, .int .i64 n, .int .i64 f, .int .i64 to, .slice ta ts.length tc, .int .i64 num] 24)).heap.size (W.alloc (.cells #[.int .i64 8, .int .i64 n, .int .i64 f, .int .i64 to, .slice ta ts.length tc, .int .i64 num] 24)) W4) := HBC.out.trans (hb4.mono HBC.out.size)
      clear hh hh2 hb4 hr4
      go_wp2_with fail
      refine hK.out _ _ (HALL.out _ HBC.out) (fun hHeld => ?_)
      clear hK K
      try simp only [Act.put, List.setIfInBounds_toArray, List.set_cons_zero, List.set_cons_succ]
      refine wpAnyH_ready (rs := [10]) (by kernel_rfl) (by simp) ?_
      refine AllReadyH.cons (o := { dst := some 25, op := Op.call { callee := Callee.value (Operand.func 57), args := #[Operand.tmp 16, Operand.tmp 18, Operand.tmp 23, Operand.tmp 24], argTypes := #[3, 3, 77, 77] }, type := 77, pos := "look.go:96", after := #[{ on := 1, ground := Ground.data }, { on := 3, ground := Ground.data }, { on := 8, ground := Ground.data }, { on := 9, ground := Ground.data }, { on := 8, ground := Ground.chain }], guard := none }) rfl (fun K hK => ?_) AllReadyH.nil
      go_simp
      refine Calls.mono (since_tells f to (some ⟨r, 0, none⟩) pa rows.length rows.length pc _ p _ HR.out (HP.out _ (HBY.out.trans (HBC.out.mono HBY.out.size))) hrl) ?_
      intro e W5 hh
      obtain ⟨r5, rfl, hh2, _, hb5⟩ := hh.ret
      have HH : Hid _ := hh2.up (HBY.out.trans (HBC.out.mono HBY.out.size))
      have HBC : Hid (Below (W.alloc (.cells #[.int .i64 8, .int .i64 n, .int .i64 f, .int .i64 to, .slice ta ts.length tc, .int .i64 num] 24)).heap.size (W.alloc (.cells #[.int .i64 8, .int .i64 n, .int .i64 f, .int .i64 to, .slice ta ts.length tc, .int .i64 num] 24)) W5) := HBC.out.trans (hb5.mono HBC.out.size)
      clear hh hh2 hb5
      go_wp2_with fail
      refine hK.out _ _ (HALL.out _ HBC.out) (fun hHeld => ?_)
      clear hK K
      try simp only [Act.put, List.setIfInBounds_toArray, List.set_cons_zero, List.set_cons_succ]
      refine wpAnyH_take (i := 11) (oi := { dst := some 6, op := Op.assign (Operand.tmp 25), type := 77, pos := "look.go:96", after := #[{ on := 10, ground := Ground.data }, { on := 10, ground := Ground.chain }, { on := 0, ground := Ground.phase }, { on := 1, ground := Ground.phase }, { on := 2, ground := Ground.phase }, { on := 3, ground := Ground.phase }, { on := 4, ground := Ground.phase }, { on := 5, ground := Ground.phase }, { on := 6, ground := Ground.phase }, { on := 7, ground := Ground.phase }, { on := 8, ground := Ground.phase }, { on := 9, ground := Ground.phase }, { on := 10, ground := Ground.phase }], guard := none }) (v := ?_) rfl (by kernel_rfl) (by kernel_rfl) (by kernel_rfl) (fun _ _ _ h => h) (Or.inl ⟨by rfl, ?_⟩) hHeld ?_
      rotate_left
      · (intro w hSw; (try dsimp only at hSw); go_simp; all_goals (try with_reducible rfl))
      try simp only [Act.put, List.setIfInBounds_toArray, List.set_cons_zero, List.set_cons_succ]
      refine wpAnyH_done (by kernel_rfl) ?_ _
      go_wp2
      go_ret
      exact BoTells.congr HH.out HE.out.symm
    · by_cases h9 : op = 9
      · subst h9
        obtain ⟨f, rfl⟩ : ∃ f : Nat, fr = f := ⟨fr.toNat, by have := hfr (.inr rfl); omega⟩
        have HE : Hid (oneF ⟨9, n, f, to, ts, num⟩ p = fun i => !sinceF f to (fun _ => true) (fun i => !p i) i) := by show _ = _; unfold oneF; rw [if_neg (by simp), if_neg (by simp), if_pos rfl]
        have HBC : Hid (Below (W.alloc (.cells #[.int .i64 9, .int .i64 n, .int .i64 f, .int .i64 to, .slice ta ts.length tc, .int .i64 num] 24)).heap.size (W.alloc (.cells #[.int .i64 9, .int .i64 n, .int .i64 f, .int .i64 to, .slice ta ts.length tc, .int .i64 num] 24)) (W.alloc (.cells #[.int .i64 9, .int .i64 n, .int .i64 f, .int .i64 to, .slice ta ts.length tc, .int .i64 num] 24)).drew) := (Below.refl _ _).drew
        clear h7 h8 hfr
        go_enter Try.func46, Try.ntmps46
        go_wp2_with fail
        refine wp_region_held_drew (S := fun W' => W'.cell? ⟨g, 1, none⟩ = some (.slice ra rows.length rc) ∧ W'.cell? ⟨W.heap.size, 2, none⟩ = some (.int .i64 f) ∧ W'.cell? ⟨W.heap.size, 3, none⟩ = some (.int .i64 to)) (by kernel_rfl) (HALL.out _ HBC.out) (fun hHeld => ?_)
        refine wpAnyH_take (i := 0) (oi := { dst := some 28, op := Op.fieldAddr 24 (Operand.tmp 4) 2, type := 0, pos := "look.go:98", after := #[], guard := none }) (v := ?_) rfl (by kernel_rfl) (by kernel_rfl) (by kernel_rfl) (fun _ _ _ h => h) (Or.inl ⟨by rfl, ?_⟩) hHeld ?_
        rotate_left
        · (intro w hSw; (try dsimp only at hSw); go_simp; all_goals (try with_reducible rfl))
        try simp only [Act.put, List.setIfInBounds_toArray, List.set_cons_zero, List.set_cons_succ]
        refine wpAnyH_take (i := 1) (oi := { dst := some 29, op := Op.load 3 (Operand.tmp 28), type := 3, pos := "look.go:98", after := #[{ on := 0, ground := Ground.data }], guard := none }) (v := ?_) rfl (by kernel_rfl) (by kernel_rfl) (by kernel_rfl) (fun _ _ _ h => h) (Or.inl ⟨by rfl, ?_⟩) hHeld ?_
        rotate_left
        · (intro w hSw; (try dsimp only at hSw); go_simp; all_goals (try with_reducible rfl))
        try simp only [Act.put, List.setIfInBounds_toArray, List.set_cons_zero, List.set_cons_succ]
        refine wpAnyH_take (i := 2) (oi := { dst := some 30, op := Op.fieldAddr 24 (Operand.tmp 4) 3, type := 0, pos := "look.go:98", after := #[], guard := none }) (v := ?_) rfl (by kernel_rfl) (by kernel_rfl) (by kernel_rfl) (fun _ _ _ h => h) (Or.inl ⟨by rfl, ?_⟩) hHeld ?_
        rotate_left
        · (intro w hSw; (try dsimp only at hSw); go_simp; all_goals (try with_reducible rfl))
        try simp only [Act.put, List.setIfInBounds_toArray, List.set_cons_zero, List.set_cons_succ]
        refine wpAnyH_take (i := 3) (oi := { dst := some 31, op := Op.load 3 (Operand.tmp 30), type := 3, pos := "look.go:98", after := #[{ on := 2, ground := Ground.data }], guard := none }) (v := ?_) rfl (by kernel_rfl) (by kernel_rfl) (by kernel_rfl) (fun _ _ _ h => h) (Or.inl ⟨by rfl, ?_⟩) hHeld ?_
        rotate_left
        · (intro w hSw; (try dsimp only at hSw); go_simp; all_goals (try with_reducible rfl))
        try simp only [Act.put, List.setIfInBounds_toArray, List.set_cons_zero, List.set_cons_succ]
        refine wpAnyH_take (i := 4) (oi := { dst := some 32, op := Op.move (Operand.tmp 0), type := 90, pos := "look.go:98", after := #[], guard := none }) (v := ?_) rfl (by kernel_rfl) (by kernel_rfl) (by kernel_rfl) (fun _ _ _ h => h) (Or.inl ⟨by rfl, ?_⟩) hHeld ?_
        rotate_left
        · (intro w hSw; (try dsimp only at hSw); go_simp; all_goals (try with_reducible rfl))
        try simp only [Act.put, List.setIfInBounds_toArray, List.set_cons_zero, List.set_cons_succ]
        refine wpAnyH_take (i := 5) (oi := { dst := some 33, op := Op.nilCheck (Operand.tmp 32), type := 0, pos := "look.go:98", after := #[{ on := 4, ground := Ground.data }], guard := none }) (v := ?_) rfl (by kernel_rfl) (by kernel_rfl) (by kernel_rfl) (fun _ _ _ h => h) (Or.inl ⟨by rfl, ?_⟩) hHeld ?_
        rotate_left
        · (intro w hSw; (try dsimp only at hSw); go_simp; all_goals (try with_reducible rfl))
        try simp only [Act.put, List.setIfInBounds_toArray, List.set_cons_zero, List.set_cons_succ]
        refine wpAnyH_take (i := 6) (oi := { dst := some 34, op := Op.fieldAddr 76 (Operand.tmp 33) 1, type := 0, pos := "look.go:98", after := #[{ on := 5, ground := Ground.data }], guard := none }) (v := ?_) rfl (by kernel_rfl) (by kernel_rfl) (by kernel_rfl) (fun _ _ _ h => h) (Or.inl ⟨by rfl, ?_⟩) hHeld ?_
        rotate_left
        · (intro w hSw; (try dsimp only at hSw); go_simp; all_goals (try with_reducible rfl))
        try simp only [Act.put, List.setIfInBounds_toArray, List.set_cons_zero, List.set_cons_succ]
        refine wpAnyH_take (i := 7) (oi := { dst := some 35, op := Op.load 74 (Operand.tmp 34), type := 74, pos := "look.go:98", after := #[{ on := 6, ground := Ground.data }], guard := none }) (v := ?_) rfl (by kernel_rfl) (by kernel_rfl) (by kernel_rfl) (fun _ _ _ h => h) (Or.inl ⟨by rfl, ?_⟩) hHeld ?_
        rotate_left
        · (intro w hSw; (try dsimp only at hSw); go_simp; all_goals (try with_reducible rfl))
        try simp only [Act.put, List.setIfInBounds_toArray, List.set_cons_zero, List.set_cons_succ]
        refine wpAnyH_take (i := 9) (oi := { dst := some 37, op := Op.move (Operand.tmp 2), type := 77, pos := "look.go:98", after := #[], guard := none }) (v := ?_) rfl (by kernel_rfl) (by kernel_rfl) (by kernel_rfl) (fun _ _ _ h => h) (Or.inl ⟨by rfl, ?_⟩) hHeld ?_
        rotate_left
        · (intro w hSw; (try dsimp only at hSw); go_simp; all_goals (try with_reducible rfl))
        try simp only [Act.put, List.setIfInBounds_toArray, List.set_cons_zero, List.set_cons_succ]
        refine wpAnyH_ready (rs := [8]) (by kernel_rfl) (by simp) ?_
        refine AllReadyH.cons (o := { dst := some 36, op := Op.call { callee := Callee.value (Operand.func 55), args := #[Operand.tmp 35, Operand.const (Value.bool true)], argTypes := #[74, 4] }, type := 77, pos := "look.go:98", after := #[{ on := 7, ground := Ground.data }], guard := none }) rfl (fun K hK => ?_) AllReadyH.nil
        go_simp
        refine Calls.mono (HC.out _) ?_
        intro e W4 hh
        obtain ⟨r, rfl, hh2, hr4, hb4⟩ := hh.ret
        have HR : Hid (∀ X, Below W4.heap.size W4 X → BoRow X (some ⟨r, 0, none⟩) rows.length fun _ => true) := fun X hX => hr4.below hX
        have HBC : Hid (Below (W.alloc (.cells #[.int .i64 9, .int .i64 n, .int .i64 f, .int .i64 to, .slice ta ts.length tc, .int .i64 num] 24)).heap.size (W.alloc (.cells #[.int .i64 9, .int .i64 n, .int .i64 f, .int .i64 to, .slice ta ts.length tc, .int .i64 num] 24)) W4) := HBC.out.trans (hb4.mono HBC.out.size)
        clear hh hh2 hb4 hr4
        go_wp2_with fail
        refine hK.out _ _ (HALL.out _ HBC.out) (fun hHeld => ?_)
        clear hK K
        try simp only [Act.put, List.setIfInBounds_toArray, List.set_cons_zero, List.set_cons_succ]
        refine wpAnyH_ready (rs := [10]) (by kernel_rfl) (by simp) ?_
        refine AllReadyH.cons (o := { dst := some 38, op := Op.call { callee := Callee.value (Operand.func 58), args := #[Operand.tmp 37], argTypes := #[77] }, type := 77, pos := "look.go:98", after := #[{ on := 9, ground := Ground.data }, { on := 8, ground := Ground.chain }], guard := none }) rfl (fun K hK => ?_) AllReadyH.nil
        go_simp
        refine Calls.mono (not_tells pa rows.length pc p _ (HP.out _ (HBY.out.trans (HBC.out.mono HBY.out.size))) hrl) ?_
        intro e W5 hh
        obtain ⟨r5, rfl, hh2, hr5, hb5⟩ := hh.ret
        have HR2 : Hid (BoRow W5 (some ⟨r5, 0, none⟩) rows.length fun i => !p i) := hr5
        have HRB : Hid (BoRow W5 (some ⟨r, 0, none⟩) rows.length fun _ => true) := HR.out _ hb5
        have HBC : Hid (Below (W.alloc (.cells #[.int .i64 9, .int .i64 n, .int .i64 f, .int .i64 to, .slice ta ts.length tc, .int .i64 num] 24)).heap.size (W.alloc (.cells #[.int .i64 9, .int .i64 n, .int .i64 f, .int .i64 to, .slice ta ts.length tc, .int .i64 num] 24)) W5) := HBC.out.trans (hb5.mono HBC.out.size)
        clear hh hh2 hb5 hr5
        go_wp2_with fail
        refine hK.out _ _ (HALL.out _ HBC.out) (fun hHeld => ?_)
        clear hK K
        try simp only [Act.put, List.setIfInBounds_toArray, List.set_cons_zero, List.set_cons_succ]
        refine wpAnyH_ready (rs := [11]) (by kernel_rfl) (by simp) ?_
        refine AllReadyH.cons (o := { dst := some 39, op := Op.call { callee := Callee.value (Operand.func 57), args := #[Operand.tmp 29, Operand.tmp 31, Operand.tmp 36, Operand.tmp 38], argTypes := #[3, 3, 77, 77] }, type := 77, pos := "look.go:98", after := #[{ on := 1, ground := Ground.data }, { on := 3, ground := Ground.data }, { on := 8, ground := Ground.data }, { on := 10, ground := Ground.data }, { on := 10, ground := Ground.chain }], guard := none }) rfl (fun K hK => ?_) AllReadyH.nil
        go_simp
        refine Calls.mono (since_tells f to (some ⟨r, 0, none⟩) (some ⟨r5, 0, none⟩) rows.length rows.length rows.length _ _ _ HRB.out HR2.out hrl) ?_
        intro e W6 hh
        obtain ⟨r6, rfl, hh2, hr6, hb6⟩ := hh.ret
        have HR3 : Hid (BoRow W6 (some ⟨r6, 0, none⟩) rows.length (sinceF f to (fun _ => true) (fun i => !p i))) := hr6
        have HBC : Hid (Below (W.alloc (.cells #[.int .i64 9, .int .i64 n, .int .i64 f, .int .i64 to, .slice ta ts.length tc, .int .i64 num] 24)).heap.size (W.alloc (.cells #[.int .i64 9, .int .i64 n, .int .i64 f, .int .i64 to, .slice ta ts.length tc, .int .i64 num] 24)) W6) := HBC.out.trans (hb6.mono HBC.out.size)
        clear hh hh2 hb6 hr6
        go_wp2_with fail
        refine hK.out _ _ (HALL.out _ HBC.out) (fun hHeld => ?_)
        clear hK K
        try simp only [Act.put, List.setIfInBounds_toArray, List.set_cons_zero, List.set_cons_succ]
        refine wpAnyH_ready (rs := [12]) (by kernel_rfl) (by simp) ?_
        refine AllReadyH.cons (o := { dst := some 40, op := Op.call { callee := Callee.value (Operand.func 58), args := #[Operand.tmp 39], argTypes := #[77] }, type := 77, pos := "look.go:98", after := #[{ on := 11, ground := Ground.data }, { on := 11, ground := Ground.chain }], guard := none }) rfl (fun K hK => ?_) AllReadyH.nil
        go_simp
        refine Calls.mono (not_tells (some ⟨r6, 0, none⟩) rows.length rows.length _ _ HR3.out hrl) ?_
        intro e W7 hh
        obtain ⟨r7, rfl, hh2, _, hb7⟩ := hh.ret
        have HH : Hid _ := hh2.up (HBY.out.trans (HBC.out.mono HBY.out.size))
        have HBC : Hid (Below (W.alloc (.cells #[.int .i64 9, .int .i64 n, .int .i64 f, .int .i64 to, .slice ta ts.length tc, .int .i64 num] 24)).heap.size (W.alloc (.cells #[.int .i64 9, .int .i64 n, .int .i64 f, .int .i64 to, .slice ta ts.length tc, .int .i64 num] 24)) W7) := HBC.out.trans (hb7.mono HBC.out.size)
        clear hh hh2 hb7
        go_wp2_with fail
        refine hK.out _ _ (HALL.out _ HBC.out) (fun hHeld => ?_)
        clear hK K
        try simp only [Act.put, List.setIfInBounds_toArray, List.set_cons_zero, List.set_cons_succ]
        refine wpAnyH_take (i := 13) (oi := { dst := some 6, op := Op.assign (Operand.tmp 40), type := 77, pos := "look.go:98", after := #[{ on := 12, ground := Ground.data }, { on := 12, ground := Ground.chain }, { on := 0, ground := Ground.phase }, { on := 1, ground := Ground.phase }, { on := 2, ground := Ground.phase }, { on := 3, ground := Ground.phase }, { on := 4, ground := Ground.phase }, { on := 5, ground := Ground.phase }, { on := 6, ground := Ground.phase }, { on := 7, ground := Ground.phase }, { on := 8, ground := Ground.phase }, { on := 9, ground := Ground.phase }, { on := 10, ground := Ground.phase }, { on := 11, ground := Ground.phase }, { on := 12, ground := Ground.phase }], guard := none }) (v := ?_) rfl (by kernel_rfl) (by kernel_rfl) (by kernel_rfl) (fun _ _ _ h => h) (Or.inl ⟨by rfl, ?_⟩) hHeld ?_
        rotate_left
        · (intro w hSw; (try dsimp only at hSw); go_simp; all_goals (try with_reducible rfl))
        try simp only [Act.put, List.setIfInBounds_toArray, List.set_cons_zero, List.set_cons_succ]
        refine wpAnyH_done (by kernel_rfl) ?_ _
        go_wp2
        go_ret
        exact BoTells.congr HH.out HE.out.symm
      · have HE : Hid (oneF ⟨op, n, fr, to, ts, num⟩ p = fun i => !p i) := by show _ = _; unfold oneF; rw [if_neg h7, if_neg h8, if_neg h9]
        have b7 : (op == 7) = false := by simpa using h7
        have b8 : (op == 8) = false := by simpa using h8
        have b9 : (op == 9) = false := by simpa using h9
        have hcall := not_tells pa rows.length pc p (W.alloc (.cells #[.int .i64 op, .int .i64 n, .int .i64 fr, .int .i64 to, .slice ta ts.length tc, .int .i64 num] 24)) (HP.out _ HBY.out) hrl
        have HH0 : Hid _ := hcall
        clear hcall HC HALL h7 h8 h9
        go_enter Try.func46, Try.ntmps46
        go_wp2_with fail
        refine Calls.mono HH0.out ?_
        intro e W4 hh
        obtain ⟨r, rfl, hh2, _, hb4⟩ := hh.ret
        have HH : Hid _ := hh2.up HBY.out
        clear hh hh2 hb4
        go_wp2
        go_ret
        exact BoTells.congr HH.out HE.out.symm
end Go.Proofs.Ytipbjoeekbgnbaa

namespace Go.Proofs.Ytipbjoeekbgnbaa
open Go.RowKit Go.Maps Go.ChangeShapes
set_option linter.unusedVariables false
set_option maxRecDepth 100000

set_option maxHeartbeats 8000000 in
theorem two_tells (L : Nat) (x : Nd) (ta : Option Addr) (tc : Nat) (pa qa : Option Addr) (pc qc : Nat) (p q : Nat → Bool) (W : World) (hp : BoRow W pa L p) (hq : BoRow W qa L q) (hfr : x.op = 10 → 0 ≤ x.fr) (hrl : L ≤ 1000) :
    Calls Try.prog 47 #[.agg #[.int .i64 x.op, .int .i64 x.n, .int .i64 x.fr, .int .i64 x.to, .slice ta x.terms.length tc, .int .i64 x.num], .slice pa L pc, .slice qa L qc] W (BoTells W L (twoF x p q)) := by
  have HBY : Hid (Below W.heap.size W (W.alloc (.cells #[.int .i64 x.op, .int .i64 x.n, .int .i64 x.fr, .int .i64 x.to, .slice ta x.terms.length tc, .int .i64 x.num] 24))) := (Below.refl _ _).alloc (Nat.le_refl _) _
  have HP : Hid (∀ X, Below W.heap.size W X → BoRow X pa L p) := fun X hX => hp.below hX
  have HQ : Hid (∀ X, Below W.heap.size W X → BoRow X qa L q) := fun X hX => hq.below hX
  clear hp hq
  obtain ⟨op, n, fr, to, ts, num⟩ := x
  simp only at *
  by_cases h4 : op = 4
  · subst h4
    have HE : Hid (twoF ⟨4, n, fr, to, ts, num⟩ p q = fun i => !((!p i) || (!q i))) := by show _ = _; unfold twoF; rw [if_pos rfl]
    go_enter Try.func47, Try.ntmps47
    go_wp2_with fail
    refine Calls.mono (not_tells pa L pc p _ (HP.out _ HBY.out) hrl) ?_
    intro e W4 hh
    obtain ⟨r4, rfl, _, hr4, hb4⟩ := hh.ret
    have HB4 : Hid (Below W.heap.size W W4) := HBY.out.trans (hb4.mono HBY.out.size)
    have HR4 : Hid (BoRow W4 (some ⟨r4, 0, none⟩) L fun i => !p i) := hr4
    clear hh hr4 hb4
    go_wp2_with fail
    refine Calls.mono (not_tells qa L qc q _ (HQ.out _ HB4.out) hrl) ?_
    intro e W5 hh
    obtain ⟨r5, rfl, _, hr5, hb5⟩ := hh.ret
    have HB5 : Hid (Below W.heap.size W W5) := HB4.out.trans (hb5.mono HB4.out.size)
    have HR5 : Hid (BoRow W5 (some ⟨r5, 0, none⟩) L fun i => !q i) := hr5
    have HR4b : Hid (BoRow W5 (some ⟨r4, 0, none⟩) L fun i => !p i) := HR4.out.below hb5
    clear hh hr5 hb5
    go_wp2_with fail
    refine Calls.mono (or_tells (some ⟨r4, 0, none⟩) (some ⟨r5, 0, none⟩) L L L _ _ _ HR4b.out HR5.out hrl) ?_
    intro e W6 hh
    obtain ⟨r6, rfl, _, hr6, hb6⟩ := hh.ret
    have HB6 : Hid (Below W.heap.size W W6) := HB5.out.trans (hb6.mono HB5.out.size)
    have HR6 : Hid (BoRow W6 (some ⟨r6, 0, none⟩) L fun i => (!p i) || (!q i)) := hr6
    clear hh hr6 hb6
    go_wp2_with fail
    refine Calls.mono (not_tells (some ⟨r6, 0, none⟩) L L _ _ HR6.out hrl) ?_
    intro e W7 hh
    obtain ⟨r7, rfl, hh2, _, _⟩ := hh.ret
    have HH : Hid _ := hh2.up HB6.out
    clear hh hh2
    go_wp2
    go_ret
    exact BoTells.congr HH.out HE.out.symm
  · have b4 : (op == 4) = false := by simpa using h4
    by_cases h6 : op = 6
    · subst h6
      have HE : Hid (twoF ⟨6, n, fr, to, ts, num⟩ p q = fun i => (!p i) || q i) := by show _ = _; unfold twoF; rw [if_neg (by simp), if_pos rfl]
      clear h4 b4
      go_enter Try.func47, Try.ntmps47
      go_wp2_with fail
      refine Calls.mono (not_tells pa L pc p _ (HP.out _ HBY.out) hrl) ?_
      intro e W4 hh
      obtain ⟨r4, rfl, _, hr4, hb4⟩ := hh.ret
      have HB4 : Hid (Below W.heap.size W W4) := HBY.out.trans (hb4.mono HBY.out.size)
      have HR4 : Hid (BoRow W4 (some ⟨r4, 0, none⟩) L fun i => !p i) := hr4
      clear hh hr4 hb4
      go_wp2_with fail
      refine Calls.mono (or_tells (some ⟨r4, 0, none⟩) qa L L qc _ _ _ HR4.out (HQ.out _ HB4.out) hrl) ?_
      intro e W7 hh
      obtain ⟨r7, rfl, hh2, _, _⟩ := hh.ret
      have HH : Hid _ := hh2.up HB4.out
      clear hh hh2
      go_wp2
      go_ret
      exact BoTells.congr HH.out HE.out.symm
    · have b6 : (op == 6) = false := by simpa using h6
      by_cases h10 : op = 10
      · subst h10
        obtain ⟨f, rfl⟩ : ∃ f : Nat, fr = f := ⟨fr.toNat, by have := hfr rfl; omega⟩
        have HE : Hid (twoF ⟨10, n, f, to, ts, num⟩ p q = sinceF f to p q) := by show _ = _; unfold twoF; rw [if_neg (by simp), if_neg (by simp), if_pos rfl]
        clear h4 h6 b4 b6 hfr
        go_enter Try.func47, Try.ntmps47
        go_wp2_with fail
        refine Calls.mono (since_tells f to pa qa L pc qc _ _ _ (HP.out _ HBY.out) (HQ.out _ HBY.out) hrl) ?_
        intro e W7 hh
        obtain ⟨r7, rfl, hh2, _, _⟩ := hh.ret
        have HH : Hid _ := hh2.up HBY.out
        clear hh hh2
        go_wp2
        go_ret
        exact BoTells.congr HH.out HE.out.symm
      · have b10 : (op == 10) = false := by simpa using h10
        have HE : Hid (twoF ⟨op, n, fr, to, ts, num⟩ p q = fun i => p i || q i) := by show _ = _; unfold twoF; rw [if_neg h4, if_neg h6, if_neg h10]
        clear h4 h6 h10
        go_enter Try.func47, Try.ntmps47
        go_wp2_with fail
        refine Calls.mono (or_tells pa qa L pc qc _ _ _ (HP.out _ HBY.out) (HQ.out _ HBY.out) hrl) ?_
        intro e W7 hh
        obtain ⟨r7, rfl, hh2, _, _⟩ := hh.ret
        have HH : Hid _ := hh2.up HBY.out
        clear hh hh2
        go_wp2
        go_ret
        exact BoTells.congr HH.out HE.out.symm
end Go.Proofs.Ytipbjoeekbgnbaa
