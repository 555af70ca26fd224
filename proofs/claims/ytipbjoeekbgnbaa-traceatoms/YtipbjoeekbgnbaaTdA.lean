/- The contract of trace's atom. Conditions: at most 1000 rows and names, at most 2^30 terms. -/
import Derived.Test.YtipbjoeekbgnbaaTcZ
namespace Go.Proofs.Ytipbjoeekbgnbaa
open Go.RowKit Go.Maps Go.ChangeShapes
set_option linter.unusedVariables false
set_option maxRecDepth 100000

theorem AtBox.st1 {w : World} {g : Nat} {v : Value} {n : Int} (h : AtBox w g v n) (m : Int) : AtBox (w.setCell ⟨g, 1, none⟩ (.int .i64 m)) g v m :=
  ⟨by rw [cellO _ _ _ _ _ _ (by omega)]; exact h.c0, World.cell?_setCell_same _ _ _ h.c1, fun i => by simp [h.f]⟩
theorem AtBox.new (X : World) (v : Value) (n : Int) (t : TypeId) : AtBox (X.alloc (.cells #[v, .int .i64 n] t)) X.heap.size v n :=
  ⟨by simp [go_sem], by simp [go_sem], fun i => frz_new _ _ _ _ _ rfl⟩
theorem WtRow.mod {S : List Nat} {w w' : World} {a : Option Addr} {ws : List (Int × Int)} (h : WtRow w a ws) (k : Mod S w w') (ho : Off a S) : WtRow w' a ws := fun i hi => by
  obtain ⟨b, off, rfl, h1, h2⟩ := h i hi
  exact ⟨b, off, rfl, k.cell h1 (ho _ rfl), k.cell h2 (ho _ rfl)⟩
theorem Mod.setNew {S : List Nat} {x y : World} (h : Mod S x y) (c i : Nat) (v : Value) (hc : x.heap.size ≤ c) : Mod S x (y.setCell ⟨c, i, none⟩ v) :=
  ⟨h.os, h.tape, h.output, by simpa using h.size, fun k hk hs => (Below.heap_setCell _ _ _ _ (by show k ≠ c; omega)).trans (h.block k hk hs)⟩
theorem Mod.thenBelow {S : List Nat} {x y z : World} (h : Mod S x y) (k : Below y.heap.size y z) : Mod S x z := h.trans (Mod.of_below k)
theorem FillB.below {w w' : World} {g n k : Nat} {f : Nat → Bool} (h : FillB w g n k f) (hg : g < w.heap.size) (q : Below w.heap.size w w') : FillB w' g n k f :=
  ⟨fun i hi => cell_up q (h.cell i hi), fun i => (q.frozen (p := ⟨g, i, none⟩) hg).trans (h.frz i)⟩
theorem FillB.oth {w : World} {g n k : Nat} {f : Nat → Bool} (h : FillB w g n k f) (c i : Nat) (hc : g ≠ c) (v : Value) : FillB (w.setCell ⟨c, i, none⟩ v) g n k f :=
  ⟨fun j hj => by rw [cellB _ _ _ _ _ _ hc]; exact h.cell j hj, fun i => by simp [h.frz]⟩
theorem LookAt.storeI {W0 w : World} {g b : Nat} {names : List ByteArray} {ra : Option Addr} {rc : Nat} {rows : List RwV} {o : Nat} (h : LookAt W0 w g b names ra rc rows o) (o' : Nat) (z : Int) (hz : z = o') : LookAt W0 (w.setCell ⟨g, 2, none⟩ (.int .i64 z)) g b names ra rc rows o' := by
  subst hz; exact h.store o'
theorem box_new0 (X : World) (v0 v1 : Value) (t : TypeId) : (X.alloc (.cells #[v0, v1] t)).drew.cell? ⟨X.heap.size, 0, none⟩ = some v0 := by simp [go_sem]
theorem box_new1 (X : World) (v0 v1 : Value) (t : TypeId) : (X.alloc (.cells #[v0, v1] t)).drew.cell? ⟨X.heap.size, 1, none⟩ = some v1 := by simp [go_sem]
theorem box_newf (X : World) (cs : Array Value) (t : TypeId) (i : Nat) : (X.alloc (.cells cs t)).drew.frozen? ⟨X.heap.size, i, none⟩ = false := by
  show (X.alloc (.cells cs t)).frozen? ⟨X.heap.size, i, none⟩ = false
  exact frz_new _ _ _ _ _ rfl
theorem box_newL (X : World) (o : Obj) : X.heap.size < (X.alloc o).drew.heap.size := by show X.heap.size < (X.alloc o).heap.size; simp
set_option maxHeartbeats 8000000 in
theorem tatom_any (W0 : World) (g b : Nat) (names : List ByteArray) (ra : Option Addr) (rc : Nat) (rows : List RwV) (o : Nat) (Q : Nat → Prop) (x : Nd) (ta : Option Addr) (tc : Nat) (W : World) (hL : LookAt W0 W g b names ra rc rows o) (hQ : OvIs rows.length Q o) (h : TermRow W0 ta x.terms) (hf : NamesFit x.terms) (hx : ∀ t ∈ x.terms, B64 t.times) (hnum : B64 x.num) (hrows : ∀ r ∈ rows, ∀ z ∈ r.zs, B64 z) (hn : names.length ≤ 1000) (hl : x.terms.length ≤ 1073741824) (hrl : rows.length ≤ 1000) :
    Calls Try.prog 54 #[.pointer (some ⟨g, 0, none⟩), .agg #[.int .i64 x.op, .int .i64 x.n, .int .i64 x.fr, .int .i64 x.to, .slice ta x.terms.length tc, .int .i64 x.num]] W (LookTells W0 W g b names ra rc rows (fun j => Q j ∨ atO names rows x j = true) (atH names rows x)) := by
  have HTX : Hid (∀ X, Below W0.heap.size W0 X → TermRow X ta x.terms) := fun X hX => h.below hX
  have hlt := hL.lt
  have hW0 : Below W0.heap.size W0 W := hL.bel
  obtain ⟨Y, hY⟩ : ∃ X, W.alloc (.cells #[.int .i64 x.op, .int .i64 x.n, .int .i64 x.fr, .int .i64 x.to, .slice ta x.terms.length tc, .int .i64 x.num] 24) = X := ⟨_, rfl⟩
  have HY : Hid (W.alloc (.cells #[.int .i64 x.op, .int .i64 x.n, .int .i64 x.fr, .int .i64 x.to, .slice ta x.terms.length tc, .int .i64 x.num] 24) = Y) := hY
  have HBY : Hid (Below W.heap.size W Y) := by rw [← hY]; exact (Below.refl _ _).alloc (Nat.le_refl _) _
  have HSZ : Hid (Y.heap.size = W.heap.size + 1) := by show _ = _; rw [← hY]; simp
  have HLY : Hid (LookAt W0 Y g b names ra rc rows o) := hL.below HBY.out
  have HALL : Hid (∀ X, Below Y.heap.size Y X → X.cell? ⟨g, 0, none⟩ = some (.map (some b)) ∧ X.cell? ⟨W.heap.size, 0, none⟩ = some (.int .i64 x.op) ∧ X.cell? ⟨W.heap.size, 1, none⟩ = some (.int .i64 x.n) ∧ X.cell? ⟨W.heap.size, 2, none⟩ = some (.int .i64 x.fr) ∧ X.cell? ⟨W.heap.size, 3, none⟩ = some (.int .i64 x.to) ∧ X.cell? ⟨W.heap.size, 4, none⟩ = some (.slice ta x.terms.length tc) ∧ X.cell? ⟨W.heap.size, 5, none⟩ = some (.int .i64 x.num)) := fun X hX => by
    refine ⟨cell_up hX HLY.out.c0, ?_, ?_, ?_, ?_, ?_, ?_⟩ <;> exact cell_up hX (by rw [← hY]; simp [go_sem])
  have HW : Hid (∀ X, Below Y.heap.size Y X → Calls Try.prog 13 #[.map (some b), .agg #[.int .i64 x.op, .int .i64 x.n, .int .i64 x.fr, .int .i64 x.to, .slice ta x.terms.length tc, .int .i64 x.num]] X fun e W' => ∃ pa pc, e = .returned (.agg #[.slice pa (wtsTo names x.terms x.terms.length).length pc, .int .i64 x.num]) ∧ WtRow W' pa (wtsTo names x.terms x.terms.length) ∧ Below X.heap.size X W' ∧ ∀ y, pa = some y → X.heap.size ≤ y.block) := fun X hX =>
    weigh_any b names x ta tc X (HLY.out.cols.below hX) (h.below (HLY.out.below hX).bel) hf hn hl
  have hwt := wts_times (names := names) hx x.terms.length
  have hwl := wtsTo_len names x.terms x.terms.length
  have HH : Hid (∀ i, atH names rows x i = holdsB (judgeSum (rows.getD i default).zs (wtsTo names x.terms x.terms.length)) x.num) := fun i => rfl
  have HO : Hid (∀ i, atO names rows x i = overB (judgeSum (rows.getD i default).zs (wtsTo names x.terms x.terms.length))) := fun i => rfl
  have HROWS : Hid (∀ r ∈ rows, ∀ z ∈ r.zs, B64 z) := hrows
  have HQ : Hid (OvIs rows.length Q o) := hQ
  have HL : Hid (LookAt W0 W g b names ra rc rows o) := hL
  have HNUM : Hid (B64 x.num) := hnum
  clear h hf hx hY hL hQ hrows hnum
  obtain ⟨op, n, fr, to, ts, num⟩ := x
  simp only at *
  generalize atH names rows ⟨op, n, fr, to, ts, num⟩ = fH at *
  generalize atO names rows ⟨op, n, fr, to, ts, num⟩ = fO at *
  have hwl2 : (wtsTo names ts ts.length).length ≤ 1073741824 := by omega
  clear hwl hl
  generalize wtsTo names ts ts.length = ws at *
  go_enter Try.func54, Try.ntmps54
  go_wp2_with fail
  rw [HY.out]
  have HBC : Hid (Below Y.heap.size Y Y.drew) := (Below.refl _ _).drew
  refine wp_region_held_drew (S := fun W' => W'.cell? ⟨g, 0, none⟩ = some (.map (some b)) ∧ W'.cell? ⟨W.heap.size, 0, none⟩ = some (.int .i64 op) ∧ W'.cell? ⟨W.heap.size, 1, none⟩ = some (.int .i64 n) ∧ W'.cell? ⟨W.heap.size, 2, none⟩ = some (.int .i64 fr) ∧ W'.cell? ⟨W.heap.size, 3, none⟩ = some (.int .i64 to) ∧ W'.cell? ⟨W.heap.size, 4, none⟩ = some (.slice ta ts.length tc) ∧ W'.cell? ⟨W.heap.size, 5, none⟩ = some (.int .i64 num)) (by kernel_rfl) (HALL.out _ HBC.out) (fun hHeld => ?_)
  refine wpAnyH_take (i := 0) (oi := { dst := some 11, op := Op.move (Operand.tmp 0), type := 90, pos := "look.go:78", after := #[], guard := none }) (v := ?_) rfl (by kernel_rfl) (by kernel_rfl) (by kernel_rfl) (fun _ _ _ h => h) (Or.inl ⟨by rfl, ?_⟩) hHeld ?_
  rotate_left
  · (intro w hSw; (try dsimp only at hSw); go_simp; all_goals (try with_reducible rfl))
  try simp only [Act.put, List.setIfInBounds_toArray, List.set_cons_zero, List.set_cons_succ]
  refine wpAnyH_take (i := 1) (oi := { dst := some 12, op := Op.nilCheck (Operand.tmp 11), type := 0, pos := "look.go:78", after := #[{ on := 0, ground := Ground.data }], guard := none }) (v := ?_) rfl (by kernel_rfl) (by kernel_rfl) (by kernel_rfl) (fun _ _ _ h => h) (Or.inl ⟨by rfl, ?_⟩) hHeld ?_
  rotate_left
  · (intro w hSw; (try dsimp only at hSw); go_simp; all_goals (try with_reducible rfl))
  try simp only [Act.put, List.setIfInBounds_toArray, List.set_cons_zero, List.set_cons_succ]
  refine wpAnyH_take (i := 2) (oi := { dst := some 13, op := Op.fieldAddr 76 (Operand.tmp 12) 0, type := 0, pos := "look.go:78", after := #[{ on := 1, ground := Ground.data }], guard := none }) (v := ?_) rfl (by kernel_rfl) (by kernel_rfl) (by kernel_rfl) (fun _ _ _ h => h) (Or.inl ⟨by rfl, ?_⟩) hHeld ?_
  rotate_left
  · (intro w hSw; (try dsimp only at hSw); go_simp; all_goals (try with_reducible rfl))
  try simp only [Act.put, List.setIfInBounds_toArray, List.set_cons_zero, List.set_cons_succ]
  refine wpAnyH_take (i := 3) (oi := { dst := some 14, op := Op.load 47 (Operand.tmp 13), type := 47, pos := "look.go:78", after := #[{ on := 2, ground := Ground.data }], guard := none }) (v := ?_) rfl (by kernel_rfl) (by kernel_rfl) (by kernel_rfl) (fun _ _ _ h => h) (Or.inl ⟨by rfl, ?_⟩) hHeld ?_
  rotate_left
  · (intro w hSw; (try dsimp only at hSw); go_simp; all_goals (try with_reducible rfl))
  try simp only [Act.put, List.setIfInBounds_toArray, List.set_cons_zero, List.set_cons_succ]
  refine wpAnyH_take (i := 4) (oi := { dst := some 15, op := Op.load 24 (Operand.tmp 3), type := 24, pos := "look.go:78", after := #[], guard := none }) (v := ?_) rfl (by kernel_rfl) (by kernel_rfl) (by kernel_rfl) (fun _ _ _ h => h) (Or.inl ⟨by rfl, ?_⟩) hHeld ?_
  rotate_left
  · (intro w hSw; (try dsimp only at hSw); go_simp; all_goals (try with_reducible rfl))
  try simp only [Act.put, List.setIfInBounds_toArray, List.set_cons_zero, List.set_cons_succ]
  refine wpAnyH_ready (rs := [5, 6]) (by kernel_rfl) (by simp) ?_
  refine AllReadyH.cons (o := { dst := some 16, op := Op.call { callee := Callee.value (Operand.func 13), args := #[Operand.tmp 14, Operand.tmp 15], argTypes := #[47, 24] }, type := 45, pos := "look.go:78", after := #[{ on := 3, ground := Ground.data }, { on := 4, ground := Ground.data }], guard := none }) rfl (fun K hK => ?_) ?_
  · skip
    go_simp
    refine Calls.mono (HW.out _ HBC.out) ?_
    rintro e W4 ⟨pa, pc, rfl, hrow, hb4, hpa⟩
    have HWT : Hid (WtRow W4 pa ws) := hrow
    have HPR : Hid _ := HBC.out
    have HBC : Hid (Below Y.heap.size Y W4) := HBC.out.trans (hb4.mono HBC.out.size)
    have HW4 : Hid (Below Y.heap.size Y W4) := HBC.out
    first
      | (have d0 : W4.cell? ⟨Y.heap.size, 0, none⟩ = some (.slice none 0 0) := cell_up hb4 (box_new0 _ _ _ _); have d1 : W4.cell? ⟨Y.heap.size, 1, none⟩ = some (.int .i64 0) := cell_up hb4 (box_new1 _ _ _ _); have df : ∀ i, W4.frozen? ⟨Y.heap.size, i, none⟩ = false := fun i => (hb4.frozen (p := ⟨Y.heap.size, i, none⟩) (box_newL _ _)).trans (box_newf _ _ _ _))
      | skip
    have HPA : Hid _ := hpa
    have HPG : Hid (∀ y, pa = some y → Y.heap.size ≤ y.block) := fun y hy => Nat.le_trans HPR.out.size (hpa y hy)
    clear hb4 hrow hpa
    go_wp2_with fail
    refine hK.out _ _ (HALL.out _ HBC.out) (fun hHeld => ?_)
    clear hK K
    try simp only [Act.put, List.setIfInBounds_toArray, List.set_cons_zero, List.set_cons_succ]
    refine wpAnyH_ready (rs := [6]) (by kernel_rfl) (by simp) ?_
    refine AllReadyH.cons (o := { dst := some 5, op := Op.alloc 45, type := 0, pos := "look.go:78", after := #[], guard := none }) rfl (fun K hK => ?_) AllReadyH.nil
    go_simp
    first
      | (have HBC : Hid (Below Y.heap.size Y (W4.alloc (.cells #[.slice none 0 0, .int .i64 0] 45))) := HBC.out.alloc HBC.out.size _)
      | (have HBC : Hid (Below Y.heap.size Y (Y.alloc (.cells #[.slice none 0 0, .int .i64 0] 45)).drew) := ((Below.refl _ _).alloc (Nat.le_refl _) _).drew)
    refine hK.out _ _ (HALL.out _ HBC.out) (fun hHeld => ?_)
    clear hK K
    try simp only [Act.put, List.setIfInBounds_toArray, List.set_cons_zero, List.set_cons_succ]
    refine wpAnyH_ready (rs := [7]) (by kernel_rfl) (by simp) ?_
    refine AllReadyH.cons (o := { dst := none, op := Op.store 45 (Operand.tmp 5) (Operand.tmp 16), type := 0, pos := "look.go:78", after := #[{ on := 6, ground := Ground.data }, { on := 5, ground := Ground.data }, { on := 5, ground := Ground.chain }, { on := 0, ground := Ground.phase }, { on := 1, ground := Ground.phase }, { on := 2, ground := Ground.phase }, { on := 3, ground := Ground.phase }, { on := 4, ground := Ground.phase }, { on := 5, ground := Ground.phase }, { on := 6, ground := Ground.phase }], guard := none }) rfl (fun K hK => ?_) AllReadyH.nil
    go_simp
    first
      | (have HBC : Hid (Below Y.heap.size Y ((W4.setCell ⟨Y.heap.size, 0, none⟩ (.slice pa ws.length pc)).setCell ⟨Y.heap.size, 1, none⟩ (.int .i64 num))) := by (clear d0; exact (HBC.out.setCell (Nat.le_refl _) _).setCell (Nat.le_refl _) _))
      | (have HBC : Hid (Below Y.heap.size Y (W4.alloc (.cells #[.slice pa ws.length pc, .int .i64 num] 45))) := ((HW4.out).alloc (HW4.out).size _))
    refine hK.out _ _ (HALL.out _ HBC.out) (fun hHeld => ?_)
    clear hK K
    try simp only [Act.put]
    refine wpAnyH_done (by kernel_rfl) ?_ _
    clear hHeld
    first
      | (have HAB : Hid (AtBox ((W4.setCell ⟨Y.heap.size, 0, none⟩ (.slice pa ws.length pc)).setCell ⟨Y.heap.size, 1, none⟩ (.int .i64 num)) Y.heap.size (.slice pa ws.length pc) num) := (AtBox.store ⟨d0, d1, df⟩ _).st1 _
         have HWZ : Hid (WtRow ((W4.setCell ⟨Y.heap.size, 0, none⟩ (.slice pa ws.length pc)).setCell ⟨Y.heap.size, 1, none⟩ (.int .i64 num)) pa ws) := HWT.out.mod (S := [Y.heap.size]) (((Mod.refl _ _).setCell _ _ _ (by simp)).setCell _ _ _ (by simp)) (fun y hy => by
           have h1 := HPA.out y hy
           have h2 := box_newL Y (.cells #[.slice none 0 0, .int .i64 0] 45)
           simp; omega)
         have HBZ : Hid _ := HBC.out
         clear d0 d1 df HBC HW4 HWT HPA HPR
         generalize (W4.setCell ⟨Y.heap.size, 0, none⟩ (.slice pa ws.length pc)).setCell ⟨Y.heap.size, 1, none⟩ (.int .i64 num) = Z at *
         obtain ⟨ab, hab⟩ : ∃ n, n = Y.heap.size := ⟨_, rfl⟩
         have HABE : Hid (ab = Y.heap.size) := hab
         simp only [← hab] at HAB ⊢
         clear hab
         have HGE : Hid (Y.heap.size ≤ ab) := by show _ ≤ _; rw [HABE.out]; exact Nat.le_refl _)
      | (have HAB : Hid (AtBox (W4.alloc (.cells #[.slice pa ws.length pc, .int .i64 num] 45)) W4.heap.size (.slice pa ws.length pc) num) := AtBox.new _ _ _ _
         have HWZ : Hid (WtRow (W4.alloc (.cells #[.slice pa ws.length pc, .int .i64 num] 45)) pa ws) := HWT.out.below ((Below.refl _ _).alloc (Nat.le_refl _) _)
         have HBZ : Hid _ := HBC.out
         have HGE : Hid (Y.heap.size ≤ W4.heap.size) := HW4.out.size
         clear HBC HW4 HWT HPA HPR
         generalize W4.alloc (.cells #[.slice pa ws.length pc, .int .i64 num] 45) = Z at *
         generalize W4.heap.size = ab at *)
    clear HW HALL HTX
    have HLZ : Hid (LookAt W0 Z g b names ra rc rows o) := HLY.out.below HBZ.out
    have hgY : g < Y.heap.size := by have := HSZ.out; omega
    have hgZ : g < Z.heap.size := HLZ.out.lt
    have hbZ : b < Z.heap.size := HLZ.out.cols.lt
    have habZ : ab < Z.heap.size := World.block_lt_of_cell? _ _ HAB.out.c0
    have hga : g ≠ ab := by have := HGE.out; omega
    have z1 := HLZ.out.c1
    go_wp2_with (at_make; refine wpList_mkB _ rfl _ _ rfl rows.length rfl rfl hrl ?_; intro Z1 hf1 hb1 hl1; have z1' := cell_up hb1 z1)
    have HM1 : Hid (Mod [g] Z Z1) := Mod.of_below hb1
    have HL1 : Hid (LookAt W0 Z1 g b names ra rc rows o) := HLZ.out.below hb1
    have HF1 : Hid (FillB Z1 Z.heap.size rows.length 0 fH) := hf1 _
    clear hf1 hb1 z1 z1'
    have HWZ2 : Hid (∀ X, Mod [g] Z X → WtRow X pa ws) := fun X hX => HWZ.out.mod hX (fun y hy => by have := HPG.out y hy; simp; omega)
    have HAZ2 : Hid (∀ X, Mod [g] Z X → AtBox X ab (.slice pa ws.length pc) num) := fun X hX => HAB.out.mod hX (by simp; omega)
    go_loopw [28] (fun i wr => ∃ (k o' : Nat), k ≤ rows.length ∧ i = .int .i64 k ∧ Mod [g] Z wr ∧ LookAt W0 wr g b names ra rc rows o' ∧ OvIs rows.length (fun j => Q j ∨ (j < k ∧ fO j = true)) o' ∧ FillB wr Z.heap.size rows.length k fH) (fun i _ => rows.length - (intOf i).toNat)
    case atStart => exact ⟨0, o, Nat.zero_le _, rfl, HM1.out, HL1.out, HQ.out.congr fun j hj => ⟨.inl, fun h => h.elim id fun h => absurd h.1 (by omega)⟩, HF1.out⟩
    case round =>
      obtain ⟨k, o', hk, rfl, hm, hlk, hq, hf⟩ := hrel
      have HM : Hid (Mod [g] Z wr) := hm
      have HLK : Hid (LookAt W0 wr g b names ra rc rows o') := hlk
      have HQK : Hid (OvIs rows.length (fun j => Q j ∨ (j < k ∧ fO j = true)) o') := hq
      have HFK : Hid (FillB wr Z.heap.size rows.length k fH) := hf
      have hwZ : Z.heap.size ≤ wr.heap.size := hm.size
      clear hm hlk hq hf
      by_cases hlt9 : k < rows.length
      · obtain ⟨rb, off, rfl, rcell, rrow⟩ := (HLK.out.rows.below HLK.out.bel) k hlt9
        have hH := HH.out k
        have hO := HO.out k
        have hro := HROWS.out _ (getD_mem default hlt9)
        have hQy : fO k = true → OvIs rows.length (fun j => Q j ∨ (j < k + 1 ∧ fO j = true)) (min o' k) := fun q => HQK.out.yes hlt9 q
        have hQn : fO k = false → OvIs rows.length (fun j => Q j ∨ (j < k + 1 ∧ fO j = true)) o' := fun q => HQK.out.no q
        have HJ : Hid (Calls Try.prog 11 #[.agg #[.slice pa ws.length pc, .int .i64 num], .slice (rows.getD k default).a (rows.getD k default).zs.length (rows.getD k default).c] wr fun e W' => e = .returned (.tuple #[.bool (fH k), .bool (fO k)]) ∧ Below wr.heap.size wr W') := by
          have := judge_tells pa pc ws num (rows.getD k default).a (rows.getD k default).c (rows.getD k default).zs wr (HWZ2.out _ HM.out) rrow hwt hro HNUM.out hwl2
          rw [← hH, ← hO] at this; exact this
        have HQY : Hid _ := hQy
        have HQN : Hid _ := hQn
        obtain ⟨a0, a1, _⟩ := HAZ2.out _ HM.out
        clear hH hO hro rrow hQy hQn
        generalize (rows.getD k default).a = xa at *
        generalize (rows.getD k default).zs.length = xl at *
        generalize (rows.getD k default).c = xc at *
        have HSTEP : Hid (∀ X c, Mod [g] Z X → FillB X Z.heap.size rows.length k fH → c = fH k → FillB (X.setCell ⟨Z.heap.size, k, none⟩ (.bool c)) Z.heap.size rows.length (k + 1) fH) := fun X c hX hf hc => hf.step hlt9 _ hc
        generalize fH k = hk1 at *
        cases hok : fO k with
        | false =>
          have HQ2 : Hid _ := HQN.out hok
          rw [hok] at HJ
          go_wp2_with fail
          refine Calls.mono HJ.out ?_
          rintro e W5 ⟨rfl, hb5⟩
          have HM5 : Hid (Mod [g] Z W5) := HM.out.thenBelow hb5
          have HL5 : Hid _ := HLK.out.below hb5
          have HF5 : Hid (FillB W5 Z.heap.size rows.length k fH) := HFK.out.below (by have := World.block_lt_of_cell? _ _ (HFK.out.cell k hlt9); exact this) hb5
          have f5 := HF5.out.frz k
          have e5 := HF5.out.cell k hlt9
          clear hb5
          go_wp2
          go_roundw
          case rel => exact ⟨k + 1, o', by omega, by go_num, HM5.out.setNew _ _ _ (Nat.le_refl _), HL5.out.oth Z.heap.size k _ (by have := HLZ.out.ge; omega) (by omega) (by omega), HQ2.out, HSTEP.out _ _ HM5.out HF5.out rfl⟩
          case measure => simp [intOf]; omega
        | true =>
          have HQ2 : Hid _ := HQY.out hok
          rw [hok] at HJ
          go_wp2_with fail
          refine Calls.mono HJ.out ?_
          rintro e W5 ⟨rfl, hb5⟩
          have HM5 : Hid (Mod [g] Z W5) := HM.out.thenBelow hb5
          have HL5 : Hid _ := HLK.out.below hb5
          have HF5 : Hid (FillB W5 Z.heap.size rows.length k fH) := HFK.out.below (by have := World.block_lt_of_cell? _ _ (HFK.out.cell k hlt9); exact this) hb5
          have f5 := HF5.out.frz k
          have e5 := HF5.out.cell k hlt9
          have g5 := HL5.out.f 2
          have m5 := HL5.out.c2
          have hgz2 : Z.heap.size ≠ g := by omega
          have hgz3 : g ≠ Z.heap.size := by omega
          clear hb5
          go_wp2
          go_roundw
          case rel => exact ⟨k + 1, min o' k, by omega, by go_num, (HM5.out.setCell _ _ _ (by simp)).setNew _ _ _ (Nat.le_refl _), (HL5.out.storeI (min o' k) _ (by omega)).oth Z.heap.size k _ (by have := HLZ.out.ge; omega) (by omega) (by omega), HQ2.out, HSTEP.out _ _ (HM5.out.setCell _ _ _ (by simp)) (HF5.out.oth _ _ (by omega) _) rfl⟩
          case measure => simp [intOf]; omega
      · have hkk : k = rows.length := by omega
        subst hkk
        go_wp2
        go_ret
        refine ⟨Z.heap.size, o', rfl, ?_, HFK.out.row, HLK.out, HQK.out.congr fun j hj => ⟨fun h => h.imp id And.right, fun h => h.imp id fun h => ⟨hj, h⟩⟩, ?_⟩
        · exact Nat.le_trans HBY.out.size HBZ.out.size
        · exact (Mod.of_below (HBY.out.trans (HBZ.out.mono HBY.out.size))).trans HM.out
  refine AllReadyH.cons (o := { dst := some 5, op := Op.alloc 45, type := 0, pos := "look.go:78", after := #[], guard := none }) rfl (fun K hK => ?_) AllReadyH.nil
  go_simp
  first
    | (have HBC : Hid (Below Y.heap.size Y (W4.alloc (.cells #[.slice none 0 0, .int .i64 0] 45))) := HBC.out.alloc HBC.out.size _)
    | (have HBC : Hid (Below Y.heap.size Y (Y.alloc (.cells #[.slice none 0 0, .int .i64 0] 45)).drew) := ((Below.refl _ _).alloc (Nat.le_refl _) _).drew)
  refine hK.out _ _ (HALL.out _ HBC.out) (fun hHeld => ?_)
  clear hK K
  try simp only [Act.put, List.setIfInBounds_toArray, List.set_cons_zero, List.set_cons_succ]
  refine wpAnyH_ready (rs := [5]) (by kernel_rfl) (by simp) ?_
  refine AllReadyH.cons (o := { dst := some 16, op := Op.call { callee := Callee.value (Operand.func 13), args := #[Operand.tmp 14, Operand.tmp 15], argTypes := #[47, 24] }, type := 45, pos := "look.go:78", after := #[{ on := 3, ground := Ground.data }, { on := 4, ground := Ground.data }], guard := none }) rfl (fun K hK => ?_) AllReadyH.nil
  go_simp
  refine Calls.mono (HW.out _ HBC.out) ?_
  rintro e W4 ⟨pa, pc, rfl, hrow, hb4, hpa⟩
  have HWT : Hid (WtRow W4 pa ws) := hrow
  have HPR : Hid _ := HBC.out
  have HBC : Hid (Below Y.heap.size Y W4) := HBC.out.trans (hb4.mono HBC.out.size)
  have HW4 : Hid (Below Y.heap.size Y W4) := HBC.out
  first
    | (have d0 : W4.cell? ⟨Y.heap.size, 0, none⟩ = some (.slice none 0 0) := cell_up hb4 (box_new0 _ _ _ _); have d1 : W4.cell? ⟨Y.heap.size, 1, none⟩ = some (.int .i64 0) := cell_up hb4 (box_new1 _ _ _ _); have df : ∀ i, W4.frozen? ⟨Y.heap.size, i, none⟩ = false := fun i => (hb4.frozen (p := ⟨Y.heap.size, i, none⟩) (box_newL _ _)).trans (box_newf _ _ _ _))
    | skip
  have HPA : Hid _ := hpa
  have HPG : Hid (∀ y, pa = some y → Y.heap.size ≤ y.block) := fun y hy => Nat.le_trans HPR.out.size (hpa y hy)
  clear hb4 hrow hpa
  go_wp2_with fail
  refine hK.out _ _ (HALL.out _ HBC.out) (fun hHeld => ?_)
  clear hK K
  try simp only [Act.put, List.setIfInBounds_toArray, List.set_cons_zero, List.set_cons_succ]
  refine wpAnyH_ready (rs := [7]) (by kernel_rfl) (by simp) ?_
  refine AllReadyH.cons (o := { dst := none, op := Op.store 45 (Operand.tmp 5) (Operand.tmp 16), type := 0, pos := "look.go:78", after := #[{ on := 6, ground := Ground.data }, { on := 5, ground := Ground.data }, { on := 5, ground := Ground.chain }, { on := 0, ground := Ground.phase }, { on := 1, ground := Ground.phase }, { on := 2, ground := Ground.phase }, { on := 3, ground := Ground.phase }, { on := 4, ground := Ground.phase }, { on := 5, ground := Ground.phase }, { on := 6, ground := Ground.phase }], guard := none }) rfl (fun K hK => ?_) AllReadyH.nil
  go_simp
  first
    | (have HBC : Hid (Below Y.heap.size Y ((W4.setCell ⟨Y.heap.size, 0, none⟩ (.slice pa ws.length pc)).setCell ⟨Y.heap.size, 1, none⟩ (.int .i64 num))) := by (clear d0; exact (HBC.out.setCell (Nat.le_refl _) _).setCell (Nat.le_refl _) _))
    | (have HBC : Hid (Below Y.heap.size Y (W4.alloc (.cells #[.slice pa ws.length pc, .int .i64 num] 45))) := ((HW4.out).alloc (HW4.out).size _))
  refine hK.out _ _ (HALL.out _ HBC.out) (fun hHeld => ?_)
  clear hK K
  try simp only [Act.put]
  refine wpAnyH_done (by kernel_rfl) ?_ _
  clear hHeld
  first
    | (have HAB : Hid (AtBox ((W4.setCell ⟨Y.heap.size, 0, none⟩ (.slice pa ws.length pc)).setCell ⟨Y.heap.size, 1, none⟩ (.int .i64 num)) Y.heap.size (.slice pa ws.length pc) num) := (AtBox.store ⟨d0, d1, df⟩ _).st1 _
       have HWZ : Hid (WtRow ((W4.setCell ⟨Y.heap.size, 0, none⟩ (.slice pa ws.length pc)).setCell ⟨Y.heap.size, 1, none⟩ (.int .i64 num)) pa ws) := HWT.out.mod (S := [Y.heap.size]) (((Mod.refl _ _).setCell _ _ _ (by simp)).setCell _ _ _ (by simp)) (fun y hy => by
         have h1 := HPA.out y hy
         have h2 := box_newL Y (.cells #[.slice none 0 0, .int .i64 0] 45)
         simp; omega)
       have HBZ : Hid _ := HBC.out
       clear d0 d1 df HBC HW4 HWT HPA HPR
       generalize (W4.setCell ⟨Y.heap.size, 0, none⟩ (.slice pa ws.length pc)).setCell ⟨Y.heap.size, 1, none⟩ (.int .i64 num) = Z at *
       obtain ⟨ab, hab⟩ : ∃ n, n = Y.heap.size := ⟨_, rfl⟩
       have HABE : Hid (ab = Y.heap.size) := hab
       simp only [← hab] at HAB ⊢
       clear hab
       have HGE : Hid (Y.heap.size ≤ ab) := by show _ ≤ _; rw [HABE.out]; exact Nat.le_refl _)
    | (have HAB : Hid (AtBox (W4.alloc (.cells #[.slice pa ws.length pc, .int .i64 num] 45)) W4.heap.size (.slice pa ws.length pc) num) := AtBox.new _ _ _ _
       have HWZ : Hid (WtRow (W4.alloc (.cells #[.slice pa ws.length pc, .int .i64 num] 45)) pa ws) := HWT.out.below ((Below.refl _ _).alloc (Nat.le_refl _) _)
       have HBZ : Hid _ := HBC.out
       have HGE : Hid (Y.heap.size ≤ W4.heap.size) := HW4.out.size
       clear HBC HW4 HWT HPA HPR
       generalize W4.alloc (.cells #[.slice pa ws.length pc, .int .i64 num] 45) = Z at *
       generalize W4.heap.size = ab at *)
  clear HW HALL HTX
  have HLZ : Hid (LookAt W0 Z g b names ra rc rows o) := HLY.out.below HBZ.out
  have hgY : g < Y.heap.size := by have := HSZ.out; omega
  have hgZ : g < Z.heap.size := HLZ.out.lt
  have hbZ : b < Z.heap.size := HLZ.out.cols.lt
  have habZ : ab < Z.heap.size := World.block_lt_of_cell? _ _ HAB.out.c0
  have hga : g ≠ ab := by have := HGE.out; omega
  have z1 := HLZ.out.c1
  go_wp2_with (at_make; refine wpList_mkB _ rfl _ _ rfl rows.length rfl rfl hrl ?_; intro Z1 hf1 hb1 hl1; have z1' := cell_up hb1 z1)
  have HM1 : Hid (Mod [g] Z Z1) := Mod.of_below hb1
  have HL1 : Hid (LookAt W0 Z1 g b names ra rc rows o) := HLZ.out.below hb1
  have HF1 : Hid (FillB Z1 Z.heap.size rows.length 0 fH) := hf1 _
  clear hf1 hb1 z1 z1'
  have HWZ2 : Hid (∀ X, Mod [g] Z X → WtRow X pa ws) := fun X hX => HWZ.out.mod hX (fun y hy => by have := HPG.out y hy; simp; omega)
  have HAZ2 : Hid (∀ X, Mod [g] Z X → AtBox X ab (.slice pa ws.length pc) num) := fun X hX => HAB.out.mod hX (by simp; omega)
  go_loopw [28] (fun i wr => ∃ (k o' : Nat), k ≤ rows.length ∧ i = .int .i64 k ∧ Mod [g] Z wr ∧ LookAt W0 wr g b names ra rc rows o' ∧ OvIs rows.length (fun j => Q j ∨ (j < k ∧ fO j = true)) o' ∧ FillB wr Z.heap.size rows.length k fH) (fun i _ => rows.length - (intOf i).toNat)
  case atStart => exact ⟨0, o, Nat.zero_le _, rfl, HM1.out, HL1.out, HQ.out.congr fun j hj => ⟨.inl, fun h => h.elim id fun h => absurd h.1 (by omega)⟩, HF1.out⟩
  case round =>
    obtain ⟨k, o', hk, rfl, hm, hlk, hq, hf⟩ := hrel
    have HM : Hid (Mod [g] Z wr) := hm
    have HLK : Hid (LookAt W0 wr g b names ra rc rows o') := hlk
    have HQK : Hid (OvIs rows.length (fun j => Q j ∨ (j < k ∧ fO j = true)) o') := hq
    have HFK : Hid (FillB wr Z.heap.size rows.length k fH) := hf
    have hwZ : Z.heap.size ≤ wr.heap.size := hm.size
    clear hm hlk hq hf
    by_cases hlt9 : k < rows.length
    · obtain ⟨rb, off, rfl, rcell, rrow⟩ := (HLK.out.rows.below HLK.out.bel) k hlt9
      have hH := HH.out k
      have hO := HO.out k
      have hro := HROWS.out _ (getD_mem default hlt9)
      have hQy : fO k = true → OvIs rows.length (fun j => Q j ∨ (j < k + 1 ∧ fO j = true)) (min o' k) := fun q => HQK.out.yes hlt9 q
      have hQn : fO k = false → OvIs rows.length (fun j => Q j ∨ (j < k + 1 ∧ fO j = true)) o' := fun q => HQK.out.no q
      have HJ : Hid (Calls Try.prog 11 #[.agg #[.slice pa ws.length pc, .int .i64 num], .slice (rows.getD k default).a (rows.getD k default).zs.length (rows.getD k default).c] wr fun e W' => e = .returned (.tuple #[.bool (fH k), .bool (fO k)]) ∧ Below wr.heap.size wr W') := by
        have := judge_tells pa pc ws num (rows.getD k default).a (rows.getD k default).c (rows.getD k default).zs wr (HWZ2.out _ HM.out) rrow hwt hro HNUM.out hwl2
        rw [← hH, ← hO] at this; exact this
      have HQY : Hid _ := hQy
      have HQN : Hid _ := hQn
      obtain ⟨a0, a1, _⟩ := HAZ2.out _ HM.out
      clear hH hO hro rrow hQy hQn
      generalize (rows.getD k default).a = xa at *
      generalize (rows.getD k default).zs.length = xl at *
      generalize (rows.getD k default).c = xc at *
      have HSTEP : Hid (∀ X c, Mod [g] Z X → FillB X Z.heap.size rows.length k fH → c = fH k → FillB (X.setCell ⟨Z.heap.size, k, none⟩ (.bool c)) Z.heap.size rows.length (k + 1) fH) := fun X c hX hf hc => hf.step hlt9 _ hc
      generalize fH k = hk1 at *
      cases hok : fO k with
      | false =>
        have HQ2 : Hid _ := HQN.out hok
        rw [hok] at HJ
        go_wp2_with fail
        refine Calls.mono HJ.out ?_
        rintro e W5 ⟨rfl, hb5⟩
        have HM5 : Hid (Mod [g] Z W5) := HM.out.thenBelow hb5
        have HL5 : Hid _ := HLK.out.below hb5
        have HF5 : Hid (FillB W5 Z.heap.size rows.length k fH) := HFK.out.below (by have := World.block_lt_of_cell? _ _ (HFK.out.cell k hlt9); exact this) hb5
        have f5 := HF5.out.frz k
        have e5 := HF5.out.cell k hlt9
        clear hb5
        go_wp2
        go_roundw
        case rel => exact ⟨k + 1, o', by omega, by go_num, HM5.out.setNew _ _ _ (Nat.le_refl _), HL5.out.oth Z.heap.size k _ (by have := HLZ.out.ge; omega) (by omega) (by omega), HQ2.out, HSTEP.out _ _ HM5.out HF5.out rfl⟩
        case measure => simp [intOf]; omega
      | true =>
        have HQ2 : Hid _ := HQY.out hok
        rw [hok] at HJ
        go_wp2_with fail
        refine Calls.mono HJ.out ?_
        rintro e W5 ⟨rfl, hb5⟩
        have HM5 : Hid (Mod [g] Z W5) := HM.out.thenBelow hb5
        have HL5 : Hid _ := HLK.out.below hb5
        have HF5 : Hid (FillB W5 Z.heap.size rows.length k fH) := HFK.out.below (by have := World.block_lt_of_cell? _ _ (HFK.out.cell k hlt9); exact this) hb5
        have f5 := HF5.out.frz k
        have e5 := HF5.out.cell k hlt9
        have g5 := HL5.out.f 2
        have m5 := HL5.out.c2
        have hgz2 : Z.heap.size ≠ g := by omega
        have hgz3 : g ≠ Z.heap.size := by omega
        clear hb5
        go_wp2
        go_roundw
        case rel => exact ⟨k + 1, min o' k, by omega, by go_num, (HM5.out.setCell _ _ _ (by simp)).setNew _ _ _ (Nat.le_refl _), (HL5.out.storeI (min o' k) _ (by omega)).oth Z.heap.size k _ (by have := HLZ.out.ge; omega) (by omega) (by omega), HQ2.out, HSTEP.out _ _ (HM5.out.setCell _ _ _ (by simp)) (HF5.out.oth _ _ (by omega) _) rfl⟩
        case measure => simp [intOf]; omega
    · have hkk : k = rows.length := by omega
      subst hkk
      go_wp2
      go_ret
      refine ⟨Z.heap.size, o', rfl, ?_, HFK.out.row, HLK.out, HQK.out.congr fun j hj => ⟨fun h => h.imp id And.right, fun h => h.imp id fun h => ⟨hj, h⟩⟩, ?_⟩
      · exact Nat.le_trans HBY.out.size HBZ.out.size
      · exact (Mod.of_below (HBY.out.trans (HBZ.out.mono HBY.out.size))).trans HM.out
end Go.Proofs.Ytipbjoeekbgnbaa
