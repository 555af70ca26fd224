/- The contract of trace's part. Conditions: at most 1000 rows and names. -/
import Derived.Test.YtipbjoeekbgnbaaTdE
namespace Go.Proofs.Ytipbjoeekbgnbaa
open Go.RowKit Go.Maps Go.ChangeShapes
set_option linter.unusedVariables false
set_option maxRecDepth 100000

/-- The contract of part for trees of at most N nodes. -/
def PartOk (W0 : World) (g b : Nat) (names : List ByteArray) (ra : Option Addr) (rc : Nat) (rows : List RwV) (N : Nat) : Prop :=
  ∀ (y : NdV) (k : Fo) (rest : List NdV) (a : Option Addr) (cap : Nat) (W : World) (o : Nat) (Q : Nat → Prop), k.flat.length < N → NdsAt W0 a cap (y :: (k.flat ++ rest)) → (Fo.cons y k .nil).ok → LookAt W0 W g b names ra rc rows o → OvIs rows.length Q o →
    Calls Try.prog 33 #[.pointer (some ⟨g, 0, none⟩), .slice a (y :: (k.flat ++ rest)).length cap] W (PartTells W0 W g b names ra rc rows (fun j => Q j ∨ exO names rows (y :: k.flat) j) (combF names rows y.x (k.sem names rows)) rest)
theorem nds_cells {W : World} {a : Option Addr} {cap : Nat} {y : NdV} {l : List NdV} (h : NdsAt W a cap (y :: l)) : ∃ nb off, a = some ⟨nb, off, none⟩ ∧ ∀ X, Below W.heap.size W X → X.cell? ⟨nb, off, none⟩ = some (.int .i64 y.x.op) ∧ X.cell? ⟨nb, off + 1, none⟩ = some (.int .i64 y.x.n) ∧ X.cell? ⟨nb, off + 2, none⟩ = some (.int .i64 y.x.fr) ∧ X.cell? ⟨nb, off + 3, none⟩ = some (.int .i64 y.x.to) ∧ X.cell? ⟨nb, off + 4, none⟩ = some (.slice y.ta y.x.terms.length y.tc) ∧ X.cell? ⟨nb, off + 5, none⟩ = some (.int .i64 y.x.num) := by
  obtain ⟨nb, off, e, hj⟩ := h.row 0 (by simp)
  refine ⟨nb, off, e, fun X hX => ?_⟩
  simp only [Nat.zero_mul, Nat.add_zero, List.getD_cons_zero] at hj
  refine ⟨cell_up hX ?_, cell_up hX ?_, cell_up hX ?_, cell_up hX ?_, cell_up hX ?_, cell_up hX ?_⟩
  · have := hj 0 (by omega); simpa [ndC] using this
  · have := hj 1 (by omega); simpa [ndC] using this
  · have := hj 2 (by omega); simpa [ndC] using this
  · have := hj 3 (by omega); simpa [ndC] using this
  · have := hj 4 (by omega); simpa [ndC] using this
  · have := hj 5 (by omega); simpa [ndC] using this
theorem BoRow.mod {S : List Nat} {w w' : World} {r n : Nat} {f : Nat → Bool} (h : BoRow w (some ⟨r, 0, none⟩) n f) (k : Mod S w w') (hr : r ∉ S) : BoRow w' (some ⟨r, 0, none⟩) n f := fun i hi => by
  obtain ⟨b, off, e, hc⟩ := h i hi
  cases e
  exact ⟨r, 0, rfl, k.cell hc hr⟩
theorem Fo.len_le : ∀ f : Fo, f.len ≤ f.flat.length
  | .nil => Nat.le_refl _
  | .cons y k s => by have := Fo.len_le s; simp [Fo.len, Fo.flat]; omega
theorem LookTells.ofMod {W0 w X : World} {g b : Nat} {names : List ByteArray} {ra : Option Addr} {rc : Nat} {rows : List RwV} {o : Nat} {Q : Nat → Prop} {f : Nat → Bool} {rest : List NdV} {r : Nat} {a : Option Addr} {c : Nat} {W' : World} {Q' : Nat → Prop} (hL : LookAt W0 X g b names ra rc rows o) (hQ : OvIs rows.length Q o) (h : BoRow W' (some ⟨r, 0, none⟩) rows.length f) (hb : Below X.heap.size X W') (hr : w.heap.size ≤ r) (k : Mod [g] w X) (hn : NdsAt W0 a c rest) (hq : ∀ j, j < rows.length → (Q j ↔ Q' j)) : PartTells W0 w g b names ra rc rows Q' f rest (.returned (.tuple #[.slice (some ⟨r, 0, none⟩) rows.length rows.length, .slice a rest.length c])) W' :=
  ⟨r, o, a, c, rfl, hn, hr, h, hL.below hb, hQ.congr hq, k.thenBelow hb⟩
set_option maxHeartbeats 16000000 in
theorem part_step (W0 : World) (g b : Nat) (names : List ByteArray) (ra : Option Addr) (rc : Nat) (rows : List RwV) (N : Nat) (hIH : PartOk W0 g b names ra rc rows N) (hrows : ∀ r ∈ rows, ∀ z ∈ r.zs, B64 z) (hn : names.length ≤ 1000) (hrl : rows.length ≤ 1000) : PartOk W0 g b names ra rc rows (N + 1) := by
  intro y k rest a cap W o Q hk h hok hL hQ
  have HIH : Hid (PartOk W0 g b names ra rc rows N) := hIH
  obtain ⟨hyn, ⟨hg1, hg2, hg3, hg4, hg5, hg6⟩, hkok, _⟩ := hok
  obtain ⟨nb, off, rfl, hcells⟩ := nds_cells h
  obtain ⟨a2, hd2, hn2⟩ := nds_drop h 1 (by simp)
  have hter := (h.terms y (by simp)).row
  simp only [List.drop_succ_cons, List.drop_zero] at hn2
  rw [show (y :: (k.flat ++ rest)).length - 1 = (k.flat ++ rest).length by simp] at hd2
  have hlen : (y :: (k.flat ++ rest)).length = (k.flat ++ rest).length + 1 := by simp
  have hpos : (0 : Int) < (((k.flat ++ rest).length + 1 : Nat) : Int) := by omega
  rw [hlen] at hd2 ⊢
  have hlt := hL.lt
  have HBY : Hid (Below W.heap.size W (W.alloc (.cells #[.int .i64 y.x.op, .int .i64 y.x.n, .int .i64 y.x.fr, .int .i64 y.x.to, .slice y.ta y.x.terms.length y.tc, .int .i64 y.x.num] 24)).drew) := ((Below.refl _ _).alloc (Nat.le_refl _) _).drew
  have HCE : Hid (∀ X, Below W.heap.size W X → X.cell? ⟨nb, off, none⟩ = some (.int .i64 y.x.op) ∧ X.cell? ⟨nb, off + 1, none⟩ = some (.int .i64 y.x.n) ∧ X.cell? ⟨nb, off + 2, none⟩ = some (.int .i64 y.x.fr) ∧ X.cell? ⟨nb, off + 3, none⟩ = some (.int .i64 y.x.to) ∧ X.cell? ⟨nb, off + 4, none⟩ = some (.slice y.ta y.x.terms.length y.tc) ∧ X.cell? ⟨nb, off + 5, none⟩ = some (.int .i64 y.x.num)) := fun X hX => hcells X (hL.bel.trans (hX.mono hL.bel.size))
  have HLB : Hid (∀ X, Below W.heap.size W X → LookAt W0 X g b names ra rc rows o) := fun X hX => hL.below hX
  have HQ : Hid (OvIs rows.length Q o) := hQ
  have hd : ∀ X, (Instr.slice 28 (.slice (some ⟨nb, off, none⟩) ((k.flat ++ rest).length + 1) cap) (some (.int .i64 1)) none none).run Try.prog X = .ok (.slice a2 (k.flat ++ rest).length (cap - 1)) X := hd2
  have HN2 : Hid (NdsAt W0 a2 (cap - 1) (k.flat ++ rest)) := hn2
  obtain ⟨m, hm⟩ : ∃ m, (k.flat ++ rest).length = m := ⟨_, rfl⟩
  have HM : Hid ((k.flat ++ rest).length = m) := hm
  rw [hm] at hd hpos ⊢
  have hpos2 : (0 : Int) < (m : Int) + 1 := by omega
  have HBC : Hid (Below W.heap.size W W.drew) := (Below.refl _ _).drew
  have HBC2 : Hid (Below W.heap.size W (W.drew.alloc (.cells #[.int .i64 y.x.op, .int .i64 y.x.n, .int .i64 y.x.fr, .int .i64 y.x.to, .slice y.ta y.x.terms.length y.tc, .int .i64 y.x.num] 24))) := HBC.out.alloc (Nat.le_refl _) _
  clear hcells h hd2 hn2 hQ hlen hm hpos
  obtain ⟨⟨op, n, fr, to, ts, num⟩, ta, tc⟩ := y
  simp only at *
  obtain ⟨kl, hkl⟩ : ∃ kl, k.len = kl := ⟨_, rfl⟩
  have HKL : Hid (k.len = kl) := hkl
  rw [hkl] at hyn
  subst hyn
  clear hkl
  go_enter Try.func33, Try.ntmps33
  go_wp2_with fail
  refine wp_region_held_drew (S := fun W' => W'.cell? ⟨nb, off, none⟩ = some (.int .i64 op) ∧ W'.cell? ⟨nb, off + 1, none⟩ = some (.int .i64 (kl : Int)) ∧ W'.cell? ⟨nb, off + 2, none⟩ = some (.int .i64 fr) ∧ W'.cell? ⟨nb, off + 3, none⟩ = some (.int .i64 to) ∧ W'.cell? ⟨nb, off + 4, none⟩ = some (.slice ta ts.length tc) ∧ W'.cell? ⟨nb, off + 5, none⟩ = some (.int .i64 num)) (by kernel_rfl) (HCE.out _ HBC.out) (fun hHeld => ?_)
  refine wpAnyH_take (i := 0) (oi := { dst := some 10, op := Op.move (Operand.tmp 1), type := 28, pos := "look.go:52", after := #[], guard := none }) (v := ?_) rfl (by kernel_rfl) (by kernel_rfl) (by kernel_rfl) (fun _ _ _ h => h) (Or.inl ⟨by rfl, ?_⟩) hHeld ?_
  rotate_left
  · (intro w hSw; (try dsimp only at hSw); go_simp; all_goals (try with_reducible rfl))
  try simp only [Act.put, List.setIfInBounds_toArray, List.set_cons_zero, List.set_cons_succ]
  refine wpAnyH_take (i := 1) (oi := { dst := some 11, op := Op.indexAddr 28 (Operand.tmp 10) (Operand.const (Value.int IntKind.i64 0)), type := 0, pos := "look.go:52", after := #[{ on := 0, ground := Ground.data }], guard := none }) (v := ?_) rfl (by kernel_rfl) (by kernel_rfl) (by kernel_rfl) (fun _ _ _ h => h) (Or.inl ⟨by rfl, ?_⟩) hHeld ?_
  rotate_left
  · (intro w hSw; (try dsimp only at hSw); go_simp; all_goals (try with_reducible rfl))
  try simp only [Act.put, List.setIfInBounds_toArray, List.set_cons_zero, List.set_cons_succ]
  refine wpAnyH_take (i := 2) (oi := { dst := some 12, op := Op.load 24 (Operand.tmp 11), type := 24, pos := "look.go:52", after := #[{ on := 1, ground := Ground.data }], guard := none }) (v := ?_) rfl (by kernel_rfl) (by kernel_rfl) (by kernel_rfl) (fun _ _ _ h => h) (Or.inl ⟨by rfl, ?_⟩) hHeld ?_
  rotate_left
  · (intro w hSw; (try dsimp only at hSw); go_simp; all_goals (try with_reducible rfl))
  try simp only [Act.put, List.setIfInBounds_toArray, List.set_cons_zero, List.set_cons_succ]
  refine wpAnyH_take (i := 3) (oi := { dst := some 13, op := Op.move (Operand.tmp 1), type := 28, pos := "look.go:52", after := #[], guard := none }) (v := ?_) rfl (by kernel_rfl) (by kernel_rfl) (by kernel_rfl) (fun _ _ _ h => h) (Or.inl ⟨by rfl, ?_⟩) hHeld ?_
  rotate_left
  · (intro w hSw; (try dsimp only at hSw); go_simp; all_goals (try with_reducible rfl))
  try simp only [Act.put, List.setIfInBounds_toArray, List.set_cons_zero, List.set_cons_succ]
  refine wpAnyH_take (i := 4) (oi := { dst := some 14, op := Op.slice 28 (Operand.tmp 13) (some (Operand.const (Value.int IntKind.i64 1))) none none, type := 28, pos := "look.go:52", after := #[{ on := 3, ground := Ground.data }], guard := none }) (v := ?_) rfl (by kernel_rfl) (by kernel_rfl) (by kernel_rfl) (fun _ _ _ h => h) (Or.inl ⟨by rfl, ?_⟩) hHeld ?_
  rotate_left
  · (intro w hSw; (try dsimp only at hSw); go_simp; all_goals (try with_reducible rfl))
  try simp only [Act.put, List.setIfInBounds_toArray, List.set_cons_zero, List.set_cons_succ]
  refine wpAnyH_ready (rs := [5]) (by kernel_rfl) (by simp) ?_
  refine AllReadyH.cons (o := { dst := some 6, op := Op.alloc 24, type := 0, pos := "look.go:52", after := #[], guard := none }) rfl (fun K hK => ?_) AllReadyH.nil
  go_simp
  have HBC : Hid (Below W.heap.size W (W.alloc (.cells #[.int .i64 0, .int .i64 0, .int .i64 0, .int .i64 0, .slice none 0 0, .int .i64 0] 24)).drew) := ((Below.refl _ _).alloc (Nat.le_refl _) _).drew
  refine hK.out _ _ (HCE.out _ HBC.out) (fun hHeld => ?_)
  clear hK K
  try simp only [Act.put, List.setIfInBounds_toArray, List.set_cons_zero, List.set_cons_succ]
  refine wpAnyH_ready (rs := [6]) (by kernel_rfl) (by simp) ?_
  refine AllReadyH.cons (o := { dst := none, op := Op.store 24 (Operand.tmp 6) (Operand.tmp 12), type := 0, pos := "look.go:52", after := #[{ on := 5, ground := Ground.data }, { on := 2, ground := Ground.data }, { on := 0, ground := Ground.phase }, { on := 1, ground := Ground.phase }, { on := 2, ground := Ground.phase }, { on := 3, ground := Ground.textOnly Departure.lateStores }, { on := 4, ground := Ground.textOnly Departure.lateStoresUnsure }, { on := 5, ground := Ground.phase }], guard := none }) rfl (fun K hK => ?_) AllReadyH.nil
  go_simp
  have HBC : Hid _ := HBY.out
  refine hK.out _ _ (HCE.out _ HBC.out) (fun hHeld => ?_)
  clear hK K
  try simp only [Act.put]
  refine wpAnyH_take (i := 7) (oi := { dst := some 7, op := Op.assign (Operand.tmp 14), type := 28, pos := "look.go:52", after := #[{ on := 4, ground := Ground.data }, { on := 6, ground := Ground.chain }, { on := 0, ground := Ground.phase }, { on := 1, ground := Ground.phase }, { on := 2, ground := Ground.phase }, { on := 3, ground := Ground.phase }, { on := 4, ground := Ground.phase }, { on := 5, ground := Ground.phase }, { on := 6, ground := Ground.phase }], guard := none }) (v := ?_) rfl (by kernel_rfl) (by kernel_rfl) (by kernel_rfl) (fun _ _ _ h => h) (Or.inl ⟨by rfl, ?_⟩) hHeld ?_
  rotate_left
  · (intro w hSw; (try dsimp only at hSw); go_simp; all_goals (try with_reducible rfl))
  try simp only [Act.put, List.setIfInBounds_toArray, List.set_cons_zero, List.set_cons_succ]
  refine wpAnyH_done (by kernel_rfl) ?_ _
  clear hHeld HCE HBC2 HBC
  have HBOX : Hid (∀ X, Mod [g] ((W.alloc (.cells #[.int .i64 op, .int .i64 kl, .int .i64 fr, .int .i64 to, .slice ta ts.length tc, .int .i64 num] 24)).drew) X → X.cell? ⟨W.heap.size, 0, none⟩ = some (.int .i64 op) ∧ X.cell? ⟨W.heap.size, 1, none⟩ = some (.int .i64 kl) ∧ X.cell? ⟨W.heap.size, 2, none⟩ = some (.int .i64 fr) ∧ X.cell? ⟨W.heap.size, 3, none⟩ = some (.int .i64 to) ∧ X.cell? ⟨W.heap.size, 4, none⟩ = some (.slice ta ts.length tc) ∧ X.cell? ⟨W.heap.size, 5, none⟩ = some (.int .i64 num)) := fun X hX => by
    refine ⟨hX.cell ?_ ?_, hX.cell ?_ ?_, hX.cell ?_ ?_, hX.cell ?_ ?_, hX.cell ?_ ?_, hX.cell ?_ ?_⟩ <;> first | (simp [go_sem]; done) | (simp; omega)
  have HLY : Hid (LookAt W0 ((W.alloc (.cells #[.int .i64 op, .int .i64 kl, .int .i64 fr, .int .i64 to, .slice ta ts.length tc, .int .i64 num] 24)).drew) g b names ra rc rows o) := HLB.out _ HBY.out
  have HGY : Hid (W.heap.size < ((W.alloc (.cells #[.int .i64 op, .int .i64 kl, .int .i64 fr, .int .i64 to, .slice ta ts.length tc, .int .i64 num] 24)).drew).heap.size) := by show _ < _; show W.heap.size < (W.alloc _).heap.size; simp
  clear HLB
  generalize (W.alloc (.cells #[.int .i64 op, .int .i64 kl, .int .i64 fr, .int .i64 to, .slice ta ts.length tc, .int .i64 num] 24)).drew = Y at *
  obtain ⟨c0, c1, c2, c3, c4, c5⟩ := HBOX.out _ (Mod.refl _ _)
  have HNG : Hid (NamesFit ts ∧ (∀ t ∈ ts, B64 t.times) ∧ B64 num ∧ ts.length ≤ 1073741824 ∧ ((op = 8 ∨ op = 9 ∨ op = 10) → 0 ≤ fr) ∧ (op = 2 → (kl : Int) = 0)) := ⟨hg1, hg2, hg3, hg4, hg5, hg6⟩
  have HTER : Hid (TermRow W0 ta ts) := hter
  have HROWS : Hid (∀ r ∈ rows, ∀ z ∈ r.zs, B64 z) := hrows
  have HMY : Hid (Mod [g] W Y) := Mod.of_below HBY.out
  clear hg1 hg2 hg3 hg4 hg5 hg6 hter hrows
  cases k with
  | nil =>
    obtain rfl : kl = 0 := HKL.out.symm
    obtain rfl : m = rest.length := by have := HM.out; simpa [Fo.flat] using this.symm
    have HLEAF : Hid (Calls Try.prog 45 #[.pointer (some ⟨g, 0, none⟩), .agg #[.int .i64 op, .int .i64 0, .int .i64 fr, .int .i64 to, .slice ta ts.length tc, .int .i64 num]] Y (LookTells W0 Y g b names ra rc rows (fun j => Q j ∨ (op = 2 ∧ atO names rows ⟨op, 0, fr, to, ts, num⟩ j = true)) (leafF names rows ⟨op, 0, fr, to, ts, num⟩))) :=
      leaf_any W0 g b names ra rc rows o Q ⟨op, 0, fr, to, ts, num⟩ ta tc Y HLY.out HQ.out HTER.out HNG.out.1 HNG.out.2.1 HNG.out.2.2.1 HROWS.out hn HNG.out.2.2.2.1 hrl
    clear HBOX
    go_wp2_with fail
    refine Calls.mono HLEAF.out ?_
    intro e W2 hh
    obtain ⟨r, rfl, hh2⟩ := hh.ret
    have HH : Hid _ := hh2
    clear hh hh2
    go_wp2
    go_ret2
    exact PartTells.of HH.out HMY.out HN2.out (fun j _ => by rw [exO_cons]; simp [Fo.flat, exO])
  | cons y1 k1 s1 =>
    obtain ⟨hy1, hg1, hk1, hs1⟩ := hkok
    obtain ⟨c, hc⟩ : ∃ c, s1.len = c := ⟨_, rfl⟩
    have HC : Hid (s1.len = c) := hc
    obtain rfl : kl = c + 1 := by rw [← hc]; exact HKL.out.symm
    have hcb : c ≤ 1099511627776 := by
      have h1 := HN2.out.few
      have h2 := Fo.len_le s1
      simp [Fo.flat] at h1
      omega
    have hfl : (Fo.cons y1 k1 s1).flat ++ rest = y1 :: (k1.flat ++ (s1.flat ++ rest)) := by simp [Fo.flat]
    have hm9 := HM.out
    rw [hfl] at hm9
    have HN2b : Hid (NdsAt W0 a2 (cap - 1) (y1 :: (k1.flat ++ (s1.flat ++ rest)))) := by rw [← hfl]; exact HN2.out
    have hks : k1.flat.length < N ∧ s1.flat.length < N := by
      have : (Fo.cons y1 k1 s1).flat.length = k1.flat.length + s1.flat.length + 1 := by simp [Fo.flat]
      omega
    have hp1 := HIH.out y1 k1 (s1.flat ++ rest) a2 (cap - 1) Y o Q hks.1 HN2b.out ⟨hy1, hg1, hk1, trivial⟩ HLY.out HQ.out
    rw [hm9] at hp1
    have HP1 : Hid _ := hp1
    have HS1 : Hid (s1.ok ∧ s1.flat.length < N) := ⟨hs1, hks.2⟩
    have HNO : Hid (op ≠ 2) := fun e => by have := HNG.out.2.2.2.2.2 e; omega
    have HEX : Hid (∀ z j, exO names rows (⟨⟨op, (c + 1 : Nat), fr, to, ts, num⟩, z, tc⟩ :: (Fo.cons y1 k1 s1).flat) j ↔ exO names rows (y1 :: k1.flat) j ∨ exO names rows s1.flat j) := fun z j => by
      rw [exO_cons, show (Fo.cons y1 k1 s1).flat = (y1 :: k1.flat) ++ s1.flat by simp [Fo.flat], exO_append]
      exact ⟨fun h => h.elim (fun h => absurd h.1 HNO.out) id, .inr⟩
    have hfin : ((c + 1 : Nat) : Int) ≠ 0 := by omega
    clear hp1 hy1 hg1 hk1 hs1 hfl hks HN2b HN2 HLY HQ HTER HM hc hm9
    go_wp2_with fail
    refine Calls.mono HP1.out ?_
    rintro e W2 ⟨r1, o1, a3, c3', rfl, hn3, hge1, hr1, hl1, ho1, hm1⟩
    have HN3 : Hid (NdsAt W0 a3 c3' (s1.flat ++ rest)) := hn3
    have HR1 : Hid (BoRow W2 (some ⟨r1, 0, none⟩) rows.length (combF names rows y1.x (k1.sem names rows))) := hr1
    have HL1 : Hid (LookAt W0 W2 g b names ra rc rows o1) := hl1
    have HO1 : Hid (OvIs rows.length (fun j => Q j ∨ exO names rows (y1 :: k1.flat) j) o1) := ho1
    have HM1 : Hid (Mod [g] Y W2) := hm1
    have HG1 : Hid (W.heap.size ≤ r1) := Nat.le_trans HBY.out.size hge1
    clear hn3 hge1 hr1 hl1 ho1 hm1 c0 c1 c2 c3 c4 c5
    obtain ⟨c0, c1, c2, c3, c4, c5⟩ := HBOX.out _ HM1.out
    by_cases hc0 : c = 0
    · subst hc0
      cases s1 with
      | cons y2 k2 s2 => exact absurd HC.out (by simp [Fo.len])
      | nil =>
        have HONE : Hid (Calls Try.prog 46 #[.pointer (some ⟨g, 0, none⟩), .agg #[.int .i64 op, .int .i64 1, .int .i64 fr, .int .i64 to, .slice ta ts.length tc, .int .i64 num], .slice (some ⟨r1, 0, none⟩) rows.length rows.length] W2 (BoTells W2 rows.length (oneF ⟨op, 1, fr, to, ts, num⟩ (combF names rows y1.x (k1.sem names rows))))) :=
          one_any W0 g b names ra rc rows o1 ⟨op, 1, fr, to, ts, num⟩ ta tc (some ⟨r1, 0, none⟩) rows.length _ W2 HL1.out HR1.out (fun h => HNG.out.2.2.2.2.1 (h.elim .inl fun h => .inr (.inl h))) hrl
        have HN3b : Hid (NdsAt W0 a3 c3' rest) := HN3.out
        have hlr : (Fo.nil.flat ++ rest).length = rest.length := rfl
        rw [hlr]
        clear hfin
        go_wp2_with fail
        refine Calls.mono HONE.out ?_
        intro e W3 hh
        obtain ⟨r3, rfl, hh2, hr3, hb3⟩ := hh.ret
        have HR3 : Hid _ := hr3
        have HB3 : Hid _ := hb3
        have HG3 : Hid (W2.heap.size ≤ r3) := by obtain ⟨_, e, h3, _⟩ := hh2; cases e; exact h3
        clear hh hh2 hr3 hb3
        go_wp2
        go_ret2
        exact LookTells.ofMod HL1.out HO1.out HR3.out HB3.out (Nat.le_trans (HMY.out.trans HM1.out).size HG3.out) (HMY.out.trans HM1.out) HN3b.out (fun j _ => by
          have := HEX.out ta j
          exact ⟨fun h => h.imp id fun h => this.2 (.inl h), fun h => h.imp id fun h => (this.1 h).elim id fun h => by obtain ⟨z, hz, _⟩ := h; cases hz⟩)
    · have hne1 : (((c : Int) + 1) == 1) = false := by simp; omega
      obtain ⟨m3, hm3⟩ : ∃ n, (s1.flat ++ rest).length = n := ⟨_, rfl⟩
      have HM3 : Hid (m3 = (s1.flat ++ rest).length) := hm3.symm
      rw [hm3]
      clear hm3
      go_wp2_with fail
      go_loopw [7, 8, 39] (fun rv pv i wr => ∃ (j n' : Nat) (s' : Fo) (pf : Nat → Bool) (r' : Nat) (a' : Option Addr) (c' o' : Nat) (Qw : Nat → Prop), i = .int .i64 j ∧ s'.len + j = c ∧ s'.ok ∧ s'.flat.length < N ∧ rv = .slice a' n' c' ∧ n' = (s'.flat ++ rest).length ∧ NdsAt W0 a' c' (s'.flat ++ rest) ∧ pv = .slice (some ⟨r', 0, none⟩) rows.length rows.length ∧ BoRow wr (some ⟨r', 0, none⟩) rows.length pf ∧ LookAt W0 wr g b names ra rc rows o' ∧ OvIs rows.length Qw o' ∧ (∀ j, (Qw j ∨ exO names rows s'.flat j) ↔ (Q j ∨ exO names rows (⟨⟨op, (c + 1 : Nat), fr, to, ts, num⟩, ta, tc⟩ :: (Fo.cons y1 k1 s1).flat) j)) ∧ (s'.sem names rows).foldl (twoF ⟨op, (c + 1 : Nat), fr, to, ts, num⟩) pf = (s1.sem names rows).foldl (twoF ⟨op, (c + 1 : Nat), fr, to, ts, num⟩) (combF names rows y1.x (k1.sem names rows)) ∧ Mod [g] Y wr ∧ W.heap.size ≤ r') (fun _ _ i _ => c - (intOf i).toNat)
      case atStart => exact ⟨0, m3, s1, _, r1, a3, c3', o1, _, rfl, HC.out, HS1.out.1, HS1.out.2, rfl, HM3.out, HN3.out, rfl, HR1.out, HL1.out, HO1.out, fun j => by rw [HEX.out, or_assoc], rfl, HM1.out, HG1.out⟩
      case round =>
        obtain ⟨j, n', s', pf, r', a', c', o', Qw, rfl, hlen, hsok, hsl, rfl, hn9, hna, rfl, hbr, hlk, hov, hqe, hfe, hmd, hgr⟩ := hrel
        have HLEN : Hid (s'.len + j = c) := hlen
        have HNA : Hid (NdsAt W0 a' c' (s'.flat ++ rest)) := hna
        have HBR : Hid (BoRow wr (some ⟨r', 0, none⟩) rows.length pf) := hbr
        have HLK : Hid (LookAt W0 wr g b names ra rc rows o') := hlk
        have HOV : Hid (OvIs rows.length Qw o') := hov
        have HQE : Hid _ := hqe
        have HFE : Hid _ := hfe
        have HMD : Hid (Mod [g] Y wr) := hmd
        have HGR : Hid (W.heap.size ≤ r') := hgr
        have hjc : j ≤ c := by omega
        clear hlen hna hbr hlk hov hqe hfe hmd hgr c0 c1 c2 c3 c4 c5
        obtain ⟨c0, c1, c2, c3, c4, c5⟩ := HBOX.out _ HMD.out
        cases s' with
        | nil =>
          have hjc2 : j = c := by have := HLEN.out; simp [Fo.len] at this; omega
          subst hjc2
          obtain rfl : n' = rest.length := hn9
          have HNAb : Hid (NdsAt W0 a' c' rest) := HNA.out
          have HFEb : Hid (combF names rows ⟨op, (j + 1 : Nat), fr, to, ts, num⟩ ((Fo.cons y1 k1 s1).sem names rows) = pf) := by
            show _ = _
            have := HFE.out
            cases s1 with
            | nil => exact absurd HC.out (by simp only [Fo.len]; omega)
            | cons y2 k2 s2 => exact this.symm
          clear hsok hsl
          go_wp2
          go_ret2
          refine ⟨r', o', a', c', rfl, HNAb.out, HGR.out, by rw [HFEb.out]; exact HBR.out, HLK.out, HOV.out.congr fun i _ => ?_, HMY.out.trans HMD.out⟩
          rw [← HQE.out i]
          exact ⟨.inl, fun h => h.elim id fun h => by obtain ⟨z, hz, _⟩ := h; cases hz⟩
        | cons y2 k2 s2 =>
          obtain ⟨hy1, hg1, hk1, hs1⟩ := hsok
          have hlt3 : (j : Int) < c := by have := HLEN.out; simp [Fo.len] at this; omega
          have hfl : (Fo.cons y2 k2 s2).flat ++ rest = y2 :: (k2.flat ++ (s2.flat ++ rest)) := by simp [Fo.flat]
          have hkl : k2.flat.length < N ∧ s2.flat.length < N := by
            have : (Fo.cons y2 k2 s2).flat.length = k2.flat.length + s2.flat.length + 1 := by simp [Fo.flat]
            omega
          have hp2 := HIH.out y2 k2 (s2.flat ++ rest) a' c' wr o' Qw hkl.1 (by rw [← hfl]; exact HNA.out) ⟨hy1, hg1, hk1, trivial⟩ HLK.out HOV.out
          rw [← hfl, ← hn9] at hp2
          have HP2 : Hid _ := hp2
          have HS2 : Hid (s2.ok ∧ s2.flat.length < N ∧ s2.len + (j + 1) = c) := ⟨hs1, hkl.2, by have := HLEN.out; simp [Fo.len] at this; omega⟩
          have HEX2 : Hid (∀ i, exO names rows (Fo.cons y2 k2 s2).flat i ↔ exO names rows (y2 :: k2.flat) i ∨ exO names rows s2.flat i) := fun i => by
            rw [show (Fo.cons y2 k2 s2).flat = (y2 :: k2.flat) ++ s2.flat by simp [Fo.flat], exO_append]
          have HSEM : Hid ((Fo.cons y2 k2 s2).sem names rows = combF names rows y2.x (k2.sem names rows) :: s2.sem names rows) := rfl
          clear hn9 hp2 hy1 hg1 hk1 hs1 hfl hkl hsl
          go_wp2_with fail
          refine Calls.mono HP2.out ?_
          rintro e W5 ⟨r5, o5, a5, c5', rfl, hn5, hge5, hr5, hl5, ho5, hm5⟩
          have HN5 : Hid (NdsAt W0 a5 c5' (s2.flat ++ rest)) := hn5
          have HR5 : Hid (BoRow W5 (some ⟨r5, 0, none⟩) rows.length (combF names rows y2.x (k2.sem names rows))) := hr5
          have HL5 : Hid (LookAt W0 W5 g b names ra rc rows o5) := hl5
          have HO5 : Hid (OvIs rows.length (fun i => Qw i ∨ exO names rows (y2 :: k2.flat) i) o5) := ho5
          have HM5 : Hid (Mod [g] Y W5) := HMD.out.trans hm5
          have HBR5 : Hid (BoRow W5 (some ⟨r', 0, none⟩) rows.length pf) := HBR.out.mod hm5 (by have := HGR.out; simp; omega)
          clear hn5 hge5 hr5 hl5 ho5 hm5 c0 c1 c2 c3 c4 c5
          obtain ⟨m5, hm5⟩ : ∃ n, (s2.flat ++ rest).length = n := ⟨_, rfl⟩
          have HMM5 : Hid (m5 = (s2.flat ++ rest).length) := hm5.symm
          rw [hm5]
          clear hm5
          obtain ⟨c0, c1, c2, c3, c4, c5⟩ := HBOX.out _ HM5.out
          have HTWO : Hid (Calls Try.prog 47 #[.agg #[.int .i64 op, .int .i64 (c + 1 : Nat), .int .i64 fr, .int .i64 to, .slice ta ts.length tc, .int .i64 num], .slice (some ⟨r', 0, none⟩) rows.length rows.length, .slice (some ⟨r5, 0, none⟩) rows.length rows.length] W5 (BoTells W5 rows.length (twoF ⟨op, (c + 1 : Nat), fr, to, ts, num⟩ pf (combF names rows y2.x (k2.sem names rows))))) :=
            two_tells rows.length ⟨op, (c + 1 : Nat), fr, to, ts, num⟩ ta tc (some ⟨r', 0, none⟩) (some ⟨r5, 0, none⟩) rows.length rows.length pf _ W5 HBR5.out HR5.out (fun h => HNG.out.2.2.2.2.1 (.inr (.inr h))) hrl
          go_wp2_with fail
          refine Calls.mono HTWO.out ?_
          intro e W6 hh
          obtain ⟨r6, rfl, hh2, hr6, hb6⟩ := hh.ret
          have HR6 : Hid _ := hr6
          have HL6 : Hid (LookAt W0 W6 g b names ra rc rows o5) := HL5.out.below hb6
          have HM6 : Hid (Mod [g] Y W6) := HM5.out.thenBelow hb6
          have HG6 : Hid (W.heap.size ≤ r6) := by
            obtain ⟨_, e, h3, _⟩ := hh2
            cases e
            exact Nat.le_trans (HMY.out.trans HM5.out).size h3
          clear hh hh2 hr6 hb6
          go_wp2
          go_roundw
          case rel =>
            refine ⟨j + 1, m5, s2, _, r6, a5, c5', o5, _, by go_num, HS2.out.2.2, HS2.out.1, HS2.out.2.1, rfl, HMM5.out, HN5.out, rfl, HR6.out, HL6.out, HO5.out, fun i => ?_, ?_, HM6.out, HG6.out⟩
            · have := HQE.out i
              rw [HEX2.out] at this
              rw [← this, or_assoc]
            · have := HFE.out
              rw [HSEM.out, List.foldl_cons] at this
              exact this
          case measure => simp [intOf]; omega
end Go.Proofs.Ytipbjoeekbgnbaa
