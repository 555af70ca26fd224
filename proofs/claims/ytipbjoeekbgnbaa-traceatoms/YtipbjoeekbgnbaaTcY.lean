/- The contract of trace's weigh. Conditions: at most 1000 names, at most 2^30 terms. -/
import Derived.Test.YtipbjoeekbgnbaaTcX
namespace Go.Proofs.Ytipbjoeekbgnbaa
open Go.RowKit Go.Maps Go.ChangeShapes
set_option linter.unusedVariables false
set_option maxRecDepth 100000

def wtC (p : Int × Int) : List Value := [.int .i64 p.1, .int .i64 p.2]
theorem wtC_len (p : Int × Int) : (wtC p).length = 2 := rfl
theorem wtC_one (p : Int × Int) : ∀ u ∈ wtC p, u.oneCell' = true := by intro u hu; simp [wtC] at hu; rcases hu with rfl | rfl <;> rfl
theorem infoWt : (Try.prog.info? 60).map (fun i => (i.zero, i.size, i.bytes)) = some (some (.agg #[.int .i64 0, .int .i64 0]), 2, 16) := by kernel_rfl
theorem own_wt {w : World} {B : Nat} {v : Value} {ws : List (Int × Int)} (h : Own wtC 60 2 w B v ws) : ∃ a cap, v = .slice a ws.length cap ∧ WtRow w a ws ∧ ∀ y, a = some y → B ≤ y.block := by
  obtain ⟨a, cap, e, _, ha, hk⟩ := h.sl wtC_len (0, 0)
  refine ⟨a, cap, e, fun i hi => ?_, fun y hy => by obtain ⟨g, rfl, hg, _⟩ := ha y hy; exact hg⟩
  obtain ⟨g, e2, _, _, hj⟩ := hk i hi
  refine ⟨g, 0, e2, ?_, ?_⟩
  · have := hj 0 (by omega); simpa [wtC] using this
  · have := hj 1 (by omega); simpa [wtC] using this
/-- A term as a weight, if its name is known. -/
def pickT (names : List ByteArray) (t : Tm) : Option (Int × Int) := if idxS names t.name < names.length then some ((idxS names t.name : Int), t.times) else none
def wtsTo (names : List ByteArray) (ts : List Tm) (k : Nat) : List (Int × Int) := (ts.take k).filterMap (pickT names)
theorem wtsTo_succ (names : List ByteArray) (ts : List Tm) (k : Nat) (hk : k < ts.length) : wtsTo names ts (k + 1) = wtsTo names ts k ++ (pickT names (ts.getD k tm0)).toList := by
  unfold wtsTo
  rw [List.take_add_one, List.filterMap_append]
  congr 1
  rw [show ts[k]? = some (ts.getD k tm0) by simp [List.getD_eq_getElem?_getD, hk]]
  generalize ts.getD k tm0 = p
  cases h : pickT names p <;> simp [h]
theorem wtsTo_len (names : List ByteArray) (ts : List Tm) (k : Nat) : (wtsTo names ts k).length ≤ k := by
  unfold wtsTo
  exact Nat.le_trans (List.length_filterMap_le _ _) (by simp; omega)
/-- An atom's box: its weights, its bound. -/
structure AtBox (w : World) (g : Nat) (v : Value) (num : Int) : Prop where
  c0 : w.cell? ⟨g, 0, none⟩ = some v
  c1 : w.cell? ⟨g, 1, none⟩ = some (.int .i64 num)
  f : ∀ i, w.frozen? ⟨g, i, none⟩ = false
theorem AtBox.mod {w w' : World} {g : Nat} {v : Value} {num : Int} (h : AtBox w g v num) {S : List Nat} (k : Mod S w w') (hg : g ∉ S) : AtBox w' g v num :=
  ⟨k.cell h.c0 hg, k.cell h.c1 hg, fun i => (k.frozen (World.block_lt_of_cell? w _ h.c0) hg).trans (h.f i)⟩
theorem AtBox.below {w w' : World} {g : Nat} {v : Value} {num : Int} (h : AtBox w g v num) (k : Below w.heap.size w w') : AtBox w' g v num := h.mod (S := []) (Mod.of_below k) (by simp)
theorem AtBox.store {w : World} {g : Nat} {v : Value} {num : Int} (h : AtBox w g v num) (u : Value) : AtBox (w.setCell ⟨g, 0, none⟩ u) g u num :=
  ⟨World.cell?_setCell_same _ _ _ h.c0, by rw [cellO _ _ _ _ _ _ (by omega)]; exact h.c1, fun i => by simp [h.f]⟩
theorem AtBox.oth {w : World} {g : Nat} {v : Value} {num : Int} (h : AtBox w g v num) (b i : Nat) (hb : g ≠ b) (u : Value) : AtBox (w.setCell ⟨b, i, none⟩ u) g v num :=
  ⟨by rw [cellB _ _ _ _ _ _ hb]; exact h.c0, by rw [cellB _ _ _ _ _ _ hb]; exact h.c1, fun i => by simp [h.f]⟩
/-- What weigh's walk has, k terms through. -/
structure WeighIs (W wr : World) (b : Nat) (names : List ByteArray) (ws : List (Int × Int)) (pa : Option Addr) (pc : Nat) (num : Int) : Prop where
  bel : Below W.heap.size W wr
  cols : ColsAt wr b names
  box : AtBox wr (W.heap.size + 1 + 1) (.slice pa ws.length pc) num
  res : AtBox wr (W.heap.size + 1) (.slice none 0 0) 0
  own : Own wtC 60 2 wr (W.heap.size + 1 + 1 + 1) (.slice pa ws.length pc) ws
theorem WeighIs.below {W wr wr' : World} {b : Nat} {names : List ByteArray} {ws : List (Int × Int)} {pa : Option Addr} {pc : Nat} {num : Int} (h : WeighIs W wr b names ws pa pc num) (k : Below wr.heap.size wr wr') : WeighIs W wr' b names ws pa pc num :=
  ⟨h.bel.trans (k.mono h.bel.size), h.cols.below k, h.box.below k, h.res.below k, h.own.below k⟩
/-- What an append and its store leave. -/
theorem WeighIs.push {W wr : World} {b : Nat} {names : List ByteArray} {ws : List (Int × Int)} {pa : Option Addr} {pc : Nat} {num : Int} (h : WeighIs W wr b names ws pa pc num) (hb : b < W.heap.size) (p : Int × Int) (hl : ws.length ≤ 1073741824) (g : Nat) (hg : ∀ j, j < 2 → wr.cell? ⟨g, j, none⟩ = (wtC p)[j]?) :
    ∃ va vc X6, (Builtin.append_ #[43, 43] 43 #[.slice pa ws.length pc, .slice (some ⟨g, 0, none⟩) 1 1]).run Try.prog wr = .ok (.slice va (ws ++ [p]).length vc) X6 ∧ AtBox X6 (W.heap.size + 1 + 1) (.slice pa ws.length pc) num ∧ WeighIs W (X6.setCell ⟨W.heap.size + 1 + 1, 0, none⟩ (.slice va (ws ++ [p]).length vc)) b names (ws ++ [p]) va vc num := by
  have hlt : W.heap.size + 1 + 1 < wr.heap.size := World.block_lt_of_cell? _ _ h.box.c0
  obtain ⟨v', X6, hr, ho, hgr, hat⟩ := Own.append wtC_len wtC_one Try.underlying43 infoWt rfl (by omega) wr (W.heap.size + 1 + 1 + 1) _ _ h.own p g hg (by unfold maxLen; omega) (by omega) (by omega)
  obtain ⟨va, vc, rfl, _⟩ := own_wt ho
  have hge : ∀ g ∈ (Value.slice pa ws.length pc).ownBlock.toList, W.heap.size + 1 + 1 + 1 ≤ g := fun g hh => (Own.lt h.own g (by simpa using hh)).1
  have hm := Mod.grown hgr
  have hno : ∀ i, i < W.heap.size + 1 + 1 + 1 → i ∉ (Value.slice pa ws.length pc).ownBlock.toList := fun i hi hh => by have := hge i hh; omega
  have hb6 := h.box.mod hm (hno _ (by omega))
  have hs : ∀ u, Mod [W.heap.size + 1 + 1] X6 (X6.setCell ⟨W.heap.size + 1 + 1, 0, none⟩ u) := fun u => (Mod.refl _ _).setCell _ _ _ (by simp)
  refine ⟨va, vc, X6, hr, hb6, ⟨?_, ?_, hb6.store _, ?_, ?_⟩⟩
  · exact (h.bel.trans (hm.belowOf h.bel.size fun g hh => by have := hge g hh; omega)).setCell (by simp; omega) _
  · exact (h.cols.kept hm (hno _ (by omega))).kept (hs _) (by simp; omega)
  · exact (h.res.mod hm (hno _ (by omega))).oth _ _ (by omega) _
  · refine ho.mod (hs _) (fun g' hg' => ?_)
    have := (Own.lt ho g' hg').1
    simp; omega
theorem frz_new (X : World) (cs : Array Value) (t : TypeId) (g i : Nat) (hg : g = X.heap.size) : (X.alloc (.cells cs t)).frozen? ⟨g, i, none⟩ = false := by
  subst hg; exact World.frozen?_alloc_at _ _ _ _ (by simp)
def atomV (v : Value) (num : Int) : Value := .agg #[v, .int .i64 num]
set_option maxHeartbeats 8000000 in
theorem weigh_any (b : Nat) (names : List ByteArray) (x : Nd) (ta : Option Addr) (tc : Nat) (W : World) (hc : ColsAt W b names) (h : TermRow W ta x.terms) (hf : NamesFit x.terms) (hn : names.length ≤ 1000) (hl : x.terms.length ≤ 1073741824) :
    Calls Try.prog 13 #[.map (some b), .agg #[.int .i64 x.op, .int .i64 x.n, .int .i64 x.fr, .int .i64 x.to, .slice ta x.terms.length tc, .int .i64 x.num]] W fun e W' => ∃ pa pc, e = .returned (.agg #[.slice pa (wtsTo names x.terms x.terms.length).length pc, .int .i64 x.num]) ∧ WtRow W' pa (wtsTo names x.terms x.terms.length) ∧ Below W.heap.size W W' ∧ ∀ y, pa = some y → W.heap.size ≤ y.block := by
  obtain ⟨op, n, fr, to, ts, num⟩ := x
  simp only at h hf hl ⊢
  have hblt := hc.lt
  have HT : Hid (∀ X, Below W.heap.size W X → TermRow X ta ts) := fun X hX => h.below hX
  have HNF : Hid (NamesFit ts) := hf
  obtain ⟨W0, hW0⟩ : ∃ X, ((W.alloc (.cells #[.int .i64 op, .int .i64 n, .int .i64 fr, .int .i64 to, .slice ta ts.length tc, .int .i64 num] 24)).alloc (.cells #[.slice none 0 0, .int .i64 0] 45)).alloc (.cells #[.slice none 0 0, .int .i64 num] 45) = X := ⟨_, rfl⟩
  have HI : Hid (WeighIs W W0 b names [] none 0 num) := by
    have hb : Below W.heap.size W W0 := by rw [← hW0]; exact (((Below.refl _ _).alloc (Nat.le_refl _) _).alloc (by simp) _).alloc (by simp; omega) _
    refine ⟨hb, hc.below hb, ?_, ?_, Own.nil _ _ _ _ _⟩
    · rw [← hW0]
      exact ⟨by simp [go_sem], by simp [go_sem], fun i => frz_new _ _ _ _ _ (by simp)⟩
    · rw [← hW0]
      refine ⟨by simp [go_sem], by simp [go_sem], fun i => ?_⟩
      rw [frozen_alloc_lt _ _ _ _ (by simp)]
      exact frz_new _ _ _ _ _ (by simp)
  have HW0 : Hid (((W.alloc (.cells #[.int .i64 op, .int .i64 n, .int .i64 fr, .int .i64 to, .slice ta ts.length tc, .int .i64 num] 24)).alloc (.cells #[.slice none 0 0, .int .i64 0] 45)).alloc (.cells #[.slice none 0 0, .int .i64 num] 45) = W0) := hW0
  clear h hf hc hW0
  go_enter Try.func13, Try.ntmps13
  go_wp2
  rw [HW0.out]
  go_loopw [16] (fun i wr => ∃ (k : Nat) (pa : Option Addr) (pc : Nat), k ≤ ts.length ∧ i = .int .i64 k ∧ WeighIs W wr b names (wtsTo names ts k) pa pc num) (fun i _ => ts.length - (intOf i).toNat)
  case atStart => exact ⟨0, none, 0, Nat.zero_le _, rfl, HI.out⟩
  case round =>
    obtain ⟨k, pa, pc, hk, rfl, hi⟩ := hrel
    have HK : Hid (WeighIs W wr b names (wtsTo names ts k) pa pc num) := hi
    have hlt2 : W.heap.size + 1 + 1 < wr.heap.size := World.block_lt_of_cell? _ _ hi.box.c0
    clear hi
    by_cases hlt : k < ts.length
    · obtain ⟨tb, off, rfl, c0, c1⟩ := HT.out _ HK.out.bel k hlt
      have HS : Hid (wtsTo names ts (k + 1) = wtsTo names ts k ++ (pickT names (ts.getD k tm0)).toList) := wtsTo_succ names ts k hlt
      have hnf := HNF.out.get k hlt
      have HPL : Hid ((wtsTo names ts k).length ≤ k) := wtsTo_len names ts k
      generalize ts.getD k tm0 = t at *
      obtain ⟨nm, tm⟩ := t
      simp only at c0 c1 hnf
      have hkey := Go.WideMaps.keyOf_string_mk (P := Try.prog) Try.underlying9 (s := nm) (by unfold maxLen; omega)
      have HX : Hid (WeighIs W (wr.alloc (.cells #[.string nm, .int .i64 tm] 36)) b names (wtsTo names ts k) pa pc num) := HK.out.below ((Below.refl _ _).alloc (Nat.le_refl _) _)
      obtain ⟨mn, D, hown, hmn, hcol⟩ := HX.out.cols
      by_cases hin : idxS names nm < names.length
      · have hhas : Maps.has D (.string nm.data.toList) = true := by rw [hcol.has]; simpa using hin
        have HSP : Hid (D.atKey (.string nm.data.toList) (.lit (.int .i64 0)) = .lit (.int .i64 (idxS names nm))) := hcol.spot nm hin
        have HN : Hid (wtsTo names ts (k + 1) = wtsTo names ts k ++ [((idxS names nm : Int), tm)]) := by
          show _ = _
          rw [HS.out]; unfold pickT; rw [if_pos hin]; rfl
        have HAPP : Hid (∀ c : Int, ∃ va vc X6, (Builtin.append_ #[43, 43] 43 #[.slice pa (wtsTo names ts k).length pc, .slice (some ⟨wr.heap.size + 1, 0, none⟩) 1 1]).run Try.prog ((wr.alloc (.cells #[.string nm, .int .i64 tm] 36)).alloc (.cells #[.int .i64 c, .int .i64 tm] 60)) = .ok (.slice va (wtsTo names ts k ++ [(c, tm)]).length vc) X6 ∧ AtBox X6 (W.heap.size + 1 + 1) (.slice pa (wtsTo names ts k).length pc) num ∧ WeighIs W (X6.setCell ⟨W.heap.size + 1 + 1, 0, none⟩ (.slice va (wtsTo names ts k ++ [(c, tm)]).length vc)) b names (wtsTo names ts k ++ [(c, tm)]) va vc num) := fun c =>
          (HX.out.below ((Below.refl _ _).alloc (Nat.le_refl _) _)).push hblt (c, tm) (by have := HPL.out; omega) (wr.heap.size + 1) (fun j hj => by
            have : j = 0 ∨ j = 1 := by omega
            rcases this with rfl | rfl <;> simp [go_sem, wtC])
        have b0 := HK.out.box.c0
        clear hin hcol
        go_wp2_with (first
          | (at_lookup; refine wpList_lookup_own_ok_int _ rfl _ _ _ rfl 9 3 .i64 lawS Try.underlying47 Try.underlying3 (zeroInt _) b mn D rfl hown _ _ rfl hkey ?_; rw [hhas]; intro c hat hwc; have HAT : Hid _ := hat; clear hat hwc)
          | (at_builtin; obtain ⟨va, vc, X6, hr, hb6, hpush⟩ := HAPP.out c; refine append_runO (by rfl) _ _ (by rfl) (by rfl) _ _ _ _ (by rfl) (by rfl) hr ?_; have f6 := hb6.f; have d6 := hb6.c0; have HPU : Hid _ := hpush; clear hpush hr hb6))
        have HCI : Hid (c = (idxS names nm : Int)) := by
          have := HAT.out
          rw [HSP.out] at this
          cases this; rfl
        go_roundw
        case rel => exact ⟨k + 1, va, vc, by omega, by go_num, by have := HPU.out; rw [List.length_append, List.length_singleton] at this; rw [HN.out, ← HCI.out]; exact this⟩
        case measure => simp [intOf]; omega
      · have hhas : Maps.has D (.string nm.data.toList) = false := by rw [hcol.has]; simpa using hin
        have HN : Hid (wtsTo names ts (k + 1) = wtsTo names ts k) := by
          show _ = _
          rw [HS.out]; unfold pickT; rw [if_neg hin]; simp
        clear hin
        go_wp2_with (at_lookup; refine wpList_lookup_own_ok_int _ rfl _ _ _ rfl 9 3 .i64 lawS Try.underlying47 Try.underlying3 (zeroInt _) b mn D rfl hown _ _ rfl hkey ?_; rw [hhas]; intro c hat hwc; clear hat hwc)
        go_roundw
        case rel => exact ⟨k + 1, pa, pc, by omega, by go_num, by rw [HN.out]; exact HX.out⟩
        case measure => simp [intOf]; omega
    · have hkk : k = ts.length := by omega
      subst hkk
      have c0 := HK.out.box.c0
      have c1 := HK.out.box.c1
      obtain ⟨r0, r1, rf⟩ := HK.out.res
      have hne : W.heap.size + 1 ≠ W.heap.size + 1 + 1 := by omega
      obtain ⟨pa', pc', e, hrow, hpa⟩ := own_wt HK.out.own
      cases e
      have HPA : Hid (∀ y, pa = some y → W.heap.size ≤ y.block) := fun y hy => by have := hpa y hy; omega
      clear hpa
      have HROW : Hid (WtRow wr pa (wtsTo names ts ts.length)) := hrow
      clear hrow
      go_wp2
      have s0 : ∀ x, (wr.setCell ⟨W.heap.size + 1, 0, none⟩ x).cell? ⟨W.heap.size + 1, 0, none⟩ = some x := fun x => World.cell?_setCell_same _ _ _ r0
      have s1 : ∀ x y, ((wr.setCell ⟨W.heap.size + 1, 0, none⟩ x).setCell ⟨W.heap.size + 1, 1, none⟩ y).cell? ⟨W.heap.size + 1, 1, none⟩ = some y := fun x y => World.cell?_setCell_same _ _ _ (by rw [cellO _ _ _ _ _ _ (by omega)]; exact r1)
      refine bodyPost_ret (v := .agg #[.slice pa (wtsTo names ts ts.length).length pc, .int .i64 num]) (by simp [results, Try.results13, go_sem, s0, s1]) rfl ⟨pa, pc, rfl, ?_, ?_, HPA.out⟩
      · have q := HK.out.own.mod (S := [W.heap.size + 1]) (((Mod.refl _ _).setCell (W.heap.size + 1) 0 (.slice pa (wtsTo names ts ts.length).length pc) (by simp)).setCell (W.heap.size + 1) 1 (.int .i64 num) (by simp)) (fun g hg => by
          have := (Own.lt HK.out.own g hg).1
          simp; omega)
        obtain ⟨pa', pc', e, hrow, _⟩ := own_wt q
        cases e
        exact hrow
      · exact (HK.out.bel.setCell (by simp) _).setCell (by simp) _
end Go.Proofs.Ytipbjoeekbgnbaa
