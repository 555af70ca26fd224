/- Wire's read, where all is well. Conditions: a list's own length. -/
import Derived.Test.YtglkoedmonenoaaWrF
namespace Go.Proofs.Ytglkoedmonenoaa
open Go.RowKit
set_option linter.unusedVariables false
set_option maxRecDepth 100000

/-- A frame's numbers, as far as they are written. -/
structure ReadInv (w W : World) (x g c i : Nat) (k1 k2 t : Int) (s : Value) (zs : List Int) : Prop where
  fr : FrAt W x k1 k2 t (.slice (some ⟨g, 0, none⟩) c c) s
  res : FrAt W w.heap.size 0 0 0 (.slice none 0 0) (.string ⟨#[]⟩)
  row : ZeroRow W g c
  done : ∀ j, j < i → W.cell? ⟨g, j, none⟩ = some (.int .i64 (zs.getD j 0))
  bel : Below w.heap.size w W
  hx : w.heap.size < x
  hg : w.heap.size < g
  hxg : x ≠ g
theorem ReadInv.step {w W X : World} {x g c i : Nat} {k1 k2 t : Int} {s : Value} {zs : List Int} (h : ReadInv w W x g c i k1 k2 t s zs) (hb : Below W.heap.size W X) (hi : i < c) :
    ReadInv w (X.setCell ⟨g, i, none⟩ (.int .i64 (zs.getD i 0))) x g c (i + 1) k1 k2 t s zs := by
  have m : Mod [g] X (X.setCell ⟨g, i, none⟩ (.int .i64 (zs.getD i 0))) := (Mod.refl _ _).setCell _ _ _ (by simp)
  have hg := h.hg
  have hx := h.hx
  have r := h.row.below hb
  refine ⟨(h.fr.below hb).mod m (by simp; exact h.hxg), (h.res.below hb).mod m (by simp; omega), ⟨fun j hj => ?_, fun i => by simp [r.f], by simpa using r.lt⟩, fun j hj => ?_, m.below (h.bel.trans (hb.mono h.bel.size)) (by simp; omega), h.hx, h.hg, h.hxg⟩
  · obtain ⟨z, hz⟩ := r.cell j hj
    by_cases e : j = i
    · subst e; exact ⟨_, World.cell?_setCell_same _ _ _ hz⟩
    · exact ⟨z, (cell_oo _ _ _ _ _ _ e).trans hz⟩
  · by_cases e : j = i
    · subst e
      obtain ⟨z, hz⟩ := r.cell j hi
      exact World.cell?_setCell_same _ _ _ hz
    · rw [cell_oo _ _ _ _ _ _ e]
      exact (Mod.of_below (S := []) hb).cell (h.done j (by omega)) (by simp)

set_option maxHeartbeats 4000000 in
theorem read_ok {w : World} {a : Option Addr} {cap : Nat} {l : List UInt8} (h : BS w a cap l) (n : Nat) (hn : n = l.length) (hl : l.length ≤ maxLen) (h0 : lensE l = 0) (h1 : sumE l (sumAt l) = 0) :
    Calls Try.prog 18 #[.slice a n cap] w fun e w' => ∃ v, e = .returned v ∧ GotIs w w' l v ∧ Below w.heap.size w w' := by
  have HE : Hid (readE l = 0) := by unfold readE; rw [if_pos h0, h1]; rfl
  obtain ⟨hc, hd, hx, h12⟩ := lens_ok h0
  have hsum : sumAt l = 10 + cntL l * 8 + 2 + longL l := rfl
  have hlen : sumAt l + 5 ≤ l.length := by
    unfold sumE at h1
    split at h1; · omega
    split at h1
    · split at h1
      · omega
      · omega
    · omega
  have HL : Hid (∀ X, Below w.heap.size w X → Calls Try.prog 22 #[.slice a n cap] X fun e w' => e = .returned (.tuple #[.int .i64 (cntL l), .int .i64 (longL l), .int .i64 0]) ∧ Below X.heap.size X w') := fun X hX => by
    have := lengths_any (h.below hX (Nat.le_refl _)) n hn hl
    unfold lensC lensD at this
    rw [h0, if_pos rfl, if_pos rfl] at this; exact this
  have HS : Hid (∀ X, Below w.heap.size w X → Calls Try.prog 23 #[.slice a n cap, .int .i64 (10 + (cntL l : Int) * 8 + 2 + (longL l : Int))] X fun e w' => e = .returned (.int .i64 0) ∧ Below X.heap.size X w') := fun X hX => by
    have := checkSum_any (h.below hX (Nat.le_refl _)) (sumAt l) n hn (by omega) hl
    rw [show ((sumAt l : Nat) : Int) = 10 + (cntL l : Int) * 8 + 2 + (longL l : Int) by omega, h1] at this
    exact this
  have HT : Hid (∀ X, Below w.heap.size w X → Calls Try.prog 24 #[.slice a n cap, .int .i64 3, .int .i64 6] X fun e w' => e = .returned (.int .i64 (getV (sub l 3 6))) ∧ Below X.heap.size X w') := fun X hX =>
    number_any (h.below hX (Nat.le_refl _)) 3 6 n hn (by omega) (by omega) (by omega)
  have HZ : Hid (∀ i X, i < cntL l → Below w.heap.size w X → Calls Try.prog 24 #[.slice a n cap, .int .i64 (10 + (i : Int) * 8), .int .i64 8] X fun e w' => e = .returned (.int .i64 ((readF l).zs.getD i 0)) ∧ Below X.heap.size X w') := fun i X hi hX => by
    have := number_any (h.below hX (Nat.le_refl _)) (10 + i * 8) 8 n hn (by omega) (by omega) (by omega)
    rw [show ((10 + i * 8 : Nat) : Int) = 10 + (i : Int) * 8 by omega] at this
    have e : (readF l).zs.getD i 0 = getV (sub l (10 + i * 8) 8) := by simp [readF, List.getD_eq_getElem?_getD, hi]
    rw [e]; exact this
  obtain ⟨a2, hsl0, h2⟩ := h.sub (10 + cntL l * 8 + 2) (10 + cntL l * 8 + 2 + longL l) (by omega) (by omega)
  have hsl : ∀ X, (Instr.slice 35 (.slice a n cap) (some (.int .i64 (10 + (cntL l : Int) * 8 + 2))) (some (.int .i64 (10 + (cntL l : Int) * 8 + 2 + (longL l : Int)))) none).run Try.prog X = .ok (.slice a2 (longL l) (cap - (10 + cntL l * 8 + 2))) X := fun X => by
    have := hsl0 X n
    rw [show 10 + cntL l * 8 + 2 + longL l - (10 + cntL l * 8 + 2) = longL l by omega, show ((10 + cntL l * 8 + 2 : Nat) : Int) = 10 + (cntL l : Int) * 8 + 2 by omega, show ((10 + cntL l * 8 + 2 + longL l : Nat) : Int) = 10 + (cntL l : Int) * 8 + 2 + (longL l : Int) by omega] at this
    exact this
  have HSL : Hid (∀ X, (Instr.slice 35 (.slice a n cap) (some (.int .i64 (10 + (cntL l : Int) * 8 + 2))) (some (.int .i64 (10 + (cntL l : Int) * 8 + 2 + (longL l : Int)))) none).run Try.prog X = .ok (.slice a2 (longL l) (cap - (10 + cntL l * 8 + 2))) X) := hsl
  have HCV : Hid (∀ X, Below w.heap.size w X → (convert 35 9 (.slice a2 (longL l) (cap - (10 + cntL l * 8 + 2)))).run Try.prog X = .ok (.string ⟨(readF l).d.toArray⟩) X) := fun X hX => by
    rw [show 10 + cntL l * 8 + 2 + longL l - (10 + cntL l * 8 + 2) = longL l by omega] at h2
    exact (h2.below hX (Nat.le_refl _)).back (longL l) (sub_len _ _ _ (by omega)).symm
  obtain ⟨b', off, rfl, hcell⟩ := h.at (by omega)
  have HC1 : Hid (∀ X, Below w.heap.size w X → X.cell? ⟨b', off + 1, none⟩ = some (.int .u8 (l.getD 1 0).toNat)) := fun X hX => (Mod.of_below (S := []) hX).cell (hcell 1 (by omega)) (by simp)
  have HC2 : Hid (∀ X, Below w.heap.size w X → X.cell? ⟨b', off + 2, none⟩ = some (.int .u8 (l.getD 2 0).toNat)) := fun X hX => (Mod.of_below (S := []) hX).cell (hcell 2 (by omega)) (by simp)
  have hk1 := (l.getD 1 0).toNat_lt
  have hk2 := (l.getD 2 0).toNat_lt
  have HR : Hid (readF l = ⟨((l.getD 1 0).toNat : Int), ((l.getD 2 0).toNat : Int), getV (sub l 3 6), (readF l).zs, (readF l).d⟩) := rfl
  have HN : Hid (readN l = 10 + cntL l * 8 + 2 + longL l + 5) := rfl
  have HZL : Hid ((readF l).zs.length = cntL l) := by unfold readF; simp [Hid]
  have hn12 : 12 ≤ n := by omega
  have HP : Hid (12 ≤ l.length) := h12
  clear h hn hl h0 h1 hx hcell hsl0 h2 hsum hlen h12 hsl
  generalize (readF l).zs = zs at *
  generalize (readF l).d = dd at *
  generalize (l.getD 1 0).toNat = k1 at *
  generalize (l.getD 2 0).toNat = k2 at *
  generalize getV (sub l 3 6) = t at *
  generalize cntL l = C at *
  generalize longL l = D at *
  go_enter Try.func18, Try.ntmps18
  go_wp2_with fail
  obtain ⟨W1, hW1⟩ : ∃ Z, w.alloc (.cells #[.int .i64 0, .int .i64 0, .int .i64 0, .slice none 0 0, .string ⟨#[]⟩] 26) = Z := ⟨_, rfl⟩
  rw [hW1]
  have hB : Below w.heap.size w W1 := by rw [← hW1]; exact (Below.refl _ w).alloc (Nat.le_refl _) _
  have hF : FrAt W1 w.heap.size 0 0 0 (.slice none 0 0) (.string ⟨#[]⟩) := by rw [← hW1]; exact frAt_new _ _ _ _ _ _
  clear hW1
  refine Calls.mono (HL.out _ hB) ?_
  rintro e W2 ⟨rfl, hb⟩
  have HB2 : Hid (Below w.heap.size w W2) := hB.trans (hb.mono hB.size)
  have HF2 : Hid (FrAt W2 w.heap.size 0 0 0 (.slice none 0 0) (.string ⟨#[]⟩)) := hF.below hb
  clear hB hb hF HL
  go_wp2_with fail
  refine Calls.mono (HS.out _ HB2.out) ?_
  rintro e W3 ⟨rfl, hb⟩
  have HB : Hid (Below w.heap.size w W3) := HB2.out.trans (hb.mono HB2.out.size)
  have HF : Hid (FrAt W3 w.heap.size 0 0 0 (.slice none 0 0) (.string ⟨#[]⟩)) := HF2.out.below hb
  clear hb HS HB2 HF2
  go_wp2_with fail
  refine read_build W3 b' off n cap C D (cap - (10 + C * 8 + 2)) k1 k2 (10 + (C : Int) * 8 + 2) (10 + (C : Int) * 8 + 2 + (D : Int)) t a2 ⟨dd.toArray⟩ _ _ _ _ _ _ _ _ _ _ _ _ _ _ _ _ _ _ _ _ _ _ _ _ _ _ _ _ _ _ _ _ _ _ _ _ _ _ _ _ _ _ _ _ _ _ _ _ _ _ _ _ _ _ _ _ _ _ _ _ _ _ _ _ _ _ _ _ _ _ _ _ (HC1.out _ HB.out) (HC2.out _ HB.out) hk1 hk2 (by omega) (by omega) HSL.out (fun X hX => HCV.out X (HB.out.trans (hX.mono HB.out.size))) (fun X hX => HT.out X (HB.out.trans (hX.mono HB.out.size))) (fun c a dd vv w h => by cases dd <;> exact h) ?_
  intro X4 x g hb hx hg hx3 hg3 hxg
  have HI : Hid (ReadInv w X4 x g C 0 k1 k2 t (.string ⟨dd.toArray⟩) zs) := by
    have l := HF.out.lt
    exact ⟨hx, HF.out.below hb, hg, fun j hj => by omega, HB.out.trans (hb.mono HB.out.size), by omega, by omega, hxg⟩
  have u3 := hx.c3
  clear hb hx hg hx3 hg3 hxg HB HF HC1 HC2 HSL HCV HT
  go_wp2
  go_loopw [59] (fun iv wr => ∃ i : Nat, i ≤ C ∧ iv = .int .i64 i ∧ ReadInv w wr x g C i k1 k2 t (.string ⟨dd.toArray⟩) zs) (fun iv _ => C - (intOf iv).toNat)
  case atStart => exact ⟨0, Nat.zero_le _, rfl, HI.out⟩
  case round =>
    clear HI u3
    obtain ⟨i, hi, rfl, hI⟩ := hrel
    have HI : Hid (ReadInv w wr x g C i k1 k2 t (.string ⟨dd.toArray⟩) zs) := hI
    clear hI
    by_cases hlt : i < C
    · go_wp2_with fail
      refine read_round wr b' off n cap C x g i (zs.getD i 0) _ _ _ _ _ _ _ _ _ _ _ _ _ _ _ _ _ _ _ _ _ _ _ _ _ _ _ _ _ _ _ _ _ _ _ _ _ _ _ _ _ _ _ _ _ _ _ _ _ _ _ _ _ _ _ _ _ _ _ _ _ _ _ _ _ _ _ _ _ _ _ _ _ HI.out.fr.c3 HI.out.row hlt (by omega) HI.out.hxg (fun X hX => HZ.out i X hlt (HI.out.bel.trans (hX.mono HI.out.bel.size))) (fun c a dd vv w h => by cases dd <;> exact h) ?_
      intro X hb
      have HJ : Hid (ReadInv w (X.setCell ⟨g, i, none⟩ (.int .i64 (zs.getD i 0))) x g C (i + 1) k1 k2 t (.string ⟨dd.toArray⟩) zs) := HI.out.step hb hlt
      clear hb HI
      go_wp2
      go_roundw
      case rel => exact ⟨i + 1, by omega, by go_num, HJ.out⟩
      case measure => simp [intOf]; omega
    · have hI := HI.out
      have u0 := hI.res.c0
      have u1 := hI.res.c1
      have u2 := hI.res.c2
      have u3 := hI.res.c3
      have u4 := hI.res.c4
      have uf := hI.res.f
      have x0 := hI.fr.c0
      have x1 := hI.fr.c1
      have x2 := hI.fr.c2
      have x3 := hI.fr.c3
      have x4 := hI.fr.c4
      clear hI
      go_wp2
      have hs := HI.out.res.stored k1 k2 t (.slice (some ⟨g, 0, none⟩) C C) (.string ⟨dd.toArray⟩)
      have hm := frSet_mod wr w.heap.size k1 k2 t (.slice (some ⟨g, 0, none⟩) C C) (.string ⟨dd.toArray⟩)
      have hg := HI.out.hg
      have hrow := HI.out.row.mod hm (by simp; omega)
      have hbel := frSet_below (k := k1) (fr := k2) (t := t) (v := .slice (some ⟨g, 0, none⟩) C C) (s := .string ⟨dd.toArray⟩) HI.out.bel (Nat.le_refl _)
      have hin : IntRow (frSet wr w.heap.size k1 k2 t (.slice (some ⟨g, 0, none⟩) C C) (.string ⟨dd.toArray⟩)) (some ⟨g, 0, none⟩) zs := fun j hj => ⟨g, 0, rfl, by
        rw [Nat.zero_add]; exact hm.cell (HI.out.done j (by have := HZL.out; omega)) (by simp; omega)⟩
      unfold frSet at hs hrow hbel hin
      have r0 := hs.c0
      have r1 := hs.c1
      have r2 := hs.c2
      have r3 := hs.c3
      have r4 := hs.c4
      refine bodyPost_ret (v := .tuple #[frOf ⟨k1, k2, t, zs, dd⟩ (.slice (some ⟨g, 0, none⟩) C C), .int .i64 (10 + (C : Int) * 8 + 2 + (D : Int) + 5), .int .i64 0]) (by simp [results, Try.results18, go_sem, r0, r1, r2, r3, r4]) rfl ⟨_, rfl, Or.inr ⟨HE.out, g, ?_, ?_, ?_, by omega⟩, hbel⟩
      · rw [HR.out, HN.out]; simp only [HZL.out]; congr 4
      · rw [HR.out]; exact hin
      · rw [HR.out]; simp only [HZL.out]; exact hrow
theorem read_any {w : World} {a : Option Addr} {cap : Nat} {l : List UInt8} (h : BS w a cap l) (n : Nat) (hn : n = l.length) (hl : l.length ≤ maxLen) :
    Calls Try.prog 18 #[.slice a n cap] w fun e w' => ∃ v, e = .returned v ∧ GotIs w w' l v ∧ Below w.heap.size w w' := by
  by_cases h0 : lensE l = 0
  · by_cases h1 : sumE l (sumAt l) = 0
    · exact read_ok h n hn hl h0 h1
    · exact read_sum h n hn hl h0 h1
  · exact read_lens h n hn hl h0
end Go.Proofs.Ytglkoedmonenoaa
