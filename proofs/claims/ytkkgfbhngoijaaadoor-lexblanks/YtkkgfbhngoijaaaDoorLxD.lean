/- The contracts of lex's measure and value, and of its reader: pass, take, skip. -/
import Derived.Test.YtkkgfbhngoijaaaDoorLxC
namespace Go.Proofs.YtkkgfbhngoijaaaDoor
open Go.RowKit
set_option linter.unusedVariables false
set_option maxRecDepth 100000

def measureL (l : List UInt8) : Nat × Nat := if 0 < nameL l then (1, nameL l) else if 0 < numberL l then (2, numberL l) else (3, signL l)
theorem measureL_le (l : List UInt8) : (measureL l).2 ≤ l.length := by
  unfold measureL; split
  · exact nameL_le l
  · split
    · exact numberL_le l
    · exact signFrom_le _ _
theorem measureL_kind (l : List UInt8) : (measureL l).1 = 1 ∨ (measureL l).1 = 2 ∨ (measureL l).1 = 3 := by
  unfold measureL; split
  · exact .inl rfl
  · split
    · exact .inr (.inl rfl)
    · exact .inr (.inr rfl)
set_option maxHeartbeats 400000 in
theorem measure_any (l : List UInt8) (w : World) (hs : l.length ≤ 1000000) (h : SignsAre w) :
    Calls Tryd.prog 14 #[.string (strL l)] w fun e w' => e = .returned (.tuple #[.int .i64 ((measureL l).1 : Nat), .int .i64 ((measureL l).2 : Nat)]) ∧ w' = w := by
  have h1 := nameSize_any l w hs
  have h2 := numberSize_any l w hs
  have h3 := signSize_any l w hs h
  have HM : Hid (measureL l = if 0 < nameL l then (1, nameL l) else if 0 < numberL l then (2, numberL l) else (3, signL l)) := rfl
  clear h
  generalize strL l = s at *
  generalize nameL l = n1 at *
  generalize numberL l = n2 at *
  generalize signL l = n3 at *
  by_cases c1 : 0 < n1
  · have HR : Hid (measureL l = (1, n1)) := by show _ = _; rw [HM.out, if_pos c1]
    clear HM
    go_enter Tryd.func14, Tryd.ntmps14
    go_wp2_with fail
    refine Calls.mono h1 ?_
    rintro e w1 ⟨rfl, rfl⟩
    go_wp2
    go_ret2
    exact ⟨by rw [HR.out]; rfl, rfl⟩
  · have z1 : n1 = 0 := by omega
    subst z1
    by_cases c2 : 0 < n2
    · have HR : Hid (measureL l = (2, n2)) := by show _ = _; rw [HM.out, if_neg c1, if_pos c2]
      clear HM c1
      go_enter Tryd.func14, Tryd.ntmps14
      go_wp2_with fail
      refine Calls.mono h1 ?_
      rintro e w1 ⟨rfl, rfl⟩
      go_wp2_with fail
      refine Calls.mono h2 ?_
      rintro e w1 ⟨rfl, rfl⟩
      go_wp2
      go_ret2
      exact ⟨by rw [HR.out]; rfl, rfl⟩
    · have HR : Hid (measureL l = (3, n3)) := by show _ = _; rw [HM.out, if_neg c1, if_neg c2]
      clear HM c1
      have z2 : n2 = 0 := by omega
      subst z2
      clear c2
      go_enter Tryd.func14, Tryd.ntmps14
      go_wp2_with fail
      refine Calls.mono h1 ?_
      rintro e w1 ⟨rfl, rfl⟩
      go_wp2_with fail
      refine Calls.mono h2 ?_
      rintro e w1 ⟨rfl, rfl⟩
      go_wp2_with fail
      refine Calls.mono h3 ?_
      rintro e w1 ⟨rfl, rfl⟩
      go_wp2
      go_ret2
      exact ⟨by rw [HR.out]; rfl, rfl⟩

def valueL (kind : Nat) (t : List UInt8) : Int × Int :=
  if t = [] then (0, 30) else if kind = 2 then parseL t else if kind = 1 ∧ 24 < t.length then (0, 2) else (0, 0)
theorem strL_ne {t : List UInt8} (h : t ≠ []) : ¬ (strL t).toList = [] ∧ (strL t).toList.isEmpty = false := by
  rw [bytes_toList, strL_toList]
  refine ⟨h, ?_⟩
  cases t with
  | nil => exact absurd rfl h
  | cons c t => rfl
set_option maxHeartbeats 400000 in
theorem value_any (kind : Nat) (t : List UInt8) (w : World) (hk : kind = 1 ∨ kind = 2 ∨ kind = 3) (hs : t.length ≤ 1000000) (hm : MaxLenIs w) :
    Calls Tryd.prog 15 #[.int .i64 (kind : Int), .string (strL t)] w fun e w' => e = .returned (pairV (valueL kind t)) ∧ Below w.heap.size w w' := by
  by_cases h0 : t = []
  · subst h0
    have HV : Hid (valueL kind [] = (0, 30)) := rfl
    have hb2 : strL [] = ⟨#[]⟩ := rfl
    rw [hb2]
    clear hm
    go_enter Tryd.func15, Tryd.ntmps15
    go_wp2
    go_ret2
    exact ⟨by rw [HV.out]; rfl, Below.refl _ _⟩
  · obtain ⟨hne, hne2⟩ := strL_ne h0
    have hsz : (strL t).size = t.length := strL_size t
    rcases hk with rfl | rfl | rfl
    · by_cases h24 : 24 < t.length
      · have HV : Hid (valueL 1 t = (0, 2)) := by show _ = _; unfold valueL; rw [if_neg h0, if_neg (by omega), if_pos ⟨rfl, h24⟩]
        rw [← hsz] at h24 hs
        clear hm hsz
        generalize strL t = s at *
        go_enter Tryd.func15, Tryd.ntmps15
        go_wp2
        go_ret2
        exact ⟨by rw [HV.out]; rfl, Below.refl _ _⟩
      · have HV : Hid (valueL 1 t = (0, 0)) := by show _ = _; unfold valueL; rw [if_neg h0, if_neg (by omega), if_neg (by omega)]
        rw [← hsz] at h24 hs
        have k24 : decide ((24 : Int) < ((strL t).size : Int)) = false := by simp; omega
        clear hm hsz
        generalize strL t = s at *
        go_enter Tryd.func15, Tryd.ntmps15
        go_wp2
        go_ret2
        exact ⟨by rw [HV.out]; rfl, Below.refl _ _⟩
    · have hp := parse_any (strL t) w (by omega) hm
      rw [strL_toList] at hp
      have HV : Hid (valueL 2 t = parseL t) := by show _ = _; unfold valueL; rw [if_neg h0, if_pos rfl]
      generalize parseL t = r at *
      rw [← hsz] at hs
      clear hm hsz
      generalize strL t = s at *
      go_enter Tryd.func15, Tryd.ntmps15
      go_wp2_with fail
      refine Calls.mono hp ?_
      rintro e w1 ⟨rfl, hb⟩
      have HB : Hid (Below w.heap.size w w1) := hb
      clear hb
      simp only [pairV]
      go_wp2
      go_ret2
      exact ⟨by rw [HV.out]; rfl, HB.out⟩
    · have HV : Hid (valueL 3 t = (0, 0)) := by show _ = _; unfold valueL; rw [if_neg h0, if_neg (by omega), if_neg (by omega)]
      rw [← hsz] at hs
      clear hm hsz
      generalize strL t = s at *
      go_enter Tryd.func15, Tryd.ntmps15
      go_wp2
      go_ret2
      exact ⟨by rw [HV.out]; rfl, Below.refl _ _⟩

/-- Where one is behind some bytes. -/
def passC (p : Nat × Nat) (c : UInt8) : Nat × Nat := if c.toNat = 10 then (p.1 + 1, 1) else (p.1, p.2 + 1)
def passL (p : Nat × Nat) (l : List UInt8) : Nat × Nat := l.foldl passC p
theorem passL_bd (p : Nat × Nat) (l : List UInt8) : (passL p l).1 ≤ p.1 + l.length ∧ (passL p l).2 ≤ p.2 + l.length + 1 := by
  induction l generalizing p with
  | nil => exact ⟨Nat.le_refl _, by show p.2 ≤ _; simp⟩
  | cons c l ih =>
    have := ih (passC p c)
    have h1 : (passC p c).1 ≤ p.1 + 1 := by unfold passC; split <;> simp
    have h2 : (passC p c).2 ≤ p.2 + 1 := by unfold passC; split <;> simp
    show (passL (passC p c) l).1 ≤ _ ∧ (passL (passC p c) l).2 ≤ _
    simp only [List.length_cons]; omega
theorem passL_snoc (p : Nat × Nat) (l : List UInt8) (k : Nat) (hk : k < l.length) : passL p (l.take (k + 1)) = passC (passL p (l.take k)) (l.getD k 0) := by
  show List.foldl passC p (l.take (k + 1)) = _
  rw [List.take_succ_eq_append_getElem hk, List.foldl_append, List.getD_eq_getElem?_getD, List.getElem?_eq_getElem hk]; rfl

/-- The reader: its line, column and what is left. -/
structure RdX (W : World) (r : Nat) (p : Nat × Nat) (l : List UInt8) : Prop where
  c0 : W.cell? ⟨r, 0, none⟩ = some (.int .i64 (p.1 : Int))
  c1 : W.cell? ⟨r, 1, none⟩ = some (.int .i64 (p.2 : Int))
  c2 : W.cell? ⟨r, 2, none⟩ = some (.string (strL l))
  f : ∀ i, W.frozen? ⟨r, i, none⟩ = false
theorem RdX.lt {W : World} {r : Nat} {p : Nat × Nat} {l : List UInt8} (h : RdX W r p l) : r < W.heap.size := World.block_lt_of_cell? W _ h.c0
theorem RdX.below {W W' : World} {r : Nat} {p : Nat × Nat} {l : List UInt8} (h : RdX W r p l) (k : Below W.heap.size W W') : RdX W' r p l :=
  ⟨by rw [k.cell (p := ⟨r, 0, none⟩) h.lt]; exact h.c0, by rw [k.cell (p := ⟨r, 1, none⟩) h.lt]; exact h.c1, by rw [k.cell (p := ⟨r, 2, none⟩) h.lt]; exact h.c2,
   fun i => by rw [(Mod.of_below (S := []) k).frozen h.lt (by simp)]; exact h.f i⟩

theorem cell_oo (W : World) (c j b i : Nat) (v : Value) (h : i ≠ j) : (W.setCell ⟨c, j, none⟩ v).cell? ⟨b, i, none⟩ = W.cell? ⟨b, i, none⟩ :=
  World.cell?_setCell_other _ _ _ _ (by intro e; rw [Addr.mk.injEq] at e; omega)
theorem RdX.set0 {W : World} {r : Nat} {p : Nat × Nat} {l : List UInt8} (h : RdX W r p l) (z : Int) (a : Nat) (ha : z = (a : Int)) : RdX (W.setCell ⟨r, 0, none⟩ (.int .i64 z)) r (a, p.2) l := by
  subst ha
  refine ⟨?_, ?_, ?_, fun i => ?_⟩
  · exact World.cell?_setCell_same _ _ _ h.c0
  · rw [cell_oo _ _ _ _ _ _ (by omega)]; exact h.c1
  · rw [cell_oo _ _ _ _ _ _ (by omega)]; exact h.c2
  · simp [h.f]
theorem RdX.set1 {W : World} {r : Nat} {p : Nat × Nat} {l : List UInt8} (h : RdX W r p l) (z : Int) (a : Nat) (ha : z = (a : Int)) : RdX (W.setCell ⟨r, 1, none⟩ (.int .i64 z)) r (p.1, a) l := by
  subst ha
  refine ⟨?_, ?_, ?_, fun i => ?_⟩
  · rw [cell_oo _ _ _ _ _ _ (by omega)]; exact h.c0
  · exact World.cell?_setCell_same _ _ _ h.c1
  · rw [cell_oo _ _ _ _ _ _ (by omega)]; exact h.c2
  · simp [h.f]
theorem RdX.set2 {W : World} {r : Nat} {p : Nat × Nat} {l : List UInt8} (h : RdX W r p l) (m : List UInt8) : RdX (W.setCell ⟨r, 2, none⟩ (.string (strL m))) r p m := by
  refine ⟨?_, ?_, ?_, fun i => ?_⟩
  · rw [cell_oo _ _ _ _ _ _ (by omega)]; exact h.c0
  · rw [cell_oo _ _ _ _ _ _ (by omega)]; exact h.c1
  · exact World.cell?_setCell_same _ _ _ h.c2
  · simp [h.f]
set_option maxHeartbeats 600000 in
theorem pass_any {W : World} {r : Nat} {p : Nat × Nat} {l : List UInt8} (h : RdX W r p l) (t : List UInt8) (ht : t.length ≤ 1000000) (hp1 : p.1 ≤ 1000000) (hp2 : p.2 ≤ 1000000) :
    Calls Tryd.prog 23 #[.pointer (some ⟨r, 0, none⟩), .string (strL t)] W fun e W' => e = .returned (.tuple #[]) ∧ RdX W' r (passL p t) l ∧ Mod [r] W W' := by
  obtain ⟨W1, cap, hcv, hbel, hWs, hcell, _⟩ := conv_bytes W (strL t)
  have hsz : (strL t).size = t.length := strL_size t
  rw [strL_toList, hsz] at hcell
  have HC : Hid (∀ j, j < t.length → W1.cell? ⟨W.heap.size, j, none⟩ = some (.int .u8 (t.getD j 0).toNat)) := hcell
  have HR1 : Hid (RdX W1 r p l) := h.below hbel
  have HM1 : Hid (Mod [r] W W1) := Mod.of_below hbel
  have hrl : r < W.heap.size := h.lt
  have hne : ¬ W.heap.size = r := by omega
  have hWs' : W.heap.size < W1.heap.size := by omega
  rw [hsz] at hcv
  clear hcell h hbel hsz hWs
  generalize strL t = s at *
  obtain ⟨G, hG⟩ : ∃ G, W.heap.size = G := ⟨_, rfl⟩
  rw [hG] at hne hWs' HC hcv hrl
  clear hG
  go_enter Tryd.func23, Tryd.ntmps23
  go_wp2
  go_loopw [9] (fun i wr => ∃ k : Nat, k ≤ t.length ∧ i = .int .i64 k ∧ RdX wr r (passL p (t.take k)) l ∧ Mod [r] W1 wr) (fun i _ => t.length - (intOf i).toNat)
  case atStart => exact ⟨0, Nat.zero_le _, rfl, by rw [List.take_zero]; exact HR1.out, Mod.refl _ _⟩
  case round =>
    obtain ⟨k, hk, rfl, hrd, hmod⟩ := hrel
    have HRr : Hid (RdX wr r (passL p (t.take k)) l) := hrd
    have HM : Hid (Mod [r] W1 wr) := hmod
    clear hrd hmod
    by_cases hlt : k < t.length
    · have hc := HM.out.cell (HC.out k hlt) (by simp; exact hne)
      have c0 := HRr.out.c0
      have c1 := HRr.out.c1
      have c2 := HRr.out.c2
      have f0 := HRr.out.f 0
      have f1 := HRr.out.f 1
      have hbd := passL_bd p (t.take k)
      have hlen : (t.take k).length ≤ 1000000 := by rw [List.length_take]; omega
      have HS : Hid (passL p (t.take (k + 1)) = passC (passL p (t.take k)) (t.getD k 0)) := passL_snoc p t k hlt
      have hcl : (t.getD k 0).toNat < 256 := (t.getD k 0).toNat_lt
      have HD : Hid (∀ q, passC q (t.getD k 0) = if (t.getD k 0).toNat = 10 then (q.1 + 1, 1) else (q.1, q.2 + 1)) := fun q => rfl
      generalize t.getD k 0 = c at *
      generalize c.toNat = n at *
      generalize passL p (t.take k) = q at *
      generalize (t.take k).length = m at *
      obtain ⟨q1, q2⟩ := q
      simp only at hbd c0 c1
      by_cases h10 : n = 10
      · subst h10
        have HE : Hid (passC (q1, q2) c = (q1 + 1, 1)) := HD.out _
        clear HD
        go_wp2
        go_roundw
        case rel =>
          refine ⟨k + 1, by omega, by go_num, ?_, ?_⟩
          · rw [HS.out, HE.out]
            exact ((HRr.out.set1 _ (q2 + 1) (by omega)).set0 _ (q1 + 1) (by omega)).set1 _ 1 rfl
          · exact ((HM.out.setCell _ _ _ (by simp)).setCell _ _ _ (by simp)).setCell _ _ _ (by simp)
        case measure => simp [intOf]; omega
      · have h10' : ((n : Int) == 10) = false := by simp; omega
        have HE : Hid (passC (q1, q2) c = (q1, q2 + 1)) := by show _ = _; rw [HD.out, if_neg h10]
        clear HD h10
        go_wp2
        go_roundw
        case rel =>
          refine ⟨k + 1, by omega, by go_num, ?_, ?_⟩
          · rw [HS.out, HE.out]
            exact HRr.out.set1 _ (q2 + 1) (by omega)
          · exact HM.out.setCell _ _ _ (by simp)
        case measure => simp [intOf]; omega
    · have hkk : k = t.length := by omega
      have HE : Hid (RdX wr r (passL p t) l) := by have := HRr.out; rw [hkk, List.take_length] at this; exact this
      clear hkk
      go_wp2
      first | go_end0 | refine bodyPost_ret (results_none rfl _ _ _) rfl ?_
      exact ⟨rfl, HE.out, HM1.out.trans HM.out⟩
end Go.Proofs.YtkkgfbhngoijaaaDoor
