/- The contracts of fix's twice and binary: decimal digits behind a point doubled where they stand; 32 bits of them. -/
import Derived.Test.YtkkgfbhngoijaaaDoorDigs
namespace Go.Proofs.YtkkgfbhngoijaaaDoor
open Go.RowKit
set_option linter.unusedVariables false
set_option maxRecDepth 100000

/-- A row of decimal digits in memory. -/
def DigRow (w : World) (b : Nat) (l : List Nat) : Prop := ∀ j, j < l.length → w.cell? ⟨b, j, none⟩ = some (.int .u8 ((48 + l.getD j 0 : Nat) : Int))
/-- Digits doubled: what goes over, and the new ones. -/
def dbl : List Nat → Nat × List Nat
  | [] => (0, [])
  | d :: l => ((2 * d + (dbl l).1) / 10, (2 * d + (dbl l).1) % 10 :: (dbl l).2)
theorem dbl_len (l : List Nat) : (dbl l).2.length = l.length := by
  induction l with
  | nil => rfl
  | cons d l ih => simp [dbl, ih]
def Small (l : List Nat) : Prop := ∀ j, l.getD j 0 ≤ 9
theorem dbl_carry (l : List Nat) (h : Small l) : (dbl l).1 ≤ 1 := by
  induction l with
  | nil => simp [dbl]
  | cons d l ih =>
    have h0 : d ≤ 9 := by simpa using h 0
    have := ih (fun j => by simpa using h (j + 1))
    simp only [dbl]; omega
theorem dbl_small (l : List Nat) : Small (dbl l).2 := by
  induction l with
  | nil => intro j; simp [dbl]
  | cons d l ih =>
    intro j
    cases j with
    | zero => simp only [dbl, List.getD_cons_zero]; omega
    | succ j => simpa [dbl] using ih j
theorem small_drop {l : List Nat} (h : Small l) (k : Nat) : Small (l.drop k) := fun j => by
  have := h (k + j); simpa [List.getD_eq_getElem?_getD, List.getElem?_drop] using this
/-- What stands behind a round: the first k digits as they were, the others doubled. -/
def mid (l : List Nat) (k : Nat) : List Nat := l.take k ++ (dbl (l.drop k)).2
theorem mid_len (l : List Nat) (k : Nat) (h : k ≤ l.length) : (mid l k).length = l.length := by
  simp [mid, dbl_len]; omega
theorem dbl_drop (l : List Nat) (k : Nat) (h : k < l.length) : dbl (l.drop k) = ((2 * l.getD k 0 + (dbl (l.drop (k + 1))).1) / 10, (2 * l.getD k 0 + (dbl (l.drop (k + 1))).1) % 10 :: (dbl (l.drop (k + 1))).2) := by
  rw [List.drop_eq_getElem_cons h]
  simp [dbl, List.getD_eq_getElem?_getD, h]
theorem mid_at (l : List Nat) (k : Nat) (h : k < l.length) : (mid l (k + 1)).getD k 0 = l.getD k 0 := by
  simp only [mid, List.getD_eq_getElem?_getD]
  rw [List.getElem?_append_left (by simp; omega), List.getElem?_take_of_lt (by omega)]
theorem mid_step (l : List Nat) (k : Nat) (h : k < l.length) : mid l k = (mid l (k + 1)).set k ((2 * l.getD k 0 + (dbl (l.drop (k + 1))).1) % 10) := by
  have h1 : (l.take (k + 1)) = l.take k ++ [l.getD k 0] := by
    rw [List.take_succ_eq_append_getElem h]; simp [List.getD_eq_getElem?_getD, h]
  simp only [mid]
  rw [dbl_drop l k h, h1]
  rw [List.append_assoc, List.set_append_right _ _ (by simp; omega)]
  simp [Nat.min_eq_left (Nat.le_of_lt h)]
theorem DigRow.set {w : World} {b : Nat} {l : List Nat} (h : DigRow w b l) (k d : Nat) (hk : k < l.length) : DigRow (w.setCell ⟨b, k, none⟩ (.int .u8 ((48 + d : Nat) : Int))) b (l.set k d) := by
  intro j hj
  simp at hj
  by_cases hjk : k = j
  · subst hjk
    rw [World.cell?_setCell_same _ _ _ (h k hj)]
    simp [List.getD_eq_getElem?_getD, hj]
  · have hne : (⟨b, k, none⟩ : Addr) ≠ ⟨b, j, none⟩ := fun e => hjk (by injection e)
    rw [World.cell?_setCell_other _ _ _ _ hne, h j hj]
    simp [List.getD_eq_getElem?_getD, hjk]

set_option maxHeartbeats 600000 in
theorem twice_any (b cap : Nat) (l : List Nat) (w : World) (hl : l.length ≤ 1000000) (hd : Small l) (hr : DigRow w b l) (hf : ∀ j, j < l.length → w.frozen? ⟨b, j, none⟩ = false) :
    Calls Tryd.prog 38 #[.slice (some ⟨b, 0, none⟩) l.length cap] w fun e w' => e = .returned (.int .u64 ((dbl l).1 : Int)) ∧ DigRow w' b (dbl l).2 ∧ Only b w w' := by
  have HR : Hid (DigRow w b l) := hr
  have HF : Hid (∀ j, j < l.length → w.frozen? ⟨b, j, none⟩ = false) := hf
  clear hr hf
  go_enter Tryd.func38, Tryd.ntmps38
  go_wp2
  go_loopw [3, 4] (fun o i wr => ∃ k : Nat, k ≤ l.length ∧ i = .int .i64 ((k : Int) - 1) ∧ o = .int .u8 ((dbl (l.drop k)).1 : Int) ∧ DigRow wr b (mid l k) ∧ Only b w wr) (fun _ i _ => (intOf i + 1).toNat)
  case atStart => exact ⟨l.length, Nat.le_refl _, by go_num, by simp [dbl], by simpa [mid, dbl, Hid] using HR, Only.refl _ _⟩
  case round =>
    obtain ⟨k, hk, rfl, rfl, hrow, honly⟩ := hrel
    have HW : Hid (DigRow wr b (mid l k)) := hrow
    have HO : Hid (Only b w wr) := honly
    clear hrow honly
    by_cases h0 : k = 0
    · subst h0
      have hcar := dbl_carry l hd
      have HE : Hid (DigRow wr b (dbl l).2) := by have := HW.out; simpa [mid, Hid] using this
      go_wp2
      go_ret
      exact ⟨by first | rfl | (simp; done), HE.out, HO.out⟩
    · obtain ⟨m, rfl⟩ : ∃ m, k = m + 1 := ⟨k - 1, by omega⟩
      have hc := HW.out m (by rw [mid_len l _ hk]; omega)
      rw [mid_at l m (by omega)] at hc
      have hfz : wr.frozen? ⟨b, m, none⟩ = false := by rw [HO.out.frz]; exact HF.out m (by omega)
      have hd1 := hd m
      have hd2 := dbl_carry _ (small_drop hd (m + 1))
      have HS : Hid (mid l m = (mid l (m + 1)).set m ((2 * l.getD m 0 + (dbl (l.drop (m + 1))).1) % 10)) := mid_step l m (by omega)
      have HC : Hid ((dbl (l.drop m)).1 = (2 * l.getD m 0 + (dbl (l.drop (m + 1))).1) / 10) := by rw [dbl_drop l m (by omega)]; rfl
      generalize (dbl (l.drop (m + 1))).1 = c at *
      generalize l.getD m 0 = d at *
      have HV : Hid ((48 + (2 * (48 + (d : Int) - 48) + (c : Int)) % 10) = ((48 + (2 * d + c) % 10 : Nat) : Int)) := by simp only [Hid]; omega
      go_wp2
      go_roundw
      case rel => exact ⟨m, by omega, rfl, by rw [HC.out]; go_num, by rw [HS.out, HV.out]; exact HW.out.set m _ (by rw [mid_len l _ hk]; omega), HO.out.set _ _⟩
      case measure => simp [intOf]

/-- Digits doubled so often, and the bits that went over. -/
def dblN : Nat → List Nat → List Nat
  | 0, l => l
  | n + 1, l => (dbl (dblN n l)).2
def partN : Nat → List Nat → Nat
  | 0, _ => 0
  | n + 1, l => partN n l * 2 + (dbl (dblN n l)).1
theorem dblN_len (n : Nat) (l : List Nat) : (dblN n l).length = l.length := by
  induction n with
  | zero => rfl
  | succ n ih => simp [dblN, dbl_len, ih]
theorem dblN_small (n : Nat) (l : List Nat) (h : Small l) : Small (dblN n l) := by
  cases n with
  | zero => exact h
  | succ n => exact dbl_small _
theorem partN_lt (n : Nat) (l : List Nat) (h : Small l) : partN n l < 2 ^ n := by
  induction n with
  | zero => simp [partN]
  | succ n ih =>
    have := dbl_carry _ (dblN_small n l h)
    simp only [partN, Nat.pow_succ]; omega
theorem partN_32 (n : Nat) (hn : n ≤ 32) (l : List Nat) (h : Small l) : partN n l < 4294967296 := by
  have h1 := partN_lt n l h
  have h2 : 2 ^ n ≤ 2 ^ 32 := Nat.pow_le_pow_right (by omega) hn
  omega
theorem or_two (p c : Nat) (hp : p < 4294967296) (hc : c ≤ 1) : bits .or .u64 ((p : Int) * 2) (c : Int) = ((p * 2 + c : Nat) : Int) := by
  have h := u64_or_nat (p * 2) c (by omega) (by omega)
  rw [nat_join 1 _ _ (by omega) (by omega)] at h
  rw [← h]; simp
/-- The digits' values. -/
def digVals (l : List UInt8) : List Nat := l.map fun c => c.toNat - 48
theorem digVals_small (l : List UInt8) (h : l.all digB = true) : Small (digVals l) := by
  intro j
  rw [List.getD_eq_getElem?_getD, digVals, List.getElem?_map]
  cases hj : l[j]? with
  | none => simp
  | some c =>
    have hm := List.mem_of_getElem? hj
    rw [List.all_eq_true] at h
    have := h c hm
    simp [digB] at this
    simp; omega
theorem digVals_at (l : List UInt8) (h : l.all digB = true) (j : Nat) (hj : j < l.length) : (l.getD j 0).toNat = 48 + (digVals l).getD j 0 := by
  have hm : l.getD j 0 ∈ l := by rw [List.getD_eq_getElem?_getD, List.getElem?_eq_getElem hj]; exact List.getElem_mem hj
  rw [List.all_eq_true] at h
  have := h _ hm
  simp only [digB, Bool.and_eq_true, decide_eq_true_eq] at this
  simp only [digVals, List.getD_eq_getElem?_getD, List.getElem?_map, List.getElem?_eq_getElem hj, Option.map_some, Option.getD_some] at *
  omega
def allZero (l : List Nat) : Bool := l.all fun d => decide (d = 0)
theorem allZero_snoc (l : List Nat) (k : Nat) (h : k < l.length) : allZero (l.take (k + 1)) = (allZero (l.take k) && decide (l.getD k 0 = 0)) := by
  unfold allZero
  rw [List.take_succ_eq_append_getElem h, List.all_append]
  simp [List.getD_eq_getElem?_getD, h]
theorem allZero_not (l : List Nat) (k : Nat) (hk : k < l.length) (h : ¬ l.getD k 0 = 0) : allZero l = false := by
  unfold allZero
  rw [List.all_eq_false]
  exact ⟨l.getD k 0, by rw [List.getD_eq_getElem?_getD, List.getElem?_eq_getElem hk]; exact List.getElem_mem hk, by simpa using h⟩

/-- The digits doubled 32 times, the 32 bits that went over: by names that nothing lays open. -/
def dig32 (l : List Nat) : List Nat := dblN 32 l
def part32 (l : List Nat) : Nat := partN 32 l
def Is32 (l z : List Nat) (q : Nat) : Prop := dig32 l = z ∧ part32 l = q
/-- What binary tells. -/
def binOut (z : Bool) (q : Nat) : Value := if z then .tuple #[.int .u64 (q : Int), .bool true] else .tuple #[.int .u64 0, .bool false]
set_option maxHeartbeats 600000 in
theorem binary_any (s : ByteArray) (w : World) (hs : s.size ≤ 1000) (ha : s.data.toList.all digB = true) :
    Calls Tryd.prog 34 #[.string s] w fun e w' => e = .returned (binOut (allZero (dig32 (digVals s.data.toList))) (part32 (digVals s.data.toList))) ∧ Below w.heap.size w w' := by
  obtain ⟨W, cap, hcv, hbel, hWs, hcell, hfz⟩ := conv_bytes w s
  obtain ⟨ds, hds⟩ : ∃ ds, ds = digVals s.data.toList := ⟨_, rfl⟩
  have hsm : Small ds := hds ▸ digVals_small _ ha
  have hlen : ds.length = s.size := by rw [hds]; simp [digVals]
  have HR : Hid (DigRow W w.heap.size ds) := by
    intro j hj
    rw [hcell j (by omega), digVals_at _ ha j (by simp; omega), hds]
  have HF : Hid (∀ j, j < s.size → W.frozen? ⟨w.heap.size, j, none⟩ = false) := hfz
  rw [← hds]
  clear hds ha hcell hfz
  have HL : Hid (ds.length = s.size) := hlen
  have HB : Hid (Below w.heap.size w W) := hbel
  clear hlen hbel hWs
  go_enter Tryd.func34, Tryd.ntmps34
  go_wp2
  go_loopw [5, 10] (fun p i wr => ∃ n : Nat, n ≤ 32 ∧ i = .int .i64 n ∧ p = .int .u64 (partN n ds : Int) ∧ DigRow wr w.heap.size (dblN n ds) ∧ Only w.heap.size W wr) (fun _ i _ => 32 - (intOf i).toNat)
  case atStart => exact ⟨0, Nat.zero_le _, rfl, rfl, HR.out, Only.refl _ _⟩
  case round =>
    obtain ⟨n, hn, rfl, rfl, hrow, honly⟩ := hrel
    have HW : Hid (DigRow wr w.heap.size (dblN n ds)) := hrow
    have HO : Hid (Only w.heap.size W wr) := honly
    clear hrow honly
    by_cases hlt : n < 32
    · have hp := partN_32 n hn ds hsm
      have hc1 := dbl_carry _ (dblN_small n ds hsm)
      have HT : Hid (Calls Tryd.prog 38 #[.slice (some ⟨w.heap.size, 0, none⟩) s.size cap] wr fun e w' => e = .returned (.int .u64 ((dbl (dblN n ds)).1 : Int)) ∧ DigRow w' w.heap.size (dbl (dblN n ds)).2 ∧ Only w.heap.size wr w') := by
        have h := twice_any w.heap.size cap (dblN n ds) wr (by rw [dblN_len, HL.out]; omega) (dblN_small n ds hsm) HW.out (fun j hj => by rw [HO.out.frz]; exact HF.out j (by rw [dblN_len, HL.out] at hj; exact hj))
        rw [dblN_len, HL.out] at h; exact h
      have HP : Hid (partN (n + 1) ds = partN n ds * 2 + (dbl (dblN n ds)).1) := rfl
      have HD : Hid (dblN (n + 1) ds = (dbl (dblN n ds)).2) := rfl
      have hor := or_two (partN n ds) (dbl (dblN n ds)).1 hp hc1
      have HOR : Hid (bits .or .u64 ((partN n ds : Int) * 2) ((dbl (dblN n ds)).1 : Int) = ((partN n ds * 2 + (dbl (dblN n ds)).1 : Nat) : Int)) := hor
      clear hor
      generalize (dbl (dblN n ds)).1 = c at *
      generalize hq : partN n ds = q at *
      clear hq
      go_wp2_with fail
      refine Calls.mono HT.out ?_
      rintro e w1 ⟨rfl, hrow1, honly1⟩
      have HW1 : Hid (DigRow w1 w.heap.size (dbl (dblN n ds)).2) := hrow1
      have HO1 : Hid (Only w.heap.size W w1) := HO.out.trans honly1
      clear hrow1 honly1 HW HO HT
      go_wp2
      go_roundw
      case rel => exact ⟨n + 1, by omega, by go_num, by rw [HP.out, ← HOR.out], by rw [HD.out]; exact HW1.out, HO1.out⟩
      case measure => simp [intOf]; omega
    · have hn32 : n = 32 := by omega
      subst hn32
      obtain ⟨zs, hzs⟩ : ∃ zs, dig32 ds = zs := ⟨_, rfl⟩
      obtain ⟨q, hqs⟩ : ∃ q, part32 ds = q := ⟨_, rfl⟩
      have HZS : Is32 ds zs q := ⟨hzs, hqs⟩
      have HL2 : Hid (zs.length = s.size) := by rw [← hzs, dig32, dblN_len, HL.out]; rfl
      have hsm2 : Small zs := by rw [← hzs]; exact dblN_small 32 ds hsm
      have hp : q < 4294967296 := by rw [← hqs]; exact partN_32 32 (by omega) ds hsm
      have HW' : Hid (DigRow wr w.heap.size zs) := by rw [← hzs]; exact HW.out
      have hpq : partN 32 ds = q := hqs
      rw [hpq]
      clear hzs hqs HW hpq
      have HBW : Hid (Below w.heap.size w wr) := HB.out.trans (HO.out.below (Nat.le_refl _))
      clear HB HO HR HF HL
      go_wp2
      go_loop [20] (fun i => ∃ k : Nat, k ≤ s.size ∧ i = .int .i64 k ∧ allZero (zs.take k) = true) (fun i => s.size - (intOf i).toNat)
      case atStart => exact ⟨0, Nat.zero_le _, rfl, rfl⟩
      case round =>
        obtain ⟨k, hk, rfl, hall⟩ := hrel
        have HZ : Hid (allZero (zs.take k) = true) := hall
        clear hall
        by_cases hlt : k < s.size
        · have hc := HW'.out k (by rw [HL2.out]; exact hlt)
          have HN : Hid (allZero (zs.take (k + 1)) = (allZero (zs.take k) && decide (zs.getD k 0 = 0))) := allZero_snoc zs k (by rw [HL2.out]; exact hlt)
          have HX : Hid (¬ zs.getD k 0 = 0 → allZero zs = false) := allZero_not zs k (by rw [HL2.out]; exact hlt)
          have hd := hsm2 k
          generalize zs.getD k 0 = d at *
          by_cases g : d = 0
          · subst g
            go_wp2
            go_round
            case rel => exact ⟨k + 1, by omega, by go_num, by rw [HN.out, HZ.out]; rfl⟩
            case measure => simp [intOf]; omega
          · have HA : Hid (allZero zs = false) := HX.out g
            have g2 : 1 ≤ d := by omega
            clear HX g HN
            go_wp2
            go_ret2
            exact ⟨by rw [HZS.1, HA.out]; rfl, HBW.out⟩
        · have hkk : k = s.size := by omega
          subst hkk
          have HE : Hid (allZero zs = true) := by
            have := HZ.out; rw [List.take_of_length_le (by rw [HL2.out]; exact Nat.le_refl _)] at this; exact this
          go_wp2
          go_ret2
          exact ⟨by rw [HZS.1, HZS.2, HE.out]; rfl, HBW.out⟩
end Go.Proofs.YtkkgfbhngoijaaaDoor
