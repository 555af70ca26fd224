/- The contract of fix's Text: a number as a text. Conditions: the number's own range; the library's table of powers of ten holds what its text lays. -/
import Derived.Test.YtapdnahjcadpeaaDoorParse
import Derived.OwnWalk
import Derived.Lib.SmallJoins
import Derived.Deep.LoopGhost
import Derived.Deep.DeepMust
import Derived.Laws.IdiomStrings
import Derived.Laws.BytesArg
namespace Go.Proofs.YtapdnahjcadpeaaDoor
open Go.RowKit
set_option linter.unusedVariables false
set_option maxRecDepth 100000

/-- The digits behind the point, at most n of them. -/
def fracN : Nat → Nat → List UInt8
  | 0, _ => []
  | n + 1, p => if p = 0 then [] else UInt8.ofNat (48 + p * 10 / 4294967296) :: fracN n (p * 10 % 4294967296)
def fracL (p : Nat) : List UInt8 := fracN 32 p
/-- A number as a text. -/
def textL (x : Int) : List UInt8 := (if x < 0 then [45] else []) ++ Lib.decDigits (x.natAbs / 4294967296) ++ (if x.natAbs % 4294967296 = 0 then [] else 46 :: fracL (x.natAbs % 4294967296))

/-- The library's table of powers of ten. -/
def PowsAre (w : World) : Prop := Lib.TabIs Tryd.prog w "internal/strconv.uint64pow10" .u64 Lib.pow10Tab
theorem powsNamed : Tryd.prog.globalNamed "internal/strconv.uint64pow10" = some 3 := by kernel_rfl
theorem PowsAre.stays {w w' : World} (h : PowsAre w) (hb : Below w.heap.size w w') : PowsAre w' := Joins.tab_stays powsNamed h hb (Nat.le_refl _)

set_option maxHeartbeats 400000 in
theorem appendUint_any (B n u : Nat) (hu : u < 18446744073709551616) (sv : Value) (xs : List Value) (w : World) (hown : w.ownsRow B 5 1 sv n xs) (hBw : B ≤ w.heap.size) (hlim : n + 20 ≤ 140737488355328) (ht : PowsAre w) :
    Calls Tryd.prog 49 #[sv, .int .u64 (u : Int), .int .i64 10] w fun e w' => ∃ v', e = .returned v' ∧ w'.ownsRow B 5 1 v' (n + (Lib.decDigits u).length) (xs ++ Lib.byteCells (Lib.decDigits u)) ∧ Below B w w' := by
  have H : Hid (Calls Tryd.prog 65 #[sv, .int .u64 (u : Int), .int .i64 10] w fun e w' => ∃ v', e = .returned v' ∧ w'.ownsRow B 5 1 v' (n + (Lib.decDigits u).length) (xs ++ Lib.byteCells (Lib.decDigits u)) ∧ Below B w w') := by
    by_cases h : u < 100
    · exact Calls.mono (Tryd.internal_strconv_AppendUint_10_small B n u h sv xs w hown hBw hlim) (fun e w' ⟨v', h1, h2, h3, _⟩ => ⟨v', h1, h2, h3⟩)
    · exact Calls.mono (Tryd.internal_strconv_AppendUint_10_big B n u (by omega) hu sv xs w hown hBw hlim ht) (fun e w' ⟨v', h1, h2, h3, _⟩ => ⟨v', h1, h2, h3⟩)
  clear hown ht
  go_enter Tryd.func49, Tryd.ntmps49
  go_wp2_with fail
  refine Calls.mono H.out ?_
  rintro e w1 ⟨v', rfl, ho, hb⟩
  have HO : Hid (w1.ownsRow B 5 1 v' (n + (Lib.decDigits u).length) (xs ++ Lib.byteCells (Lib.decDigits u)) ∧ Below B w w1) := ⟨ho, hb⟩
  clear ho hb H
  go_wp2
  go_ret
  exact ⟨v', rfl, HO.out.1, HO.out.2⟩

def zero44 : Array Value := Array.replicate 44 (.int .u8 0)
theorem make44 (w : World) : (Instr.makeSlice 70 (.int .i64 0) (.int .i64 44)).run Tryd.prog w = .ok (.slice (some ⟨w.heap.size, 0, none⟩) 0 44) (w.alloc (.cells zero44 5)) := by kernel_rfl
theorem infoU8 : (Tryd.prog.info? 5).map (fun i => (i.zero, i.size, i.bytes)) = some (some (.int .u8 0), 1, 1) := by kernel_rfl
theorem own44 (w : World) : (w.alloc (.cells zero44 5)).ownsRow w.heap.size 5 1 (.slice (some ⟨w.heap.size, 0, none⟩) 0 44) 0 (Lib.byteCells []) :=
  World.ownsRow_made w zero44 44 (Nat.le_refl _) (by unfold maxLen; omega) (by simp [zero44])

/-- 'b = append(b, c)', b a row of bytes of the call's own. -/
theorem append_byte {ops : Array Oper} {rest : List Oper} {o : Oper} {a : Act} {Q : Exit → Act → World → Prop} (hgd : o.guard = none) (s x : Operand)
    (ho : o.op = .call { callee := .builtin .append, args := #[s, x], argTypes := #[70, 70] })
    (B : Nat) (W : World) (v : Value) (n : Nat) (l : List UInt8) (hs : a.eval s = v) (hown : W.ownsRow B 5 1 v n (Lib.byteCells l))
    (z : Int) (c : UInt8) (hz : z = (c.toNat : Int)) (g : Nat) (hg : g = W.heap.size) (hx : a.eval x = .slice (some ⟨g, 0, none⟩) 1 1) (hn : n ≤ 1000) (hB : B ≤ W.heap.size)
    (h : ∀ v' w', w'.ownsRow B 5 1 v' (n + 1) (Lib.byteCells (l ++ [c])) → Below B W w' → wpList Tryd.prog ops Q rest (a.put o.dst v') w') :
    wpList Tryd.prog ops Q (o :: rest) a (W.alloc (.cells #[.int .u8 z] 5)) := by
  obtain ⟨i0, hi, hz0, hz1, hz2⟩ := info_parts infoU8
  subst hz hg
  refine wpList_append_own _ hgd s x 70 ho B 5 i0 (.int .u8 0) 1 1 Tryd.underlying70 hi hz0 hz1 hz2 rfl (by decide) v n _ hs (hown.alloc _) ⟨W.heap.size, 0, none⟩ 1 1 [.int .u8 (c.toNat : Int)] hx rfl ?_ ?_ ?_ ?_ ?_ ?_
  · intro j u hj
    match j, hj with
    | 0, hj => simp at hj; subst hj; simp [Addr.add]
  · intro u hu; simp at hu; subst hu; rfl
  · unfold maxLen; omega
  · omega
  · simp; omega
  · intro v' w' h1 h2 _
    refine h v' w' (by simpa [Lib.byteCells] using h1) ?_
    exact ((Below.refl B W).alloc hB _).grown h2 (by simp; omega) (fun k hk => (hown.lt k hk).1)

/-- 'string(b)', b a row of bytes of the call's own. -/
theorem conv_back (W : World) (B : Nat) (v : Value) (n : Nat) (l : List UInt8) (hown : W.ownsRow B 5 1 v n (Lib.byteCells l)) :
    (convert 70 9 v).run Tryd.prog W = .ok (.string ⟨l.toArray⟩) W := by
  have hlen : l.length = n := by have := hown.1; simpa [Lib.byteCells] using this
  subst hlen
  rcases hown.2 with ⟨rfl, h0⟩ | ⟨g, cap, cur, rfl, hg, hb, hc1, hc2, hc3, hc4⟩
  · have : l = [] := List.length_eq_zero_iff.1 h0
    subst this
    exact run_convert_bytes_nil W 70 5 Tryd.underlying70 Tryd.underlying5 0 0 9 Tryd.underlying9
  · refine run_convert_bytes_back W 70 9 5 ⟨g, 0, none⟩ cap l Tryd.underlying70 Tryd.underlying5 Tryd.underlying9 ?_
    intro j hj
    have h := hown.cells (g := g) rfl j (.int .u8 (l[j].toNat : Int)) (by simp [Lib.byteCells, hj])
    exact h

theorem pow_step (P k : Nat) (h : P % 2 ^ k = 0) (hk : k + 1 ≤ 32) : (P * 10 % 4294967296) % 2 ^ (k + 1) = 0 := by
  have h1 : 2 ^ (k + 1) ∣ 4294967296 := Nat.pow_dvd_pow 2 hk
  rw [Nat.mod_mod_of_dvd _ h1]
  obtain ⟨m, rfl⟩ := Nat.dvd_of_mod_eq_zero h
  apply Nat.mod_eq_zero_of_dvd
  exact ⟨5 * m, by rw [Nat.pow_succ, Nat.mul_assoc, Nat.mul_assoc]; congr 1; omega⟩
theorem fracN_zero (n : Nat) : fracN n 0 = [] := by cases n <;> simp [fracN]
theorem fracN_step (n P : Nat) (h : ¬ P = 0) : fracN (n + 1) P = UInt8.ofNat (48 + P * 10 / 4294967296) :: fracN n (P * 10 % 4294967296) := by
  simp [fracN, h]

theorem digit_byte (P : Nat) (h : P < 4294967296) : 48 + (P : Int) * 10 / 4294967296 = ((UInt8.ofNat (48 + P * 10 / 4294967296)).toNat : Int) := by
  have h1 : P * 10 / 4294967296 < 10 := by omega
  have h2 : 48 + P * 10 / 4294967296 < 256 := by omega
  rw [UInt8.toNat_ofNat_of_lt' h2]; omega
/-- What holds at the head of Text's loop, r rounds at most being to come. -/
def TextInv (B n : Nat) (L : List UInt8) (p : Nat) (w : World) (r : Nat) (b pt : Value) (wr : World) : Prop :=
  r ≤ 32 ∧ ∃ (P : Nat) (em : List UInt8), pt = .int .u64 (P : Int) ∧ P < 4294967296 ∧ P % 2 ^ (32 - r) = 0 ∧ em.length = 32 - r ∧ em ++ fracN r P = fracL p ∧
    wr.ownsRow B 5 1 b (n + em.length) (Lib.byteCells (L ++ em)) ∧ Below B w wr ∧ B ≤ wr.heap.size

theorem TextInv.step {B n p r P : Nat} {L em : List UInt8} {w wr w1 : World} {v' : Value} (hr : r ≤ 32) (hP : P < 4294967296) (h0 : 1 ≤ P) (hm : P % 2 ^ (32 - r) = 0) (hl : em.length = 32 - r) (he : em ++ fracN r P = fracL p)
    (ho : w1.ownsRow B 5 1 v' (n + em.length + 1) (Lib.byteCells ((L ++ em) ++ [UInt8.ofNat (48 + P * 10 / 4294967296)]))) (hb : Below B w wr) (hb1 : Below B wr w1) (hB : B ≤ wr.heap.size) :
    r - 1 < r ∧ TextInv B n L p w (r - 1) v' (.int .u64 ((P * 10 % 4294967296 : Nat) : Int)) w1 := by
  have hr0 : r ≠ 0 := by
    intro h; subst h
    have : P % 4294967296 = 0 := by simpa using hm
    omega
  obtain ⟨r', rfl⟩ : ∃ r', r = r' + 1 := ⟨r - 1, by omega⟩
  refine ⟨by omega, by omega, P * 10 % 4294967296, em ++ [UInt8.ofNat (48 + P * 10 / 4294967296)], rfl, Nat.mod_lt _ (by omega), ?_, by simp; omega, ?_, ?_, hb.trans hb1, Nat.le_trans hB hb1.size⟩
  · have := pow_step P (32 - (r' + 1)) hm (by omega)
    rwa [show 32 - (r' + 1) + 1 = 32 - (r' + 1 - 1) by omega] at this
  · rw [← he, fracN_step r' P (by omega)]; simp
  · simpa [Nat.add_assoc] using ho

theorem decDigits_short (u : Nat) (h : u < 4294967296) : (Lib.decDigits u).length ≤ 10 := by
  suffices ∀ (n u : Nat), 1 ≤ n → u < 10 ^ n → (Lib.decDigits u).length ≤ n from this 10 u (by omega) (by omega)
  intro n
  induction n with
  | zero => intro u h; omega
  | succ n ih =>
    intro u _ hu
    rw [Lib.decDigits]
    by_cases h10 : u < 10
    · rw [dif_pos h10]; simp
    · rw [dif_neg h10]
      have : n ≠ 0 := by intro h; subst h; simp at hu; omega
      have := ih (u / 10) (by omega) (by rw [Nat.pow_succ] at hu; omega)
      simp; omega

set_option maxHeartbeats 1000000 in
theorem text_neg (x : Int) (w : World) (x1 : -9223372036854775808 ≤ x) (x2 : x ≤ 9223372036854775807) (hx : x < 0) (ht : PowsAre w) :
    Calls Tryd.prog 22 #[.int .i64 x] w fun e w' => e = .returned (.string ⟨(textL x).toArray⟩) ∧ Below w.heap.size w w' := by
  have ax := absF_bd x x1 x2
  have hmk := make44
  have HO : Hid ((w.alloc (.cells zero44 5)).ownsRow w.heap.size 5 1 (.slice (some ⟨w.heap.size, 0, none⟩) 0 44) 0 (Lib.byteCells [])) := own44 w
  have HB0 : Hid (Below w.heap.size w (w.alloc (.cells zero44 5))) := (Below.refl _ w).alloc (Nat.le_refl _) _
  have HT : Hid (textL x = ([45] ++ Lib.decDigits (x.natAbs / 4294967296)) ++ (if x.natAbs % 4294967296 = 0 then [] else 46 :: fracL (x.natAbs % 4294967296))) := by
    simp only [Hid, textL]; rw [if_pos hx]
  have HQ : Hid (absF x / 4294967296 = ((x.natAbs / 4294967296 : Nat) : Int)) := by unfold absF; simp only [Hid]; omega
  have hm := and_mask (absF x) (by omega) (by omega)
  rw [show absF x % 4294967296 = ((x.natAbs % 4294967296 : Nat) : Int) by unfold absF; omega] at hm
  have hpl : x.natAbs % 4294967296 < 4294967296 := Nat.mod_lt _ (by omega)
  have hul : x.natAbs / 4294967296 < 4294967296 := by omega
  generalize x.natAbs % 4294967296 = p at *
  generalize x.natAbs / 4294967296 = u at *
  have hdl := decDigits_short u hul
  go_enter Tryd.func22, Tryd.ntmps22
  go_wp2_with (first | (go_at_call 36; refine (sizeOf_any _ _ (by omega) (by omega)).mono ?_; rintro e w' ⟨rfl, hw⟩; have hw' := hw.symm; subst hw'; clear hw) | (at_builtin; go_must (refine append_byte (by rfl) _ _ (by rfl) w.heap.size (w.alloc (.cells zero44 5)) (.slice (some ⟨w.heap.size, 0, none⟩) 0 44) 0 [] (by rfl) HO.out 45 45 (by rfl) (w.heap.size + 1) (by simp) (by rfl) (by omega) (by simp) ?_); intro v1 w1 ho1 hb1))
  have HB1 : Hid (Below w.heap.size w (w1)) := HB0.out.trans hb1
  have HU : Hid (Calls Tryd.prog 49 #[v1, .int .u64 (absF x / 4294967296), .int .i64 10] (w1) fun e w' => ∃ v', e = .returned v' ∧ w'.ownsRow w.heap.size 5 1 v' (1 + (Lib.decDigits u).length) (Lib.byteCells ([45] ++ Lib.decDigits u)) ∧ Below w.heap.size (w1) w') := by
    have h := appendUint_any w.heap.size 1 u (by omega) (v1) _ (w1) ho1 HB1.out.size (by omega) (ht.stays HB1.out)
    rw [HQ.out]
    simp only [Hid]
    simpa [Lib.byteCells] using h
  refine Calls.mono HU.out ?_
  rintro e w2 ⟨v2, rfl, ho2, hb2⟩
  generalize Lib.decDigits u = D at *
  have HO2 : Hid (w2.ownsRow w.heap.size 5 1 v2 (1 + D.length) (Lib.byteCells ([45] ++ D))) := ho2
  have HB2 : Hid (Below w.heap.size w w2) := HB1.out.trans (hb2.mono (Nat.le_refl _))
  have hz2 := HB2.out.size
  clear HU ho2 hb2 HB1 HO HB0 HQ
  by_cases hp : p = 0
  · subst hp
    have HT2 : Hid (textL x = [45] ++ D) := by rw [HT.out]; simp [Hid]
    clear HT
    have hcv := conv_back w2 w.heap.size v2 _ _ HO2.out
    rw [← HT2.out] at hcv
    go_wp2
    go_loopg [4, 5] 0 (fun r b pt wr => b = v2 ∧ pt = .int .u64 0 ∧ wr = w2)
    case atStart => exact ⟨rfl, rfl, rfl⟩
    case round =>
      obtain ⟨rfl, rfl, rfl⟩ := hrel
      go_wp2
      go_ret
      exact ⟨rfl, HB2.out⟩
  · have hp1 : 1 ≤ p := by omega
    have HT2 : Hid (textL x = ([45] ++ D ++ [46]) ++ fracL p) := by rw [HT.out, if_neg hp]; simp [Hid]
    clear HT hp
    go_wp2_with (at_builtin; go_must (refine append_byte (by rfl) _ _ (by rfl) w.heap.size w2 v2 (1 + D.length) ([45] ++ D) (by rfl) HO2.out 46 46 (by rfl) w2.heap.size (by rfl) (by rfl) (by omega) hz2 ?_); intro v3 w3 ho3 hb3)
    go_loopg [4, 5] 32 (fun r b pt wr => TextInv w.heap.size (1 + D.length + 1) ([45] ++ D ++ [46]) p w r b pt wr)
    case atStart => exact ⟨Nat.le_refl _, p, [], rfl, hpl, by simp [Nat.mod_one], rfl, rfl, by simpa using ho3, HB2.out.trans hb3, Nat.le_trans hz2 hb3.size⟩
    case round =>
      obtain ⟨hr, P, em, rfl, hP, hmod, hel, hem, hown, hbel, hsz⟩ := hrel
      have HI : Hid (P % 2 ^ (32 - gk) = 0 ∧ em.length = 32 - gk ∧ em ++ fracN gk P = fracL p) := ⟨hmod, hel, hem⟩
      have hel2 : em.length ≤ 32 := by omega
      have HOr : Hid (wr.ownsRow w.heap.size 5 1 u4 (1 + D.length + 1 + em.length) (Lib.byteCells ([45] ++ D ++ [46] ++ em))) := hown
      have HBr : Hid (Below w.heap.size w wr) := hbel
      clear hmod hel hem hown hbel
      by_cases hP0 : P = 0
      · subst hP0
        have HT3 : Hid (textL x = [45] ++ D ++ [46] ++ em) := by
          have h := HI.out.2.2; rw [fracN_zero, List.append_nil] at h; rw [h]; exact HT2.out
        have hcv := conv_back wr w.heap.size u4 _ _ HOr.out
        rw [← HT3.out] at hcv
        clear HI HOr HT2
        go_wp2
        go_ret
        exact ⟨rfl, HBr.out⟩
      · have hP1 : 1 ≤ P := by omega
        have hm2 := and_mask ((P : Int) * 10) (by omega) (by omega)
        rw [show (P : Int) * 10 % 4294967296 = ((P * 10 % 4294967296 : Nat) : Int) by omega] at hm2
        have HC : Hid (48 + (P : Int) * 10 / 4294967296 = ((UInt8.ofNat (48 + P * 10 / 4294967296)).toNat : Int)) := digit_byte P hP
        clear hP0
        go_wp2_with (at_builtin; go_must (refine append_byte (by rfl) _ _ (by rfl) w.heap.size wr u4 (1 + D.length + 1 + em.length) ([45] ++ D ++ [46] ++ em) (by rfl) HOr.out (48 + (P : Int) * 10 / 4294967296) (UInt8.ofNat (48 + P * 10 / 4294967296)) HC.out wr.heap.size (by rfl) (by rfl) (by omega) hsz ?_); intro v4 w4 ho4 hb4)
        have HS := TextInv.step hr hP hP1 HI.out.1 HI.out.2.1 HI.out.2.2 ho4 HBr.out hb4 hsz
        go_roundg (gk - 1)
        case measure => exact HS.1
        case rel => exact HS.2
set_option maxHeartbeats 1000000 in
theorem text_pos (x : Int) (w : World) (x1 : -9223372036854775808 ≤ x) (x2 : x ≤ 9223372036854775807) (hx : ¬ x < 0) (ht : PowsAre w) :
    Calls Tryd.prog 22 #[.int .i64 x] w fun e w' => e = .returned (.string ⟨(textL x).toArray⟩) ∧ Below w.heap.size w w' := by
  have ax := absF_bd x x1 x2
  have hmk := make44
  have HO : Hid ((w.alloc (.cells zero44 5)).ownsRow w.heap.size 5 1 (.slice (some ⟨w.heap.size, 0, none⟩) 0 44) 0 (Lib.byteCells [])) := own44 w
  have HB0 : Hid (Below w.heap.size w (w.alloc (.cells zero44 5))) := (Below.refl _ w).alloc (Nat.le_refl _) _
  have HT : Hid (textL x = Lib.decDigits (x.natAbs / 4294967296) ++ (if x.natAbs % 4294967296 = 0 then [] else 46 :: fracL (x.natAbs % 4294967296))) := by
    simp only [Hid, textL]; rw [if_neg hx, List.nil_append]
  have HQ : Hid (absF x / 4294967296 = ((x.natAbs / 4294967296 : Nat) : Int)) := by unfold absF; simp only [Hid]; omega
  have hm := and_mask (absF x) (by omega) (by omega)
  rw [show absF x % 4294967296 = ((x.natAbs % 4294967296 : Nat) : Int) by unfold absF; omega] at hm
  have hpl : x.natAbs % 4294967296 < 4294967296 := Nat.mod_lt _ (by omega)
  have hul : x.natAbs / 4294967296 < 4294967296 := by omega
  generalize x.natAbs % 4294967296 = p at *
  generalize x.natAbs / 4294967296 = u at *
  have hdl := decDigits_short u hul
  go_enter Tryd.func22, Tryd.ntmps22
  go_wp2_with (first | (go_at_call 36; refine (sizeOf_any _ _ (by omega) (by omega)).mono ?_; rintro e w' ⟨rfl, hw⟩; have hw' := hw.symm; subst hw'; clear hw))
  have HB1 : Hid (Below w.heap.size w (w.alloc (.cells zero44 5))) := HB0.out
  have HU : Hid (Calls Tryd.prog 49 #[.slice (some ⟨w.heap.size, 0, none⟩) 0 44, .int .u64 (absF x / 4294967296), .int .i64 10] (w.alloc (.cells zero44 5)) fun e w' => ∃ v', e = .returned v' ∧ w'.ownsRow w.heap.size 5 1 v' (Lib.decDigits u).length (Lib.byteCells (Lib.decDigits u)) ∧ Below w.heap.size (w.alloc (.cells zero44 5)) w') := by
    have h := appendUint_any w.heap.size 0 u (by omega) (.slice (some ⟨w.heap.size, 0, none⟩) 0 44) _ (w.alloc (.cells zero44 5)) HO.out HB1.out.size (by omega) (ht.stays HB1.out)
    rw [HQ.out]
    simp only [Hid]
    simpa [Lib.byteCells] using h
  refine Calls.mono HU.out ?_
  rintro e w2 ⟨v2, rfl, ho2, hb2⟩
  generalize Lib.decDigits u = D at *
  have HO2 : Hid (w2.ownsRow w.heap.size 5 1 v2 (D.length) (Lib.byteCells (D))) := ho2
  have HB2 : Hid (Below w.heap.size w w2) := HB1.out.trans (hb2.mono (Nat.le_refl _))
  have hz2 := HB2.out.size
  clear HU ho2 hb2 HB1 HO HB0 HQ
  by_cases hp : p = 0
  · subst hp
    have HT2 : Hid (textL x = D) := by rw [HT.out]; simp [Hid]
    clear HT
    have hcv := conv_back w2 w.heap.size v2 _ _ HO2.out
    rw [← HT2.out] at hcv
    go_wp2
    go_loopg [4, 5] 0 (fun r b pt wr => b = v2 ∧ pt = .int .u64 0 ∧ wr = w2)
    case atStart => exact ⟨rfl, rfl, rfl⟩
    case round =>
      obtain ⟨rfl, rfl, rfl⟩ := hrel
      go_wp2
      go_ret
      exact ⟨rfl, HB2.out⟩
  · have hp1 : 1 ≤ p := by omega
    have HT2 : Hid (textL x = (D ++ [46]) ++ fracL p) := by rw [HT.out, if_neg hp]; simp [Hid]
    clear HT hp
    go_wp2_with (at_builtin; go_must (refine append_byte (by rfl) _ _ (by rfl) w.heap.size w2 v2 (D.length) (D) (by rfl) HO2.out 46 46 (by rfl) w2.heap.size (by rfl) (by rfl) (by omega) hz2 ?_); intro v3 w3 ho3 hb3)
    go_loopg [4, 5] 32 (fun r b pt wr => TextInv w.heap.size (D.length + 1) (D ++ [46]) p w r b pt wr)
    case atStart => exact ⟨Nat.le_refl _, p, [], rfl, hpl, by simp [Nat.mod_one], rfl, rfl, by simpa using ho3, HB2.out.trans hb3, Nat.le_trans hz2 hb3.size⟩
    case round =>
      obtain ⟨hr, P, em, rfl, hP, hmod, hel, hem, hown, hbel, hsz⟩ := hrel
      have HI : Hid (P % 2 ^ (32 - gk) = 0 ∧ em.length = 32 - gk ∧ em ++ fracN gk P = fracL p) := ⟨hmod, hel, hem⟩
      have hel2 : em.length ≤ 32 := by omega
      have HOr : Hid (wr.ownsRow w.heap.size 5 1 u4 (D.length + 1 + em.length) (Lib.byteCells (D ++ [46] ++ em))) := hown
      have HBr : Hid (Below w.heap.size w wr) := hbel
      clear hmod hel hem hown hbel
      by_cases hP0 : P = 0
      · subst hP0
        have HT3 : Hid (textL x = D ++ [46] ++ em) := by
          have h := HI.out.2.2; rw [fracN_zero, List.append_nil] at h; rw [h]; exact HT2.out
        have hcv := conv_back wr w.heap.size u4 _ _ HOr.out
        rw [← HT3.out] at hcv
        clear HI HOr HT2
        go_wp2
        go_ret
        exact ⟨rfl, HBr.out⟩
      · have hP1 : 1 ≤ P := by omega
        have hm2 := and_mask ((P : Int) * 10) (by omega) (by omega)
        rw [show (P : Int) * 10 % 4294967296 = ((P * 10 % 4294967296 : Nat) : Int) by omega] at hm2
        have HC : Hid (48 + (P : Int) * 10 / 4294967296 = ((UInt8.ofNat (48 + P * 10 / 4294967296)).toNat : Int)) := digit_byte P hP
        clear hP0
        go_wp2_with (at_builtin; go_must (refine append_byte (by rfl) _ _ (by rfl) w.heap.size wr u4 (D.length + 1 + em.length) (D ++ [46] ++ em) (by rfl) HOr.out (48 + (P : Int) * 10 / 4294967296) (UInt8.ofNat (48 + P * 10 / 4294967296)) HC.out wr.heap.size (by rfl) (by rfl) (by omega) hsz ?_); intro v4 w4 ho4 hb4)
        have HS := TextInv.step hr hP hP1 HI.out.1 HI.out.2.1 HI.out.2.2 ho4 HBr.out hb4 hsz
        go_roundg (gk - 1)
        case measure => exact HS.1
        case rel => exact HS.2

theorem text_any (x : Int) (w : World) (x1 : -9223372036854775808 ≤ x) (x2 : x ≤ 9223372036854775807) (ht : PowsAre w) :
    Calls Tryd.prog 22 #[.int .i64 x] w fun e w' => e = .returned (.string ⟨(textL x).toArray⟩) ∧ Below w.heap.size w w' := by
  by_cases hx : x < 0
  · exact text_neg x w x1 x2 hx ht
  · exact text_pos x w x1 x2 hx ht
end Go.Proofs.YtapdnahjcadpeaaDoor
