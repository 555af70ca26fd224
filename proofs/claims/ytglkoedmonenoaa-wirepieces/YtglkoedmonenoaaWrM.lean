/- Frames as bytes: numbers and lists alone. -/
import Derived.Test.YtglkoedmonenoaaLaid
import Derived.Test.YtglkoedmonenoaaPut
import Derived.Test.YtglkoedmonenoaaCrc
namespace Go.Proofs.Ytglkoedmonenoaa
set_option linter.unusedVariables false
set_option maxRecDepth 100000

theorem foldV0_bd (l : List UInt8) : 0 ≤ foldV 0 l ∧ foldV 0 l < 256 ^ l.length := by
  have := foldV_bd l 0
  simpa using this
theorem foldV0_cons (c : UInt8) (l : List UInt8) : foldV 0 (c :: l) = (c.toNat : Int) * 256 ^ l.length + foldV 0 l := by
  have e : foldV 0 (c :: l) = foldV (0 * 256 + (c.toNat : Int)) l := rfl
  rw [e, foldV_from]; simp
theorem foldV0_inj : ∀ (l m : List UInt8), l.length = m.length → foldV 0 l = foldV 0 m → l = m
  | [], [], _, _ => rfl
  | [], _ :: _, h, _ => by simp at h
  | _ :: _, [], h, _ => by simp at h
  | c :: l, d :: m, h, e => by
    have hl : l.length = m.length := by simpa using h
    rw [foldV0_cons, foldV0_cons, hl] at e
    have b1 := foldV0_bd l
    have b2 := foldV0_bd m
    rw [hl] at b1
    have hp : (0 : Int) < 256 ^ m.length := Int.pow_pos (by omega)
    generalize hP : (256 : Int) ^ m.length = p at *
    have hc : (c.toNat : Int) = d.toNat := by
      rcases Int.lt_trichotomy (c.toNat : Int) d.toNat with h1 | h1 | h1
      · have : ((c.toNat : Int) + 1) * p ≤ (d.toNat : Int) * p := Int.mul_le_mul_of_nonneg_right (by omega) (by omega)
        rw [Int.add_mul] at this; omega
      · exact h1
      · have : ((d.toNat : Int) + 1) * p ≤ (c.toNat : Int) * p := Int.mul_le_mul_of_nonneg_right (by omega) (by omega)
        rw [Int.add_mul] at this; omega
    have hcd : c = d := UInt8.toNat_inj.1 (by omega)
    subst hcd
    rw [foldV0_inj l m hl (by omega)]
theorem put_mod (n : Nat) (V U : Int) (h : V % 256 ^ n = U % 256 ^ n) : putL n V = putL n U :=
  foldV0_inj _ _ (by rw [putL_len, putL_len]) (by rw [foldV_put, foldV_put, h])
theorem put_get (l : List UInt8) (n : Nat) (h : l.length = n) : putL n (getV l) = l := by
  subst h
  refine foldV0_inj _ _ (putL_len _ _) ?_
  rw [foldV_put]
  unfold getV
  have := foldV0_bd l
  rw [foldV_from, Int.add_comm, Int.add_mul_emod_self_right, Int.emod_eq_of_lt this.1 this.2]

/-- A piece of a list. -/
def sub (l : List UInt8) (i n : Nat) : List UInt8 := (l.drop i).take n
theorem sub_len (l : List UInt8) (i n : Nat) (h : i + n ≤ l.length) : (sub l i n).length = n := by simp [sub]; omega
theorem sub_take (l : List UInt8) (k i n : Nat) (h : i + n ≤ k) : sub (l.take k) i n = sub l i n := by
  simp only [sub, List.drop_take, List.take_take]; rw [Nat.min_eq_left (by omega)]
theorem sub_app (a b c : List UInt8) (i n : Nat) (hi : i = a.length) (hn : n = b.length) : sub (a ++ (b ++ c)) i n = b := by
  subst hi hn; simp [sub]
theorem sub_shift (a c : List UInt8) (i n j : Nat) (hj : j = a.length + i) : sub (a ++ c) j n = sub c i n := by
  subst hj; simp only [sub, List.drop_append]; rw [List.drop_eq_nil_of_le (by omega), show a.length + i - a.length = i by omega]; rfl
theorem take_add (l : List UInt8) (i n : Nat) : l.take (i + n) = l.take i ++ sub l i n := by simp [sub, List.take_add]
theorem getD_take (l : List UInt8) (k i : Nat) (h : i < k) : (l.take k).getD i 0 = l.getD i 0 := by
  rw [List.getD_eq_getElem?_getD, List.getD_eq_getElem?_getD, List.getElem?_take_of_lt h]
theorem getD_shift (a c : List UInt8) (i j : Nat) (hj : j = a.length + i) : (a ++ c).getD j 0 = c.getD i 0 := by
  subst hj; rw [List.getD_eq_getElem?_getD, List.getD_eq_getElem?_getD, List.getElem?_append_right (by omega)]; simp
theorem sub_one (l : List UInt8) (i : Nat) (h : i < l.length) : sub l i 1 = [l.getD i 0] := by
  unfold sub
  rw [List.drop_eq_getElem_cons h, List.getD_eq_getElem?_getD, List.getElem?_eq_getElem h]; rfl

/-- A frame: its numbers, its bytes. -/
structure FrV where
  k : Int
  fr : Int
  t : Int
  zs : List Int
  d : List UInt8
def FrV.argB (f : FrV) : Bool := (decide (0 ≤ f.k) && decide (f.k ≤ 9)) && (decide (0 ≤ f.fr) && decide (f.fr ≤ 255)) && (decide (0 ≤ f.t) && decide (f.t ≤ 140737488355327))
def FrV.longB (f : FrV) : Bool := decide (f.zs.length ≤ 100) && decide (f.d.length ≤ 60000)
/-- Why it can't be put. -/
def FrV.err (f : FrV) : Int := if f.argB then (if f.longB then 0 else 2) else 1
structure FrV.Ok (f : FrV) : Prop where
  k : 0 ≤ f.k ∧ f.k ≤ 9
  fr : 0 ≤ f.fr ∧ f.fr ≤ 255
  t : 0 ≤ f.t ∧ f.t ≤ 140737488355327
  n : f.zs.length ≤ 100
  d : f.d.length ≤ 60000
theorem FrV.err_ok {f : FrV} (h : f.err = 0) : f.Ok := by
  unfold FrV.err at h
  split at h
  · rename_i h1
    split at h
    · rename_i h2
      simp only [FrV.argB, FrV.longB, Bool.and_eq_true, decide_eq_true_eq] at h1 h2
      exact ⟨h1.1.1, h1.1.2, h1.2, h2.1, h2.2⟩
    · omega
  · omega
def headL (f : FrV) : List UInt8 := [165, UInt8.ofNat f.k.toNat, UInt8.ofNat f.fr.toNat] ++ (putL 6 f.t ++ [UInt8.ofNat f.zs.length])
def numsL (zs : List Int) : List UInt8 := zs.flatMap (putL 8)
def bodyL (f : FrV) : List UInt8 := headL f ++ (numsL f.zs ++ (putL 2 f.d.length ++ f.d))
def sumL8 (l : List UInt8) : List UInt8 := putL 5 (4294967295 - (crcL l : Int))
def frameL (f : FrV) : List UInt8 := bodyL f ++ sumL8 (bodyL f)
theorem headL_len (f : FrV) : (headL f).length = 10 := by simp [headL, putL_len]
theorem numsL_len (zs : List Int) : (numsL zs).length = zs.length * 8 := by
  induction zs with
  | nil => rfl
  | cons z zs ih => simp only [numsL, List.flatMap_cons, List.length_append, List.length_cons, putL_len] at *; omega
theorem bodyL_len (f : FrV) : (bodyL f).length = 12 + f.zs.length * 8 + f.d.length := by
  simp only [bodyL, List.length_append, headL_len, numsL_len, putL_len]; omega
theorem frameL_len (f : FrV) : (frameL f).length = 12 + f.zs.length * 8 + f.d.length + 5 := by
  simp only [frameL, List.length_append, bodyL_len, sumL8, putL_len]

/-! Reading. -/
def above (l : List UInt8) (i m : Nat) : Bool := decide (i < l.length) && decide (m < (l.getD i 0).toNat)
def noBegin (l : List UInt8) : Bool := decide (0 < l.length) && (l.getD 0 0 != 165)
def badHead (l : List UInt8) : Bool := noBegin l || above l 1 9 || above l 3 127 || above l 9 100
def cntL (l : List UInt8) : Nat := (l.getD 9 0).toNat
def longAt (l : List UInt8) : Nat := 10 + cntL l * 8
def longL (l : List UInt8) : Nat := (getV (sub l (longAt l) 2) % 65536).toNat
def lensE (l : List UInt8) : Int := if badHead l then 4 else if l.length < 10 then 5 else if above l (longAt l) 234 then 4 else if l.length < longAt l + 2 then 5 else if 60000 < longL l then 4 else 0
def sumAt (l : List UInt8) : Nat := longAt l + 2 + longL l
def sumE (l : List UInt8) (i : Nat) : Int := if l.length ≤ i then 5 else if (sub l i 5).isPrefixOf (sumL8 (l.take i)) then (if l.length < i + 5 then 5 else 0) else 4
def readE (l : List UInt8) : Int := if lensE l = 0 then sumE l (sumAt l) else lensE l
def readF (l : List UInt8) : FrV := ⟨(l.getD 1 0).toNat, (l.getD 2 0).toNat, getV (sub l 3 6), (List.range (cntL l)).map fun i => getV (sub l (10 + i * 8) 8), sub l (longAt l + 2) (longL l)⟩
def readN (l : List UInt8) : Nat := sumAt l + 5

theorem ofNat_toNat' (c : UInt8) : UInt8.ofNat c.toNat = c := by simp
theorem numsL_of (l : List UInt8) (n : Nat) (h : 10 + n * 8 ≤ l.length) : numsL ((List.range n).map fun i => getV (sub l (10 + i * 8) 8)) = sub l 10 (n * 8) := by
  induction n with
  | zero => simp [numsL, sub]
  | succ n ih =>
    have e : numsL ((List.range (n + 1)).map fun i => getV (sub l (10 + i * 8) 8)) = numsL ((List.range n).map fun i => getV (sub l (10 + i * 8) 8)) ++ putL 8 (getV (sub l (10 + n * 8) 8)) := by
      simp [numsL, List.range_succ]
    rw [e, ih (by omega), put_get _ 8 (sub_len _ _ _ (by omega))]
    unfold sub
    rw [show (n + 1) * 8 = n * 8 + 8 by omega, List.take_add, List.drop_drop]
/-- What is read is the frame of the bytes that it takes. -/
theorem read_back (l : List UInt8) (h : readE l = 0) : frameL (readF l) = l.take (readN l) ∧ readN l ≤ l.length ∧ (readF l).zs.length = cntL l ∧ (readF l).Ok := by
  unfold readE at h
  split at h
  case isFalse h0 => exact absurd h h0
  rename_i h0
  unfold lensE at h0
  split at h0; · omega
  rename_i hb
  split at h0; · omega
  rename_i h10
  split at h0; · omega
  rename_i ha
  split at h0; · omega
  rename_i hl2
  split at h0; · omega
  rename_i h6
  unfold sumE at h
  split at h; · omega
  rename_i hs
  split at h
  case isFalse => omega
  rename_i hp
  split at h; · omega
  rename_i hlen
  simp only [badHead, noBegin, above, Bool.or_eq_true, Bool.and_eq_true, decide_eq_true_eq, not_or, not_and, bne_iff_ne, ne_eq, Classical.not_not, Nat.not_lt] at hb
  obtain ⟨⟨⟨b0, b1⟩, b3⟩, b9⟩ := hb
  have b0 := b0 (by omega)
  have b1 := b1 (by omega)
  have b3 := b3 (by omega)
  have b9 := b9 (by omega)
  have hc : cntL l ≤ 100 := b9
  have hsum : sumAt l = longAt l + 2 + longL l := rfl
  have hat : longAt l = 10 + cntL l * 8 := rfl
  have hbody : bodyL (readF l) = l.take (sumAt l) := by
    have e1 : headL (readF l) = l.take 10 := by
      have t10 : l.take 10 = ((((sub l 0 1 ++ sub l 1 1) ++ sub l 2 1) ++ sub l 3 6) ++ sub l 9 1) := by
        rw [show (10 : Nat) = 9 + 1 from rfl, take_add, show (9 : Nat) = 3 + 6 from rfl, take_add, show (3 : Nat) = 2 + 1 from rfl, take_add, show (2 : Nat) = 1 + 1 from rfl, take_add, show (1 : Nat) = 0 + 1 from rfl, take_add]; simp
      have p6 : putL 6 (readF l).t = sub l 3 6 := put_get _ 6 (sub_len _ _ _ (by omega))
      have z : (readF l).zs.length = cntL l := by simp [readF]
      rw [t10, sub_one l 0 (by omega), sub_one l 1 (by omega), sub_one l 2 (by omega), sub_one l 9 (by omega), b0]
      simp only [headL, p6, z]
      simp [readF, cntL]
    have e2 : numsL (readF l).zs = sub l 10 (cntL l * 8) := numsL_of l (cntL l) (by omega)
    have e3 : (readF l).d.length = longL l := sub_len _ _ _ (by omega)
    have e4 : putL 2 ((readF l).d.length : Int) = sub l (longAt l) 2 := by
      rw [e3, ← put_get (sub l (longAt l) 2) 2 (sub_len _ _ _ (by omega))]
      refine put_mod _ _ _ ?_
      have hv : (longL l : Int) = getV (sub l (longAt l) 2) % 65536 := by unfold longL; omega
      rw [hv, show (256 : Int) ^ 2 = 65536 from rfl]; omega
    have e5 : (readF l).d = sub l (longAt l + 2) (longL l) := rfl
    rw [hsum, take_add, take_add, hat, take_add, ← hat, ← e1, ← e2, ← e4, ← e5]
    simp [bodyL]
  have hz : (readF l).zs.length = cntL l := by simp [readF]
  have h128 : 0 ≤ getV (sub l 3 6) ∧ getV (sub l 3 6) ≤ 140737488355327 := by
    have hs6 := sub_len l 3 6 (by omega)
    have e : sub l 3 6 = l.getD 3 0 :: sub l 4 5 := by
      unfold sub
      rw [List.drop_eq_getElem_cons (by omega), List.getD_eq_getElem?_getD, List.getElem?_eq_getElem (by omega)]; rfl
    rw [e, getV_cons]
    have hh : headS (l.getD 3 0) = ((l.getD 3 0).toNat : Int) := by unfold headS; rw [if_neg (by omega)]
    rw [hh]
    have := foldV_bd (sub l 4 5) ((l.getD 3 0).toNat : Int)
    rw [sub_len l 4 5 (by omega), show (256 : Int) ^ 5 = 1099511627776 from rfl] at this
    omega
  refine ⟨?_, by unfold readN; omega, hz, ⟨⟨by simp [readF], by simp only [readF]; omega⟩, ⟨by simp [readF], ?_⟩, h128, by rw [hz]; exact hc, ?_⟩⟩
  · unfold frameL readN
    rw [hbody, take_add]
    congr 1
    have hpre := List.isPrefixOf_iff_prefix.1 hp
    exact (hpre.eq_of_length (by rw [sub_len _ _ _ (by omega)]; simp [sumL8, putL_len])).symm
  · have := (l.getD 2 0).toNat_lt; simp only [readF]; omega
  · show (sub l (longAt l + 2) (longL l)).length ≤ 60000
    rw [sub_len _ _ _ (by omega)]; omega

theorem fits6 (t : Int) (h : 0 ≤ t ∧ t ≤ 140737488355327) : getV (putL 6 t) = t := (get_put t 6 (by omega) (by omega)).2 (by unfold fitsB; simp; omega)
theorem fits8 (z : Int) (h : -9223372036854775808 ≤ z ∧ z ≤ 9223372036854775807) : getV (putL 8 z) = z := (get_put z 8 (by omega) (by omega)).2 (by unfold fitsB; simp; omega)
theorem get2 (n : Nat) (h : n < 65536) : (getV (putL 2 (n : Int)) % 65536).toNat = n := by
  unfold getV
  rw [foldV_from, foldV_put, putL_len, show (256 : Int) ^ 2 = 65536 from rfl]
  omega
theorem nums_at (zs : List Int) (c : List UInt8) (i : Nat) (h : i < zs.length) : sub (numsL zs ++ c) (i * 8) 8 = putL 8 (zs.getD i 0) := by
  induction zs generalizing i with
  | nil => simp at h
  | cons z zs ih =>
    have e : numsL (z :: zs) ++ c = putL 8 z ++ (numsL zs ++ c) := by simp [numsL]
    rw [e]
    cases i with
    | zero => exact sub_app [] (putL 8 z) _ _ _ rfl (putL_len _ _).symm
    | succ i =>
      rw [sub_shift (putL 8 z) _ (i * 8) 8 _ (by rw [putL_len]; omega), ih i (by simpa using h)]
      simp
/-- What is read of a frame's bytes, as far as they are there. -/
theorem read_frame (f : FrV) (hf : f.Ok) (hz : ∀ z ∈ f.zs, -9223372036854775808 ≤ z ∧ z ≤ 9223372036854775807) (r : List UInt8) (k : Nat) (hk : k ≤ (frameL f ++ r).length) :
    (k < (frameL f).length → readE ((frameL f ++ r).take k) = 5) ∧
    ((frameL f).length ≤ k → readE ((frameL f ++ r).take k) = 0 ∧ readF ((frameL f ++ r).take k) = f ∧ readN ((frameL f ++ r).take k) = (frameL f).length) := by
  obtain ⟨f1, f2, f3, f4, f5⟩ := hf
  have hlen := frameL_len f
  generalize hF : frameL f ++ r = F at *
  have F1 : F = [165, UInt8.ofNat f.k.toNat, UInt8.ofNat f.fr.toNat] ++ (putL 6 f.t ++ ([UInt8.ofNat f.zs.length] ++ (numsL f.zs ++ (putL 2 f.d.length ++ (f.d ++ (sumL8 (bodyL f) ++ r)))))) := by
    rw [← hF]; simp [frameL, bodyL, headL]
  have F2 : F = headL f ++ (numsL f.zs ++ (putL 2 f.d.length ++ (f.d ++ (sumL8 (bodyL f) ++ r)))) := by
    rw [← hF]; simp [frameL, bodyL]
  have F3 : F = bodyL f ++ (sumL8 (bodyL f) ++ r) := by rw [← hF]; simp [frameL]
  have lenH := headL_len f
  have lenN := numsL_len f.zs
  have lenB := bodyL_len f
  have g0 : F.getD 0 0 = 165 := by rw [F1]; rfl
  have g1 : ((F.getD 1 0).toNat : Int) = f.k := by
    rw [F1]; simp; omega
  have g2 : ((F.getD 2 0).toNat : Int) = f.fr := by
    rw [F1]; simp; omega
  have g3 : (F.getD 3 0).toNat ≤ 127 := by
    rw [F1, getD_shift _ _ 0 3 rfl]
    have e : (putL 6 f.t ++ ([UInt8.ofNat f.zs.length] ++ (numsL f.zs ++ (putL 2 f.d.length ++ (f.d ++ (sumL8 (bodyL f) ++ r)))))).getD 0 0 = (putL 6 f.t).getD 0 0 := by
      rw [List.getD_eq_getElem?_getD, List.getD_eq_getElem?_getD, List.getElem?_append_left (by rw [putL_len]; omega)]
    rw [e, putL_at 6 f.t 0 (by omega)]
    have := byteAt_toNat f.t 5
    rw [show (256 : Int) ^ 5 = 1099511627776 from rfl] at this
    show (byteAt f.t 5).toNat ≤ 127; omega
  have g9 : (F.getD 9 0).toNat = f.zs.length := by
    rw [F1, getD_shift _ _ 6 9 rfl, getD_shift (putL 6 f.t) _ 0 6 (by rw [putL_len])]
    simp; omega
  have gl : (F.getD (10 + f.zs.length * 8) 0).toNat ≤ 234 := by
    rw [F2, getD_shift (headL f) _ (f.zs.length * 8) _ (by rw [lenH]), getD_shift (numsL f.zs) _ 0 _ (by rw [lenN]; omega)]
    have e : (putL 2 f.d.length ++ (f.d ++ (sumL8 (bodyL f) ++ r))).getD 0 0 = (putL 2 f.d.length).getD 0 0 := by
      rw [List.getD_eq_getElem?_getD, List.getD_eq_getElem?_getD, List.getElem?_append_left (by rw [putL_len]; omega)]
    rw [e, putL_at 2 _ 0 (by omega)]
    have := byteAt_toNat f.d.length 1
    rw [show (256 : Int) ^ 1 = 256 from rfl] at this
    show (byteAt (f.d.length : Int) 1).toNat ≤ 234; omega
  have s2 : sub F (10 + f.zs.length * 8) 2 = putL 2 f.d.length := by
    rw [F2, sub_shift (headL f) _ (f.zs.length * 8) 2 _ (by rw [lenH]), sub_shift (numsL f.zs) _ 0 2 _ (by rw [lenN]; omega)]
    exact sub_app [] (putL 2 f.d.length) _ 0 2 rfl (putL_len _ _).symm
  have s6 : sub F 3 6 = putL 6 f.t := by rw [F1]; exact sub_app _ (putL 6 f.t) _ 3 6 rfl (putL_len _ _).symm
  have sd : sub F (10 + f.zs.length * 8 + 2) f.d.length = f.d := by
    rw [F2, sub_shift (headL f) _ (f.zs.length * 8 + 2) _ _ (by rw [lenH]; omega), sub_shift (numsL f.zs) _ 2 _ _ (by rw [lenN])]
    exact sub_app (putL 2 f.d.length) _ _ _ _ (putL_len _ _).symm rfl
  have sn : ∀ i, i < f.zs.length → sub F (10 + i * 8) 8 = putL 8 (f.zs.getD i 0) := fun i hi => by
    rw [F2, sub_shift (headL f) _ (i * 8) 8 _ (by rw [lenH])]
    exact nums_at _ _ i hi
  have tb : F.take (12 + f.zs.length * 8 + f.d.length) = bodyL f := by rw [F3, ← lenB]; exact List.take_left
  have ss : sub F (12 + f.zs.length * 8 + f.d.length) 5 = sumL8 (bodyL f) := by
    rw [F3]; exact sub_app _ _ _ _ _ lenB.symm (by simp [sumL8, putL_len])
  have lenF : 12 + f.zs.length * 8 + f.d.length + 5 ≤ F.length := by rw [← hF, List.length_append, hlen]; omega
  clear hF F1 F2 F3
  rw [hlen]
  have lk : (F.take k).length = k := by rw [List.length_take]; omega
  have gk : ∀ i, i < k → (F.take k).getD i 0 = F.getD i 0 := fun i hi => getD_take F k i hi
  have hbad : badHead (F.take k) = false := by
    have a : ∀ i m, (F.getD i 0).toNat ≤ m → above (F.take k) i m = false := fun i m h => by
      unfold above
      rw [lk]
      by_cases hi : i < k
      · rw [gk i hi, decide_eq_false (show ¬ m < (F.getD i 0).toNat by omega), Bool.and_false]
      · simp [hi]
    have b : noBegin (F.take k) = false := by
      unfold noBegin
      rw [lk]
      by_cases hi : 0 < k
      · rw [gk 0 hi, g0]; simp
      · simp [hi]
    unfold badHead
    rw [b, a 1 9 (by omega), a 3 127 g3, a 9 100 (by omega)]; rfl
  by_cases c1 : k < 10
  · have : readE (F.take k) = 5 := by
      have e : lensE (F.take k) = 5 := by unfold lensE; rw [hbad, lk, if_neg (by simp), if_pos c1]
      unfold readE; rw [e]; rfl
    exact ⟨fun _ => this, fun h => by omega⟩
  have hcnt : cntL (F.take k) = f.zs.length := by unfold cntL; rw [gk 9 (by omega), g9]
  have hla : longAt (F.take k) = 10 + f.zs.length * 8 := by unfold longAt; rw [hcnt]
  have hab : above (F.take k) (10 + f.zs.length * 8) 234 = false := by
    unfold above
    rw [lk]
    by_cases hi : 10 + f.zs.length * 8 < k
    · rw [gk _ hi, decide_eq_false (show ¬ 234 < (F.getD (10 + f.zs.length * 8) 0).toNat by omega), Bool.and_false]
    · simp [hi]
  by_cases c2 : k < 10 + f.zs.length * 8 + 2
  · have : readE (F.take k) = 5 := by
      have e : lensE (F.take k) = 5 := by unfold lensE; rw [hbad, lk, hla, hab, if_neg (by simp), if_neg c1, if_neg (by simp), if_pos c2]
      unfold readE; rw [e]; rfl
    exact ⟨fun _ => this, fun h => by omega⟩
  have hlo : longL (F.take k) = f.d.length := by
    unfold longL; rw [hla, sub_take _ _ _ _ (by omega), s2, get2 _ (by omega)]
  have e0 : lensE (F.take k) = 0 := by
    unfold lensE; rw [hbad, lk, hla, hab, hlo, if_neg (by simp), if_neg c1, if_neg (by simp), if_neg c2, if_neg (by omega)]
  have hsa : sumAt (F.take k) = 12 + f.zs.length * 8 + f.d.length := by unfold sumAt; rw [hla, hlo]; omega
  by_cases c3 : k ≤ 12 + f.zs.length * 8 + f.d.length
  · have : readE (F.take k) = 5 := by
      unfold readE; rw [if_pos e0, hsa]; unfold sumE; rw [lk, if_pos c3]
    exact ⟨fun _ => this, fun h => by omega⟩
  have hpre : (sub (F.take k) (12 + f.zs.length * 8 + f.d.length) 5).isPrefixOf (sumL8 ((F.take k).take (12 + f.zs.length * 8 + f.d.length))) = true := by
    rw [List.isPrefixOf_iff_prefix, List.take_take, Nat.min_eq_left (by omega), tb]
    have : sub (F.take k) (12 + f.zs.length * 8 + f.d.length) 5 = (sub F (12 + f.zs.length * 8 + f.d.length) 5).take (k - (12 + f.zs.length * 8 + f.d.length)) := by
      simp only [sub, List.drop_take, List.take_take]; rw [Nat.min_comm]
    rw [this, ss]; exact List.take_prefix _ _
  constructor
  · intro h
    unfold readE; rw [if_pos e0, hsa]; unfold sumE; rw [lk, if_neg c3, if_pos hpre, if_pos h]
  · intro h
    refine ⟨?_, ?_, by unfold readN; rw [hsa]⟩
    · unfold readE; rw [if_pos e0, hsa]; unfold sumE; rw [lk, if_neg c3, if_pos hpre, if_neg (by omega)]
    · unfold readF
      rw [gk 1 (by omega), gk 2 (by omega), g1, g2, sub_take _ _ 3 6 (by omega), s6, fits6 _ f3, hcnt, hla, hlo, sub_take _ _ _ _ (by omega), sd]
      have : (List.range f.zs.length).map (fun i => getV (sub (F.take k) (10 + i * 8) 8)) = f.zs := by
        apply List.ext_getElem
        · simp
        · intro i h1 h2
          simp only [List.getElem_map, List.getElem_range]
          rw [sub_take _ _ _ _ (by omega), sn i h2]
          have e : f.zs.getD i 0 = f.zs[i] := by rw [List.getD_eq_getElem?_getD, List.getElem?_eq_getElem h2]; rfl
          rw [e, fits8 _ (hz _ (List.getElem_mem h2))]
      rw [this]
theorem read_whole (f : FrV) (hf : f.Ok) (hz : ∀ z ∈ f.zs, -9223372036854775808 ≤ z ∧ z ≤ 9223372036854775807) (r : List UInt8) : readE (frameL f ++ r) = 0 ∧ readF (frameL f ++ r) = f ∧ readN (frameL f ++ r) = (frameL f).length := by
  have := (read_frame f hf hz r (frameL f ++ r).length (Nat.le_refl _)).2 (by simp)
  rw [List.take_length] at this; exact this
theorem read_part (f : FrV) (hf : f.Ok) (hz : ∀ z ∈ f.zs, -9223372036854775808 ≤ z ∧ z ≤ 9223372036854775807) (k : Nat) (hk : k < (frameL f).length) : readE ((frameL f).take k) = 5 := by
  have := (read_frame f hf hz [] k (by simp; omega)).1 hk
  rw [List.append_nil] at this; exact this
/-- What stands behind the longest frame is never looked at. -/
theorem read_cut (l : List UInt8) (n : Nat) (hn : 60817 ≤ n) : readE (l.take n) = readE l ∧ (readE l = 0 → readF (l.take n) = readF l ∧ readN (l.take n) = readN l) := by
  by_cases hl : l.length ≤ n
  · rw [List.take_of_length_le hl]; exact ⟨rfl, fun _ => ⟨rfl, rfl⟩⟩
  have lk : (l.take n).length = n := by rw [List.length_take]; omega
  have gk : ∀ i, i < n → (l.take n).getD i 0 = l.getD i 0 := fun i hi => getD_take l n i hi
  have ab : ∀ i m, i < n → above (l.take n) i m = above l i m := fun i m h => by
    unfold above; rw [lk, gk i h]; simp [h, show i < l.length by omega]
  have hb : badHead (l.take n) = badHead l := by
    have : noBegin (l.take n) = noBegin l := by unfold noBegin; rw [lk, gk 0 (by omega)]; simp [show 0 < n by omega, show 0 < l.length by omega]
    unfold badHead; rw [this, ab 1 9 (by omega), ab 3 127 (by omega), ab 9 100 (by omega)]
  have hc : cntL (l.take n) = cntL l := by unfold cntL; rw [gk 9 (by omega)]
  have hla : longAt (l.take n) = longAt l := by unfold longAt; rw [hc]
  have c1 : cntL l ≤ 255 := by unfold cntL; have := (l.getD 9 0).toNat_lt; omega
  have hat : longAt l = 10 + cntL l * 8 := rfl
  have hlo : longL (l.take n) = longL l := by unfold longL; rw [hla, sub_take _ _ _ _ (by omega)]
  have hE : lensE (l.take n) = lensE l := by
    unfold lensE
    rw [hb, lk, hla, hlo, ab _ 234 (by omega), if_neg (show ¬ n < 10 by omega), if_neg (show ¬ l.length < 10 by omega), if_neg (show ¬ n < longAt l + 2 by omega), if_neg (show ¬ l.length < longAt l + 2 by omega)]
  by_cases h0 : lensE l = 0
  · have h6 : longL l ≤ 60000 ∧ cntL l ≤ 100 := by
      have h := h0
      unfold lensE at h
      split at h; · omega
      rename_i hb'
      simp only [badHead, noBegin, above, Bool.or_eq_true, Bool.and_eq_true, decide_eq_true_eq, not_or, not_and, bne_iff_ne, ne_eq, Classical.not_not, Nat.not_lt] at hb'
      have := hb'.2 (by omega)
      split at h; · omega
      split at h; · omega
      split at h; · omega
      split at h; · omega
      exact ⟨by omega, this⟩
    have hsum : sumAt l = longAt l + 2 + longL l := rfl
    have hsa : sumAt (l.take n) = sumAt l := by unfold sumAt; rw [hla, hlo]
    have hS : sumE (l.take n) (sumAt l) = sumE l (sumAt l) := by
      unfold sumE
      rw [lk, sub_take _ _ _ _ (by omega), List.take_take, Nat.min_eq_left (by omega), if_neg (show ¬ n ≤ sumAt l by omega), if_neg (show ¬ l.length ≤ sumAt l by omega), if_neg (show ¬ n < sumAt l + 5 by omega), if_neg (show ¬ l.length < sumAt l + 5 by omega)]
    refine ⟨by unfold readE; rw [hE, hsa, hS], fun _ => ⟨?_, by unfold readN; rw [hsa]⟩⟩
    unfold readF
    rw [gk 1 (by omega), gk 2 (by omega), sub_take _ _ 3 6 (by omega), hc, hla, hlo, sub_take _ _ _ _ (by omega)]
    have : (List.range (cntL l)).map (fun i => getV (sub (l.take n) (10 + i * 8) 8)) = (List.range (cntL l)).map (fun i => getV (sub l (10 + i * 8) 8)) := by
      apply List.map_congr_left
      intro i hi
      have := List.mem_range.1 hi
      rw [sub_take _ _ _ _ (by omega)]
    rw [this]
  · refine ⟨by unfold readE; rw [hE, if_neg h0, if_neg h0], fun h => ?_⟩
    unfold readE at h; rw [if_neg h0] at h; exact absurd h h0
end Go.Proofs.Ytglkoedmonenoaa
