/- The contracts of kinds' add and NewNames. Conditions: names of at most 2^63 - 1 bytes. -/
import Derived.Test.YtjnnjjajlafchaaKnC
import Derived.Deep.RegionHeld3
namespace Go.Proofs.Ytjnnjjajlafchaa
open Go.RowKit
set_option linter.unusedVariables false
set_option maxRecDepth 100000

def sigC (x : Sig) : List Value := [.string x.name, .string x.unit, .int .i64 x.lo, .int .i64 x.hi]
theorem sigC_len (x : Sig) : (sigC x).length = 4 := rfl
theorem sigC_one (x : Sig) : ∀ u ∈ sigC x, u.oneCell' = true := by
  intro u hu
  simp only [sigC, List.mem_cons, List.not_mem_nil, or_false] at hu
  rcases hu with rfl | rfl | rfl | rfl <;> rfl
def OSig (W : World) (B : Nat) (v : Value) (l : List Sig) : Prop := Own sigC 27 4 W B v l
theorem OSig.row {W : World} {B : Nat} {v : Value} {l : List Sig} (h : OSig W B v l) : ∃ a cap, v = .slice a l.length cap ∧ SigRow W a l ∧ ∀ g, v.ownBlock = some g → g < W.heap.size := by
  obtain ⟨a, cap, rfl, h1, h2, h3⟩ := Own.sl sigC_len sig0 h
  refine ⟨a, cap, rfl, fun i hi => ?_, fun g hg => (Own.lt h g hg).2⟩
  obtain ⟨g, rfl, _, _, hj⟩ := h3 i hi
  refine ⟨g, 0, rfl, ?_, ?_, ?_, ?_⟩
  · have := hj 0 (by omega); simpa [sigC] using this
  · have := hj 1 (by omega); simpa [sigC] using this
  · have := hj 2 (by omega); simpa [sigC] using this
  · have := hj 3 (by omega); simpa [sigC] using this
/-- Names at p that are being made: all of theirs lies from block B on. -/
structure NmOwn (W : World) (B p : Nat) (v : Value) (l : List Sig) : Prop where
  cell : W.cell? ⟨p, 0, none⟩ = some v
  frz : W.frozen? ⟨p, 0, none⟩ = false
  own : OSig W B v l
  base : B ≤ p
  ne : v.ownBlock ≠ some p
theorem NmOwn.at {W : World} {B p : Nat} {v : Value} {l : List Sig} (h : NmOwn W B p v l) : NmAt W p l := by
  obtain ⟨a, cap, rfl, hr, _⟩ := h.own.row
  exact ⟨a, cap, h.cell, hr⟩
theorem NmOwn.below {W W' : World} {B p : Nat} {v : Value} {l : List Sig} (h : NmOwn W B p v l) (k : Below W.heap.size W W') : NmOwn W' B p v l := by
  have hlt := World.block_lt_of_cell? W _ h.cell
  exact ⟨by rw [k.cell (p := ⟨p, 0, none⟩) hlt]; exact h.cell, by rw [k.frozen (p := ⟨p, 0, none⟩) hlt]; exact h.frz, Own.below h.own k, h.base, h.ne⟩
theorem infoSig : (Try.prog.info? 27).map (fun i => (i.zero, i.size, i.bytes)) = some (some (.agg #[.string ⟨#[]⟩, .string ⟨#[]⟩, .int .i64 0, .int .i64 0]), 4, 48) := by kernel_rfl
def isNameB (s : ByteArray) : Bool := isNameL s.data.toList
theorem isNameB_any (s : ByteArray) (w : World) (hs : s.size ≤ 9223372036854775807) :
    Calls Try.prog 39 #[.string s] w fun e w' => e = .returned (.bool (isNameB s)) ∧ w' = w := by
  have := isName_any s.data.toList w (by simpa using hs)
  rw [strL_of] at this; exact this
/-- What add tells of a signal. -/
def addE (l : List Sig) (x : Sig) : Int := if isNameB x.name = false ∨ hasB l x.name = true then 40 else if x.hi < x.lo then 42 else 0
set_option maxHeartbeats 1000000 in
theorem add_bad (p B : Nat) (v : Value) (l : List Sig) (x : Sig) (W : World) (h : NmOwn W B p v l) (hl : l.length ≤ 1000) (hs : x.name.size ≤ 9223372036854775807) (he : addE l x ≠ 0) :
    Calls Try.prog 23 #[.pointer (some ⟨p, 0, none⟩), .agg #[.string x.name, .string x.unit, .int .i64 x.lo, .int .i64 x.hi]] W fun e W' => e = .returned (.int .i64 (addE l x)) ∧ Below W.heap.size W W' := by
  obtain ⟨xn, xu, xl, xh⟩ := x
  simp only at hs
  have hb0 : Below W.heap.size W (W.alloc (.cells #[.string xn, .string xu, .int .i64 xl, .int .i64 xh] 27)) := (Below.refl _ _).alloc (Nat.le_refl _) _
  have HB0 : Hid (Below W.heap.size W (W.alloc (.cells #[.string xn, .string xu, .int .i64 xl, .int .i64 xh] 27))) := hb0
  have HN : Hid (∀ X, Calls Try.prog 39 #[.string xn] X fun e w' => e = .returned (.bool (isNameB xn)) ∧ w' = X) := fun X => isNameB_any xn X hs
  have HH : Hid (Calls Try.prog 40 #[.pointer (some ⟨p, 0, none⟩), .string xn] (W.alloc (.cells #[.string xn, .string xu, .int .i64 xl, .int .i64 xh] 27)) fun e W' => e = .returned (.bool (hasB l xn)) ∧ Below (W.alloc (.cells #[.string xn, .string xu, .int .i64 xl, .int .i64 xh] 27)).heap.size (W.alloc (.cells #[.string xn, .string xu, .int .i64 xl, .int .i64 xh] 27)) W') := has_any p l xn _ (h.at.below hb0) (by omega)
  clear hb0 h
  cases h1 : isNameB xn with
  | false =>
    have HE : Hid (addE l ⟨xn, xu, xl, xh⟩ = 40) := by simp [Hid, addE, h1]
    rw [h1] at HN
    clear h1 he HH
    go_enter Try.func23, Try.ntmps23
    go_wp2_with (go_at_call 39; refine (HN.out _).mono ?_; rintro e w' ⟨rfl, hw9⟩; subst w')
    go_ret
    exact ⟨ret_int HE.out.symm, HB0.out⟩
  | true =>
    rw [h1] at HN
    cases h2 : hasB l xn with
    | true =>
      have HE : Hid (addE l ⟨xn, xu, xl, xh⟩ = 40) := by simp [Hid, addE, h2]
      rw [h2] at HH
      clear h1 h2 he
      go_enter Try.func23, Try.ntmps23
      go_wp2_with (first
        | (go_at_call 39; refine (HN.out _).mono ?_; rintro e w' ⟨rfl, hw9⟩; subst w')
        | (go_at_call 40; refine HH.out.mono ?_; rintro e w' ⟨rfl, hw⟩))
      go_ret
      exact ⟨ret_int HE.out.symm, HB0.out.trans (hw.mono HB0.out.size)⟩
    | false =>
      rw [h2] at HH
      have hlo : xh < xl := by
        rcases Int.lt_or_le xh xl with q | q
        · exact q
        · exact absurd (by simp [addE, h1, h2]; omega) he
      have HE : Hid (addE l ⟨xn, xu, xl, xh⟩ = 42) := by simp [Hid, addE, h1, h2, hlo]
      have HM : Hid (∀ X, Calls Try.prog 41 #[.agg #[.int .i64 xl, .int .i64 xh]] X fun e w' => e = .returned (.bool true) ∧ Below X.heap.size X w') := fun X => sempty_any xl xh true X (by simpa using hlo)
      clear h1 h2 he hlo
      go_enter Try.func23, Try.ntmps23
      go_wp2_with (go_at_call 39; refine (HN.out _).mono ?_; rintro e w' ⟨rfl, hw9⟩; subst w')
      refine Calls.mono HH.out ?_
      rintro e W1 ⟨rfl, hb1⟩
      have HB1 : Hid (Below W.heap.size W W1) := HB0.out.trans (hb1.mono HB0.out.size)
      have c2 : W1.cell? ⟨W.heap.size, 2, none⟩ = some (.int .i64 xl) := by rw [hb1.cell (p := ⟨W.heap.size, 2, none⟩) (by simp)]; simp [go_sem]
      have c3 : W1.cell? ⟨W.heap.size, 3, none⟩ = some (.int .i64 xh) := by rw [hb1.cell (p := ⟨W.heap.size, 3, none⟩) (by simp)]; simp [go_sem]
      clear hb1
      go_wp2_with (go_at_call 41; refine (HM.out _).mono ?_; rintro e w' ⟨rfl, hw⟩)
      go_ret
      exact ⟨ret_int HE.out.symm, HB1.out.trans (hw.mono HB1.out.size)⟩
set_option maxHeartbeats 2000000 in
theorem add_good (p B : Nat) (v : Value) (l : List Sig) (x : Sig) (W : World) (h : NmOwn W B p v l) (hB : B ≤ W.heap.size) (hl : l.length ≤ 1000) (hs : x.name.size ≤ 9223372036854775807) (he : addE l x = 0) :
    Calls Try.prog 23 #[.pointer (some ⟨p, 0, none⟩), .agg #[.string x.name, .string x.unit, .int .i64 x.lo, .int .i64 x.hi]] W fun e W' => e = .returned (.int .i64 0) ∧ Below B W W' ∧ ∃ v', NmOwn W' B p v' (l ++ [x]) := by
  obtain ⟨xn, xu, xl, xh⟩ := x
  simp only at hs
  have hb0 : Below W.heap.size W (W.alloc (.cells #[.string xn, .string xu, .int .i64 xl, .int .i64 xh] 27)) := (Below.refl _ _).alloc (Nat.le_refl _) _
  have HB0 : Hid (Below W.heap.size W (W.alloc (.cells #[.string xn, .string xu, .int .i64 xl, .int .i64 xh] 27))) := hb0
  have HN : Hid (∀ X, Calls Try.prog 39 #[.string xn] X fun e w' => e = .returned (.bool (isNameB xn)) ∧ w' = X) := fun X => isNameB_any xn X hs
  have HH : Hid (Calls Try.prog 40 #[.pointer (some ⟨p, 0, none⟩), .string xn] (W.alloc (.cells #[.string xn, .string xu, .int .i64 xl, .int .i64 xh] 27)) fun e W' => e = .returned (.bool (hasB l xn)) ∧ Below (W.alloc (.cells #[.string xn, .string xu, .int .i64 xl, .int .i64 xh] 27)).heap.size (W.alloc (.cells #[.string xn, .string xu, .int .i64 xl, .int .i64 xh] 27)) W') := has_any p l xn _ (h.at.below hb0) (by omega)
  have h1 : isNameB xn = true := by
    cases q : isNameB xn with
    | true => rfl
    | false => simp [addE, q] at he
  have h2 : hasB l xn = false := by
    cases q : hasB l xn with
    | false => rfl
    | true => simp [addE, q] at he
  have h3 : ¬ xh < xl := by
    intro q
    simp [addE, h1, h2, q] at he
  have HM : Hid (∀ X, Calls Try.prog 41 #[.agg #[.int .i64 xl, .int .i64 xh]] X fun e w' => e = .returned (.bool false) ∧ Below X.heap.size X w') := fun X => sempty_any xl xh false X (by simpa using h3)
  rw [h1] at HN
  rw [h2] at HH
  have HO : Hid (∀ X, Below W.heap.size W X → NmOwn X B p v l) := fun X hX => h.below hX
  have HBB : Hid (B ≤ W.heap.size) := hB
  clear h1 h2 h3 he h hb0 hB
  go_enter Try.func23, Try.ntmps23
  go_wp2_with (go_at_call 39; refine (HN.out _).mono ?_; rintro e w' ⟨rfl, hw9⟩; subst w')
  refine Calls.mono HH.out ?_
  rintro e W1 ⟨rfl, hb1⟩
  have HB1 : Hid (Below W.heap.size W W1) := HB0.out.trans (hb1.mono HB0.out.size)
  have c0 : W1.cell? ⟨W.heap.size, 0, none⟩ = some (.string xn) := by rw [hb1.cell (p := ⟨W.heap.size, 0, none⟩) (by simp)]; simp [go_sem]
  have c1 : W1.cell? ⟨W.heap.size, 1, none⟩ = some (.string xu) := by rw [hb1.cell (p := ⟨W.heap.size, 1, none⟩) (by simp)]; simp [go_sem]
  have c2 : W1.cell? ⟨W.heap.size, 2, none⟩ = some (.int .i64 xl) := by rw [hb1.cell (p := ⟨W.heap.size, 2, none⟩) (by simp)]; simp [go_sem]
  have c3 : W1.cell? ⟨W.heap.size, 3, none⟩ = some (.int .i64 xh) := by rw [hb1.cell (p := ⟨W.heap.size, 3, none⟩) (by simp)]; simp [go_sem]
  have hlt1 : W.heap.size < W1.heap.size := by have := hb1.size; simp at this; omega
  clear hb1
  go_wp2_with fail
  refine Calls.mono (HM.out _) ?_
  rintro e W2 ⟨rfl, hb2⟩
  have HB2 : Hid (Below W.heap.size W W2) := HB1.out.trans (hb2.mono HB1.out.size)
  rw [← hb2.cell (p := ⟨W.heap.size, _, none⟩) hlt1] at c0 c1 c2 c3
  have hlt2 : W.heap.size < W2.heap.size := by have := hb2.size; omega
  have HNm := HO.out W2 HB2.out
  have cp := HNm.cell
  have fp := HNm.frz
  have HNm2 : Hid (NmOwn W2 B p v l) := HNm
  have hpne : W2.heap.size ≠ p := Nat.ne_of_gt (World.block_lt_of_cell? W2 _ cp)
  have hne0 : W2.heap.size ≠ W.heap.size := by omega
  have hX0 : Mod [] W2 (W2.drew.alloc (.cells #[.string xn, .string xu, .int .i64 xl, .int .i64 xh] 27)) := (Mod.refl _ _).drew.alloc _
  obtain ⟨v', X, hr, ho, hgr, hat⟩ := Own.append sigC_len sigC_one Try.underlying22 infoSig rfl (by omega) (W2.drew.alloc (.cells #[.string xn, .string xu, .int .i64 xl, .int .i64 xh] 27)) B v l (HNm.own.mod hX0 (by simp)) ⟨xn, xu, xl, xh⟩ W2.heap.size
    (by intro j hj; have : j = 0 ∨ j = 1 ∨ j = 2 ∨ j = 3 := by omega
        rcases this with rfl | rfl | rfl | rfl <;> simp [go_sem, sigC]) (by unfold maxLen; omega) (by omega) (by have := HBB.out; have := HB2.out.size; simp; omega)
  obtain ⟨a9, cap9, hv9, _⟩ := Own.sl sigC_len sig0 ho
  subst hv9
  generalize (l ++ [(⟨xn, xu, xl, xh⟩ : Sig)]).length = n9 at *
  have hm : Mod v.ownBlock.toList W2 X := (hX0.mono (by simp)).trans (Mod.grown hgr)
  have hpn : p ∉ v.ownBlock.toList := by have := HNm.ne; simpa using this
  have hge : ∀ g ∈ v.ownBlock.toList, B ≤ g := fun g hg => (Own.lt HNm.own g (by simpa using hg)).1
  have hbn : W.heap.size ∉ v.ownBlock.toList := by
    intro hg
    have := (Own.lt (HO.out W (Below.refl _ _)).own W.heap.size (by simpa using hg)).2
    omega
  have x0 := hm.cell c0 hbn
  have x1 := hm.cell c1 hbn
  have x2 := hm.cell c2 hbn
  have x3 := hm.cell c3 hbn
  have hlp : p < W2.heap.size := World.block_lt_of_cell? W2 _ cp
  have xp : X.cell? ⟨p, 0, none⟩ = some v := hm.cell cp hpn
  have xf : X.frozen? ⟨p, 0, none⟩ = false := (hm.frozen hlp hpn).trans fp
  have HHR : Hid ((Builtin.append_ #[22, 22] 22 #[v, .slice (some ⟨W2.heap.size, 0, none⟩) 1 1]).run Try.prog (W2.drew.alloc (.cells #[.string xn, .string xu, .int .i64 xl, .int .i64 xh] 27)) = .ok (.slice a9 n9 cap9) X) := hr
  have hv' : (Value.slice a9 n9 cap9).ownBlock ≠ some p := by
    rcases hat with q | q
    · rw [q]; exact HNm.ne
    · rw [q]; simp; omega
  have HF : Hid (Below B W (X.setCell ⟨p, 0, none⟩ (.slice a9 n9 cap9)) ∧ NmOwn (X.setCell ⟨p, 0, none⟩ (.slice a9 n9 cap9)) B p (.slice a9 n9 cap9) (l ++ [⟨xn, xu, xl, xh⟩])) := by
    have hB2 : B ≤ W2.heap.size := by have := HBB.out; have := HB2.out.size; omega
    refine ⟨((HB2.out.mono HBB.out).trans (hm.belowOf hB2 hge)).setCell HNm.base _, ?_, ?_, ?_, HNm.base, hv'⟩
    · exact World.cell?_setCell_same _ _ _ xp
    · simpa using xf
    · exact Own.mod (S := [p]) ho ⟨rfl, rfl, rfl, by simp, fun k hk hs => Below.heap_setCell _ _ _ _ (by simpa using hs)⟩ (fun g hg => by simp; intro e; rw [e] at hg; exact hv' hg)
  clear HNm hb2 hlt1 hr ho hgr hat hm hge hX0 hv' hpn fp
  go_wp2_with fail
  refine wp_region_held_drew (S := fun _ => True) (by kernel_rfl) trivial (fun hHeld => ?_)
  refine wpAnyH_take (i := 0) (oi := { dst := some 18, op := Op.move (Operand.tmp 0), type := 28, pos := "names.go:64", after := #[], guard := none }) (v := ?_) rfl (by kernel_rfl) (by kernel_rfl) (by kernel_rfl) (fun _ _ _ h => h) (Or.inl ⟨by rfl, ?_⟩) hHeld ?_
  rotate_left
  · (intro w hSw; (try dsimp only at hSw); go_simp; all_goals (try with_reducible rfl))
  try simp only [Act.put, List.setIfInBounds_toArray, List.set_cons_zero, List.set_cons_succ]
  refine wpAnyH_take (i := 1) (oi := { dst := some 19, op := Op.move (Operand.tmp 0), type := 28, pos := "names.go:64", after := #[], guard := none }) (v := ?_) rfl (by kernel_rfl) (by kernel_rfl) (by kernel_rfl) (fun _ _ _ h => h) (Or.inl ⟨by rfl, ?_⟩) hHeld ?_
  rotate_left
  · (intro w hSw; (try dsimp only at hSw); go_simp; all_goals (try with_reducible rfl))
  try simp only [Act.put, List.setIfInBounds_toArray, List.set_cons_zero, List.set_cons_succ]
  refine wpAnyH_take (i := 2) (oi := { dst := some 20, op := Op.nilCheck (Operand.tmp 19), type := 0, pos := "names.go:64", after := #[{ on := 1, ground := Ground.data }], guard := none }) (v := ?_) rfl (by kernel_rfl) (by kernel_rfl) (by kernel_rfl) (fun _ _ _ h => h) (Or.inl ⟨by rfl, ?_⟩) hHeld ?_
  rotate_left
  · (intro w hSw; (try dsimp only at hSw); go_simp; all_goals (try with_reducible rfl))
  try simp only [Act.put, List.setIfInBounds_toArray, List.set_cons_zero, List.set_cons_succ]
  refine wpAnyH_take (i := 3) (oi := { dst := some 21, op := Op.fieldAddr 56 (Operand.tmp 20) 0, type := 0, pos := "names.go:64", after := #[{ on := 2, ground := Ground.data }], guard := none }) (v := ?_) rfl (by kernel_rfl) (by kernel_rfl) (by kernel_rfl) (fun _ _ _ h => h) (Or.inl ⟨by rfl, ?_⟩) hHeld ?_
  rotate_left
  · (intro w hSw; (try dsimp only at hSw); go_simp; all_goals (try with_reducible rfl))
  try simp only [Act.put, List.setIfInBounds_toArray, List.set_cons_zero, List.set_cons_succ]
  refine wpAnyH_ready (rs := [4, 5]) (by kernel_rfl) (by simp) ?_
  refine AllReadyH.cons (o := { dst := some 22, op := Op.load 22 (Operand.tmp 21), type := 22, pos := "names.go:64", after := #[{ on := 3, ground := Ground.data }], guard := none }) rfl (fun K hK => ?_) ?_
  · skip
    go_simp
    refine hK.out _ _ trivial (fun hHeld => ?_)
    clear hK K
    try simp only [Act.put, List.setIfInBounds_toArray, List.set_cons_zero, List.set_cons_succ]
    refine wpAnyH_ready (rs := [5]) (by kernel_rfl) (by simp) ?_
    refine AllReadyH.cons (o := { dst := some 23, op := Op.load 27 (Operand.tmp 3), type := 27, pos := "names.go:64", after := #[], guard := none }) rfl (fun K hK => ?_) AllReadyH.nil
    go_simp
    refine hK.out _ _ trivial (fun hHeld => ?_)
    clear hK K
    try simp only [Act.put, List.setIfInBounds_toArray, List.set_cons_zero, List.set_cons_succ]
    refine wpAnyH_ready (rs := [6]) (by kernel_rfl) (by simp) ?_
    refine AllReadyH.cons (o := { dst := some 24, op := Op.buildSlice 22 1 #[(0, Operand.tmp 23)], type := 22, pos := "names.go:64", after := #[{ on := 5, ground := Ground.data }], guard := none }) rfl (fun K hK => ?_) AllReadyH.nil
    go_simp
    refine hK.out _ _ trivial (fun hHeld => ?_)
    clear hK K
    try simp only [Act.put, List.setIfInBounds_toArray, List.set_cons_zero, List.set_cons_succ]
    refine wpAnyH_ready (rs := [7]) (by kernel_rfl) (by simp) ?_
    refine AllReadyH.cons (o := { dst := some 25, op := Op.call { callee := Callee.builtin Builtin.append, args := #[Operand.tmp 22, Operand.tmp 24], argTypes := #[22, 22] }, type := 22, pos := "names.go:64", after := #[{ on := 4, ground := Ground.data }, { on := 6, ground := Ground.data }], guard := none }) rfl (fun K hK => ?_) AllReadyH.nil
    refine append_stepO (by rfl) _ _ (by rfl) (by rfl) _ _ _ _ (by rfl) (by rfl) HHR.out ?_
    refine hK.out _ _ trivial (fun hHeld => ?_)
    clear hK K
    try simp only [Act.put, List.setIfInBounds_toArray, List.set_cons_zero, List.set_cons_succ]
    refine wpAnyH_take (i := 8) (oi := { dst := some 26, op := Op.nilCheck (Operand.tmp 18), type := 0, pos := "names.go:64", after := #[{ on := 0, ground := Ground.data }, { on := 0, ground := Ground.phase }, { on := 1, ground := Ground.phase }, { on := 2, ground := Ground.phase }, { on := 3, ground := Ground.phase }, { on := 4, ground := Ground.phase }, { on := 5, ground := Ground.phase }, { on := 6, ground := Ground.phase }, { on := 7, ground := Ground.phase }], guard := none }) (v := ?_) rfl (by kernel_rfl) (by kernel_rfl) (by kernel_rfl) (fun _ _ _ h => h) (Or.inl ⟨by rfl, ?_⟩) hHeld ?_
    rotate_left
    · (intro w hSw; (try dsimp only at hSw); go_simp; all_goals (try with_reducible rfl))
    try simp only [Act.put, List.setIfInBounds_toArray, List.set_cons_zero, List.set_cons_succ]
    refine wpAnyH_take (i := 9) (oi := { dst := some 27, op := Op.fieldAddr 56 (Operand.tmp 26) 0, type := 0, pos := "names.go:64", after := #[{ on := 8, ground := Ground.data }, { on := 0, ground := Ground.phase }, { on := 1, ground := Ground.phase }, { on := 2, ground := Ground.phase }, { on := 3, ground := Ground.phase }, { on := 4, ground := Ground.phase }, { on := 5, ground := Ground.phase }, { on := 6, ground := Ground.phase }, { on := 7, ground := Ground.phase }], guard := none }) (v := ?_) rfl (by kernel_rfl) (by kernel_rfl) (by kernel_rfl) (fun _ _ _ h => h) (Or.inl ⟨by rfl, ?_⟩) hHeld ?_
    rotate_left
    · (intro w hSw; (try dsimp only at hSw); go_simp; all_goals (try with_reducible rfl))
    try simp only [Act.put, List.setIfInBounds_toArray, List.set_cons_zero, List.set_cons_succ]
    refine wpAnyH_ready (rs := [10]) (by kernel_rfl) (by simp) ?_
    refine AllReadyH.cons (o := { dst := none, op := Op.store 22 (Operand.tmp 27) (Operand.tmp 25), type := 0, pos := "names.go:64", after := #[{ on := 9, ground := Ground.data }, { on := 7, ground := Ground.data }, { on := 7, ground := Ground.chain }, { on := 0, ground := Ground.phase }, { on := 1, ground := Ground.phase }, { on := 2, ground := Ground.phase }, { on := 3, ground := Ground.phase }, { on := 4, ground := Ground.phase }, { on := 5, ground := Ground.phase }, { on := 6, ground := Ground.phase }, { on := 7, ground := Ground.phase }], guard := none }) rfl (fun K hK => ?_) AllReadyH.nil
    go_simp
    refine hK.out _ _ trivial (fun hHeld => ?_)
    clear hK K
    try simp only [Act.put]
    refine wpAnyH_done (by kernel_rfl) ?_ _
    go_wp2
    go_ret
    exact ⟨rfl, HF.out.1, _, HF.out.2⟩
  refine AllReadyH.cons (o := { dst := some 23, op := Op.load 27 (Operand.tmp 3), type := 27, pos := "names.go:64", after := #[], guard := none }) rfl (fun K hK => ?_) AllReadyH.nil
  go_simp
  refine hK.out _ _ trivial (fun hHeld => ?_)
  clear hK K
  try simp only [Act.put, List.setIfInBounds_toArray, List.set_cons_zero, List.set_cons_succ]
  refine wpAnyH_ready (rs := [4, 6]) (by kernel_rfl) (by simp) ?_
  refine AllReadyH.cons (o := { dst := some 22, op := Op.load 22 (Operand.tmp 21), type := 22, pos := "names.go:64", after := #[{ on := 3, ground := Ground.data }], guard := none }) rfl (fun K hK => ?_) ?_
  · skip
    go_simp
    refine hK.out _ _ trivial (fun hHeld => ?_)
    clear hK K
    try simp only [Act.put, List.setIfInBounds_toArray, List.set_cons_zero, List.set_cons_succ]
    refine wpAnyH_ready (rs := [6]) (by kernel_rfl) (by simp) ?_
    refine AllReadyH.cons (o := { dst := some 24, op := Op.buildSlice 22 1 #[(0, Operand.tmp 23)], type := 22, pos := "names.go:64", after := #[{ on := 5, ground := Ground.data }], guard := none }) rfl (fun K hK => ?_) AllReadyH.nil
    go_simp
    refine hK.out _ _ trivial (fun hHeld => ?_)
    clear hK K
    try simp only [Act.put, List.setIfInBounds_toArray, List.set_cons_zero, List.set_cons_succ]
    refine wpAnyH_ready (rs := [7]) (by kernel_rfl) (by simp) ?_
    refine AllReadyH.cons (o := { dst := some 25, op := Op.call { callee := Callee.builtin Builtin.append, args := #[Operand.tmp 22, Operand.tmp 24], argTypes := #[22, 22] }, type := 22, pos := "names.go:64", after := #[{ on := 4, ground := Ground.data }, { on := 6, ground := Ground.data }], guard := none }) rfl (fun K hK => ?_) AllReadyH.nil
    refine append_stepO (by rfl) _ _ (by rfl) (by rfl) _ _ _ _ (by rfl) (by rfl) HHR.out ?_
    refine hK.out _ _ trivial (fun hHeld => ?_)
    clear hK K
    try simp only [Act.put, List.setIfInBounds_toArray, List.set_cons_zero, List.set_cons_succ]
    refine wpAnyH_take (i := 8) (oi := { dst := some 26, op := Op.nilCheck (Operand.tmp 18), type := 0, pos := "names.go:64", after := #[{ on := 0, ground := Ground.data }, { on := 0, ground := Ground.phase }, { on := 1, ground := Ground.phase }, { on := 2, ground := Ground.phase }, { on := 3, ground := Ground.phase }, { on := 4, ground := Ground.phase }, { on := 5, ground := Ground.phase }, { on := 6, ground := Ground.phase }, { on := 7, ground := Ground.phase }], guard := none }) (v := ?_) rfl (by kernel_rfl) (by kernel_rfl) (by kernel_rfl) (fun _ _ _ h => h) (Or.inl ⟨by rfl, ?_⟩) hHeld ?_
    rotate_left
    · (intro w hSw; (try dsimp only at hSw); go_simp; all_goals (try with_reducible rfl))
    try simp only [Act.put, List.setIfInBounds_toArray, List.set_cons_zero, List.set_cons_succ]
    refine wpAnyH_take (i := 9) (oi := { dst := some 27, op := Op.fieldAddr 56 (Operand.tmp 26) 0, type := 0, pos := "names.go:64", after := #[{ on := 8, ground := Ground.data }, { on := 0, ground := Ground.phase }, { on := 1, ground := Ground.phase }, { on := 2, ground := Ground.phase }, { on := 3, ground := Ground.phase }, { on := 4, ground := Ground.phase }, { on := 5, ground := Ground.phase }, { on := 6, ground := Ground.phase }, { on := 7, ground := Ground.phase }], guard := none }) (v := ?_) rfl (by kernel_rfl) (by kernel_rfl) (by kernel_rfl) (fun _ _ _ h => h) (Or.inl ⟨by rfl, ?_⟩) hHeld ?_
    rotate_left
    · (intro w hSw; (try dsimp only at hSw); go_simp; all_goals (try with_reducible rfl))
    try simp only [Act.put, List.setIfInBounds_toArray, List.set_cons_zero, List.set_cons_succ]
    refine wpAnyH_ready (rs := [10]) (by kernel_rfl) (by simp) ?_
    refine AllReadyH.cons (o := { dst := none, op := Op.store 22 (Operand.tmp 27) (Operand.tmp 25), type := 0, pos := "names.go:64", after := #[{ on := 9, ground := Ground.data }, { on := 7, ground := Ground.data }, { on := 7, ground := Ground.chain }, { on := 0, ground := Ground.phase }, { on := 1, ground := Ground.phase }, { on := 2, ground := Ground.phase }, { on := 3, ground := Ground.phase }, { on := 4, ground := Ground.phase }, { on := 5, ground := Ground.phase }, { on := 6, ground := Ground.phase }, { on := 7, ground := Ground.phase }], guard := none }) rfl (fun K hK => ?_) AllReadyH.nil
    go_simp
    refine hK.out _ _ trivial (fun hHeld => ?_)
    clear hK K
    try simp only [Act.put]
    refine wpAnyH_done (by kernel_rfl) ?_ _
    go_wp2
    go_ret
    exact ⟨rfl, HF.out.1, _, HF.out.2⟩
  refine AllReadyH.cons (o := { dst := some 24, op := Op.buildSlice 22 1 #[(0, Operand.tmp 23)], type := 22, pos := "names.go:64", after := #[{ on := 5, ground := Ground.data }], guard := none }) rfl (fun K hK => ?_) AllReadyH.nil
  go_simp
  refine hK.out _ _ trivial (fun hHeld => ?_)
  clear hK K
  try simp only [Act.put, List.setIfInBounds_toArray, List.set_cons_zero, List.set_cons_succ]
  refine wpAnyH_ready (rs := [4]) (by kernel_rfl) (by simp) ?_
  refine AllReadyH.cons (o := { dst := some 22, op := Op.load 22 (Operand.tmp 21), type := 22, pos := "names.go:64", after := #[{ on := 3, ground := Ground.data }], guard := none }) rfl (fun K hK => ?_) AllReadyH.nil
  go_simp
  refine hK.out _ _ trivial (fun hHeld => ?_)
  clear hK K
  try simp only [Act.put, List.setIfInBounds_toArray, List.set_cons_zero, List.set_cons_succ]
  refine wpAnyH_ready (rs := [7]) (by kernel_rfl) (by simp) ?_
  refine AllReadyH.cons (o := { dst := some 25, op := Op.call { callee := Callee.builtin Builtin.append, args := #[Operand.tmp 22, Operand.tmp 24], argTypes := #[22, 22] }, type := 22, pos := "names.go:64", after := #[{ on := 4, ground := Ground.data }, { on := 6, ground := Ground.data }], guard := none }) rfl (fun K hK => ?_) AllReadyH.nil
  refine append_stepO (by rfl) _ _ (by rfl) (by rfl) _ _ _ _ (by rfl) (by rfl) HHR.out ?_
  refine hK.out _ _ trivial (fun hHeld => ?_)
  clear hK K
  try simp only [Act.put, List.setIfInBounds_toArray, List.set_cons_zero, List.set_cons_succ]
  refine wpAnyH_take (i := 8) (oi := { dst := some 26, op := Op.nilCheck (Operand.tmp 18), type := 0, pos := "names.go:64", after := #[{ on := 0, ground := Ground.data }, { on := 0, ground := Ground.phase }, { on := 1, ground := Ground.phase }, { on := 2, ground := Ground.phase }, { on := 3, ground := Ground.phase }, { on := 4, ground := Ground.phase }, { on := 5, ground := Ground.phase }, { on := 6, ground := Ground.phase }, { on := 7, ground := Ground.phase }], guard := none }) (v := ?_) rfl (by kernel_rfl) (by kernel_rfl) (by kernel_rfl) (fun _ _ _ h => h) (Or.inl ⟨by rfl, ?_⟩) hHeld ?_
  rotate_left
  · (intro w hSw; (try dsimp only at hSw); go_simp; all_goals (try with_reducible rfl))
  try simp only [Act.put, List.setIfInBounds_toArray, List.set_cons_zero, List.set_cons_succ]
  refine wpAnyH_take (i := 9) (oi := { dst := some 27, op := Op.fieldAddr 56 (Operand.tmp 26) 0, type := 0, pos := "names.go:64", after := #[{ on := 8, ground := Ground.data }, { on := 0, ground := Ground.phase }, { on := 1, ground := Ground.phase }, { on := 2, ground := Ground.phase }, { on := 3, ground := Ground.phase }, { on := 4, ground := Ground.phase }, { on := 5, ground := Ground.phase }, { on := 6, ground := Ground.phase }, { on := 7, ground := Ground.phase }], guard := none }) (v := ?_) rfl (by kernel_rfl) (by kernel_rfl) (by kernel_rfl) (fun _ _ _ h => h) (Or.inl ⟨by rfl, ?_⟩) hHeld ?_
  rotate_left
  · (intro w hSw; (try dsimp only at hSw); go_simp; all_goals (try with_reducible rfl))
  try simp only [Act.put, List.setIfInBounds_toArray, List.set_cons_zero, List.set_cons_succ]
  refine wpAnyH_ready (rs := [10]) (by kernel_rfl) (by simp) ?_
  refine AllReadyH.cons (o := { dst := none, op := Op.store 22 (Operand.tmp 27) (Operand.tmp 25), type := 0, pos := "names.go:64", after := #[{ on := 9, ground := Ground.data }, { on := 7, ground := Ground.data }, { on := 7, ground := Ground.chain }, { on := 0, ground := Ground.phase }, { on := 1, ground := Ground.phase }, { on := 2, ground := Ground.phase }, { on := 3, ground := Ground.phase }, { on := 4, ground := Ground.phase }, { on := 5, ground := Ground.phase }, { on := 6, ground := Ground.phase }, { on := 7, ground := Ground.phase }], guard := none }) rfl (fun K hK => ?_) AllReadyH.nil
  go_simp
  refine hK.out _ _ trivial (fun hHeld => ?_)
  clear hK K
  try simp only [Act.put]
  refine wpAnyH_done (by kernel_rfl) ?_ _
  go_wp2
  go_ret
  exact ⟨rfl, HF.out.1, _, HF.out.2⟩
end Go.Proofs.Ytjnnjjajlafchaa
