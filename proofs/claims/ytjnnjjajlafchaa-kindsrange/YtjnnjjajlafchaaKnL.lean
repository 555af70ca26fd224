/- The contracts of kinds' Check, Range. Conditions: names of at most 2^63 - 1 bytes, few terms and nodes; at most 1000000 signals, with spans that are not empty. -/
import Derived.Test.YtjnnjjajlafchaaBz5
namespace Go.Proofs.Ytjnnjjajlafchaa
open Go.RowKit
set_option linter.unusedVariables false
set_option maxRecDepth 100000

/-- r is l less a beginning of parts that fit. -/
def Fitted (l r : List Nd) : Prop := ∃ k, r = l.drop k ∧ ∀ j, j < k → j < l.length → fitsB (l.getD j nd0) = true
theorem Fitted.refl (l : List Nd) : Fitted l l := ⟨0, rfl, fun j hj => by omega⟩
theorem Fitted.trans {l r s : List Nd} (h : Fitted l r) (k : Fitted r s) : Fitted l s := by
  obtain ⟨i, rfl, hi⟩ := h
  obtain ⟨j, rfl, hj⟩ := k
  refine ⟨i + j, by rw [List.drop_drop], fun q hq hl => ?_⟩
  by_cases e : q < i
  · exact hi q e hl
  · have := hj (q - i) (by omega) (by rw [List.length_drop]; omega)
    rw [List.getD_eq_getElem?_getD, List.getElem?_drop, show i + (q - i) = q by omega, ← List.getD_eq_getElem?_getD] at this
    exact this
theorem iterO_fitted {f : List Nd → Option (List Nd)} (hf : ∀ l r, f l = some r → Fitted l r) (n : Nat) : ∀ (l r : List Nd), iterO f n l = some r → Fitted l r := by
  induction n with
  | zero => intro l r h; cases h; exact Fitted.refl l
  | succ n ih =>
    intro l r h
    simp only [iterO] at h
    cases hq : f l with
    | none => rw [hq] at h; cases h
    | some s => rw [hq] at h; exact (hf l s hq).trans (ih s r h)
theorem restD_fitted (d : Nat) : ∀ (l r : List Nd), restD d l = some r → Fitted l r := by
  induction d with
  | zero => intro l r h; cases h
  | succ d ih =>
    intro l r h
    cases l with
    | nil => cases h
    | cons x l =>
      simp only [restD] at h
      split at h
      · rename_i hx
        refine Fitted.trans ⟨1, rfl, fun j hj _ => ?_⟩ (iterO_fitted ih _ l r h)
        obtain rfl : j = 0 := by omega
        exact hx
      · cases h
theorem valid_fits {l : List Nd} (h : validB l = true) (j : Nat) (hj : j < l.length) : fitsB (l.getD j nd0) = true := by
  unfold validB at h
  simp only [Bool.and_eq_true] at h
  have h2 := h.2
  split at h2
  · rename_i r hr
    obtain ⟨k, rfl, hk⟩ := restD_fitted 24 l r hr
    simp only [beq_iff_eq, List.length_drop] at h2
    exact hk j (by omega) hj
  · cases h2
theorem fits_atom {x : Nd} (h : fitsB x = true) (h2 : x.op = 2) : 0 < x.terms.length ∧ x.terms.length ≤ 16 := by
  unfold fitsB at h
  simp only [Bool.and_eq_true] at h
  have h3 := h.2
  unfold fitsAB at h3
  rw [if_pos h2] at h3
  simp only [Bool.and_eq_true, decide_eq_true_eq] at h3
  omega
theorem valid_head {l : List Nd} (h : validB l = true) : 0 < l.length := by
  cases l with
  | nil => simp [validB, restD] at h
  | cons x l => simp
/-- A sheet at q whose names lie at p. -/
def ShAt (W : World) (q p : Nat) (l : List Sig) : Prop := W.cell? ⟨q, 0, none⟩ = some (.pointer (some ⟨p, 0, none⟩)) ∧ NmAt W p l
theorem ShAt.below {W W' : World} {q p : Nat} {l : List Sig} (h : ShAt W q p l) (k : Below W.heap.size W W') : ShAt W' q p l := ⟨cell_up k h.1, h.2.below k⟩
/-- The first error of some parts. -/
def partsE (l : List Sig) : List Nd → Int
  | [] => 0
  | x :: r => if partE l x = 0 then partsE l r else partE l x
theorem partsE_go (l : List Sig) (n : List Nd) (k : Nat) (hk : k < n.length) (h : partE l (n.getD k nd0) = 0) (he : partsE l n = partsE l (n.drop k)) : partsE l n = partsE l (n.drop (k + 1)) := by
  rw [he, List.drop_eq_getElem_cons hk]
  have e : n.getD k nd0 = n[k] := by simp [List.getD_eq_getElem?_getD, hk]
  rw [e] at h
  simp only [partsE]
  rw [if_pos h]
theorem partsE_bad (l : List Sig) (n : List Nd) (k : Nat) (hk : k < n.length) (h : partE l (n.getD k nd0) ≠ 0) (he : partsE l n = partsE l (n.drop k)) : partsE l n = partE l (n.getD k nd0) := by
  rw [he, List.drop_eq_getElem_cons hk]
  have e : n.getD k nd0 = n[k] := by simp [List.getD_eq_getElem?_getD, hk]
  rw [e] at h ⊢
  simp only [partsE]
  rw [if_neg h]
def checkE (l : List Sig) (n : List Nd) : Int := if validB n = false then 31 else partsE l n
set_option maxHeartbeats 8000000 in
theorem check_any (q p : Nat) (l : List Sig) (a : Option Addr) (cap : Nat) (n : List Nd) (W : World) (hp : ShAt W q p l) (hl : l.length ≤ 1000000) (h : NodeRow W a n) (hcap : n.length ≤ cap) (hf : NodesFit n) (hm : n.length ≤ 9223372036854775807) :
    Calls Try.prog 18 #[.pointer (some ⟨q, 0, none⟩), .slice a n.length cap] W fun e W' => e = .returned (.int .i64 (checkE l n)) ∧ Below W.heap.size W W' := by
  have HP : Hid (∀ X, Below W.heap.size W X → ShAt X q p l) := fun X hX => hp.below hX
  have HR : Hid (NodeRow W a n) := h
  have HF : Hid (NodesFit n) := hf
  have HV := valid_any a cap n W h hcap hf hm
  have hp0 := hp.1
  cases hv : validB n with
  | false =>
    have HE : Hid (checkE l n = 31) := by simp [Hid, checkE, hv]
    rw [hv] at HV
    clear hv hp h hf
    go_enter Try.func18, Try.ntmps18
    go_wp2_with fail
    refine Calls.mono HV ?_
    rintro e W1 ⟨rfl, hb1⟩
    go_wp2
    go_ret
    exact ⟨ret_int HE.out.symm, hb1⟩
  | true =>
    have HE : Hid (checkE l n = partsE l n) := by simp [Hid, checkE, hv]
    have HFT : Hid (∀ j, j < n.length → fitsB (n.getD j nd0) = true) := fun j hj => valid_fits hv j hj
    rw [hv] at HV
    clear hv hp h hf
    go_enter Try.func18, Try.ntmps18
    go_wp2_with fail
    refine Calls.mono HV ?_
    rintro e W1 ⟨rfl, hb1⟩
    have HB1 : Hid (Below W.heap.size W W1) := hb1
    clear hb1 HV hp0
    go_wp2
    go_loopw [22] (fun i wr => ∃ k : Nat, k ≤ n.length ∧ i = .int .i64 k ∧ Below W.heap.size W wr ∧ partsE l n = partsE l (n.drop k)) (fun i _ => n.length - (intOf i).toNat)
    case atStart => exact ⟨0, Nat.zero_le _, rfl, HB1.out, rfl⟩
    case round =>
      obtain ⟨k, hk, rfl, hb, he⟩ := hrel
      have HB : Hid (Below W.heap.size W wr) := hb
      have HEQ : Hid (partsE l n = partsE l (n.drop k)) := he
      clear hb he
      by_cases hlt : k < n.length
      · obtain ⟨b, off, rfl, n0, n1, n2, n3, ⟨ta, tc, n4, ht⟩, n5⟩ := (HR.out.below HB.out) k hlt
        have hq := (HP.out _ HB.out).1
        have hqn : wr.heap.size ≠ q := Nat.ne_of_gt (World.block_lt_of_cell? wr ⟨q, 0, none⟩ hq)
        have hqn2 : q ≠ wr.heap.size := fun e => hqn e.symm
        have hfx := HF.out (n.getD k nd0) (by rw [List.getD_eq_getElem?_getD, List.getElem?_eq_getElem hlt]; exact List.getElem_mem hlt)
        have HPt : Hid (∀ X, Below wr.heap.size wr X → Calls Try.prog 31 #[.pointer (some ⟨p, 0, none⟩), .agg #[.int .i64 (n.getD k nd0).op, .int .i64 (n.getD k nd0).n, .int .i64 (n.getD k nd0).fr, .int .i64 (n.getD k nd0).to, .slice ta (n.getD k nd0).terms.length tc, .int .i64 (n.getD k nd0).num]] X fun e W' => e = .returned (.int .i64 (partE l (n.getD k nd0))) ∧ Below X.heap.size X W') :=
          fun X hX => part_any p l _ ta tc X ((HP.out _ HB.out).2.below hX) hl (ht.below hX) (fun h2 => (fits_atom (HFT.out k hlt) h2).1) hfx.2.1
        have HGo : Hid (partE l (n.getD k nd0) = 0 → partsE l n = partsE l (n.drop (k + 1))) := fun h0 => partsE_go l n k hlt h0 HEQ.out
        have HBad : Hid (partE l (n.getD k nd0) ≠ 0 → partsE l n = partE l (n.getD k nd0)) := fun h0 => partsE_bad l n k hlt h0 HEQ.out
        generalize partE l (n.getD k nd0) = pe at *
        generalize n.getD k nd0 = x at *
        obtain ⟨op, xn, fr, to, ts, num⟩ := x
        simp only at n0 n1 n2 n3 n4 n5 HPt
        have HB2 : Hid (Below wr.heap.size wr (wr.alloc (.cells #[.int .i64 op, .int .i64 xn, .int .i64 fr, .int .i64 to, .slice ta ts.length tc, .int .i64 num] 67)).drew) := ((Below.refl _ _).alloc (Nat.le_refl _) _).drew
        have hq3 : (wr.alloc (.cells #[.int .i64 op, .int .i64 xn, .int .i64 fr, .int .i64 to, .slice ta ts.length tc, .int .i64 num] 67)).cell? ⟨q, 0, none⟩ = some (.pointer (some ⟨p, 0, none⟩)) := by rw [cell_alloc_lt _ _ _ _ (World.block_lt_of_cell? wr ⟨q, 0, none⟩ hq)]; exact hq
        clear hfx ht hq hqn hqn2
        go_wp2_with fail
        refine wp_region_held_drew (S := fun _ => True) (by kernel_rfl) trivial (fun hHeld => ?_)
        refine wpAnyH_take (i := 0) (oi := { dst := some 26, op := Op.move (Operand.tmp 0), type := 35, pos := "check.go:29", after := #[], guard := none }) (v := ?_) rfl (by kernel_rfl) (by kernel_rfl) (by kernel_rfl) (fun _ _ _ h => h) (Or.inl ⟨by rfl, ?_⟩) hHeld ?_
        rotate_left
        · (intro w hSw; (try dsimp only at hSw); go_simp; all_goals (try with_reducible rfl))
        try simp only [Act.put, List.setIfInBounds_toArray, List.set_cons_zero, List.set_cons_succ]
        refine wpAnyH_take (i := 1) (oi := { dst := some 27, op := Op.nilCheck (Operand.tmp 26), type := 0, pos := "check.go:29", after := #[{ on := 0, ground := Ground.data }], guard := none }) (v := ?_) rfl (by kernel_rfl) (by kernel_rfl) (by kernel_rfl) (fun _ _ _ h => h) (Or.inl ⟨by rfl, ?_⟩) hHeld ?_
        rotate_left
        · (intro w hSw; (try dsimp only at hSw); go_simp; all_goals (try with_reducible rfl))
        try simp only [Act.put, List.setIfInBounds_toArray, List.set_cons_zero, List.set_cons_succ]
        refine wpAnyH_take (i := 2) (oi := { dst := some 28, op := Op.fieldAddr 48 (Operand.tmp 27) 0, type := 0, pos := "check.go:29", after := #[{ on := 1, ground := Ground.data }], guard := none }) (v := ?_) rfl (by kernel_rfl) (by kernel_rfl) (by kernel_rfl) (fun _ _ _ h => h) (Or.inl ⟨by rfl, ?_⟩) hHeld ?_
        rotate_left
        · (intro w hSw; (try dsimp only at hSw); go_simp; all_goals (try with_reducible rfl))
        try simp only [Act.put, List.setIfInBounds_toArray, List.set_cons_zero, List.set_cons_succ]
        refine wpAnyH_ready (rs := [3, 4]) (by kernel_rfl) (by simp) ?_
        refine AllReadyH.cons (o := { dst := some 29, op := Op.load 28 (Operand.tmp 28), type := 28, pos := "check.go:29", after := #[{ on := 2, ground := Ground.data }], guard := none }) rfl (fun K hK => ?_) ?_
        · skip
          go_simp
          refine hK.out _ _ trivial (fun hHeld => ?_)
          clear hK K
          try simp only [Act.put, List.setIfInBounds_toArray, List.set_cons_zero, List.set_cons_succ]
          refine wpAnyH_ready (rs := [4]) (by kernel_rfl) (by simp) ?_
          refine AllReadyH.cons (o := { dst := some 30, op := Op.load 67 (Operand.tmp 6), type := 67, pos := "check.go:29", after := #[], guard := none }) rfl (fun K hK => ?_) AllReadyH.nil
          go_simp
          refine hK.out _ _ trivial (fun hHeld => ?_)
          clear hK K
          try simp only [Act.put, List.setIfInBounds_toArray, List.set_cons_zero, List.set_cons_succ]
          refine wpAnyH_ready (rs := [5]) (by kernel_rfl) (by simp) ?_
          refine AllReadyH.cons (o := { dst := some 31, op := Op.call { callee := Callee.value (Operand.func 31), args := #[Operand.tmp 29, Operand.tmp 30], argTypes := #[28, 67] }, type := 29, pos := "check.go:29", after := #[{ on := 3, ground := Ground.data }, { on := 4, ground := Ground.data }], guard := none }) rfl (fun K hK => ?_) AllReadyH.nil
          go_simp
          refine Calls.mono (HPt.out _ HB2.out) ?_
          rintro e W3 ⟨rfl, hb3⟩
          have HB3 : Hid (Below W.heap.size W W3) := HB.out.trans ((HB2.out.trans (hb3.mono HB2.out.size)).mono HB.out.size)
          clear hb3
          go_wp2_with fail
          refine hK.out _ _ trivial (fun hHeld => ?_)
          clear hK K
          try simp only [Act.put, List.setIfInBounds_toArray, List.set_cons_zero, List.set_cons_succ]
          refine wpAnyH_take (i := 6) (oi := { dst := some 7, op := Op.assign (Operand.tmp 31), type := 29, pos := "check.go:29", after := #[{ on := 5, ground := Ground.data }, { on := 5, ground := Ground.chain }, { on := 0, ground := Ground.phase }, { on := 1, ground := Ground.phase }, { on := 2, ground := Ground.phase }, { on := 3, ground := Ground.phase }, { on := 4, ground := Ground.phase }, { on := 5, ground := Ground.phase }], guard := none }) (v := ?_) rfl (by kernel_rfl) (by kernel_rfl) (by kernel_rfl) (fun _ _ _ h => h) (Or.inl ⟨by rfl, ?_⟩) hHeld ?_
          rotate_left
          · (intro w hSw; (try dsimp only at hSw); go_simp; all_goals (try with_reducible rfl))
          try simp only [Act.put, List.setIfInBounds_toArray, List.set_cons_zero, List.set_cons_succ]
          refine wpAnyH_done (by kernel_rfl) ?_ _
          by_cases h0 : pe = 0
          · have HG2 : Hid (partsE l n = partsE l (n.drop (k + 1))) := HGo.out h0
            subst h0
            go_wp2
            go_roundw
            case rel => exact ⟨k + 1, by omega, by go_num, HB3.out, HG2.out⟩
            case measure => simp [intOf]; omega
          · have HG2 : Hid (partsE l n = pe) := HBad.out h0
            have j1 : (pe == 0) = false := by simpa using h0
            have j2 : (pe != 0) = true := by simpa using h0
            clear h0
            go_wp2
            go_ret
            exact ⟨ret_int (by rw [HE.out, HG2.out]), HB3.out⟩
        refine AllReadyH.cons (o := { dst := some 30, op := Op.load 67 (Operand.tmp 6), type := 67, pos := "check.go:29", after := #[], guard := none }) rfl (fun K hK => ?_) AllReadyH.nil
        go_simp
        refine hK.out _ _ trivial (fun hHeld => ?_)
        clear hK K
        try simp only [Act.put, List.setIfInBounds_toArray, List.set_cons_zero, List.set_cons_succ]
        refine wpAnyH_ready (rs := [3]) (by kernel_rfl) (by simp) ?_
        refine AllReadyH.cons (o := { dst := some 29, op := Op.load 28 (Operand.tmp 28), type := 28, pos := "check.go:29", after := #[{ on := 2, ground := Ground.data }], guard := none }) rfl (fun K hK => ?_) AllReadyH.nil
        go_simp
        refine hK.out _ _ trivial (fun hHeld => ?_)
        clear hK K
        try simp only [Act.put, List.setIfInBounds_toArray, List.set_cons_zero, List.set_cons_succ]
        refine wpAnyH_ready (rs := [5]) (by kernel_rfl) (by simp) ?_
        refine AllReadyH.cons (o := { dst := some 31, op := Op.call { callee := Callee.value (Operand.func 31), args := #[Operand.tmp 29, Operand.tmp 30], argTypes := #[28, 67] }, type := 29, pos := "check.go:29", after := #[{ on := 3, ground := Ground.data }, { on := 4, ground := Ground.data }], guard := none }) rfl (fun K hK => ?_) AllReadyH.nil
        go_simp
        refine Calls.mono (HPt.out _ HB2.out) ?_
        rintro e W3 ⟨rfl, hb3⟩
        have HB3 : Hid (Below W.heap.size W W3) := HB.out.trans ((HB2.out.trans (hb3.mono HB2.out.size)).mono HB.out.size)
        clear hb3
        go_wp2_with fail
        refine hK.out _ _ trivial (fun hHeld => ?_)
        clear hK K
        try simp only [Act.put, List.setIfInBounds_toArray, List.set_cons_zero, List.set_cons_succ]
        refine wpAnyH_take (i := 6) (oi := { dst := some 7, op := Op.assign (Operand.tmp 31), type := 29, pos := "check.go:29", after := #[{ on := 5, ground := Ground.data }, { on := 5, ground := Ground.chain }, { on := 0, ground := Ground.phase }, { on := 1, ground := Ground.phase }, { on := 2, ground := Ground.phase }, { on := 3, ground := Ground.phase }, { on := 4, ground := Ground.phase }, { on := 5, ground := Ground.phase }], guard := none }) (v := ?_) rfl (by kernel_rfl) (by kernel_rfl) (by kernel_rfl) (fun _ _ _ h => h) (Or.inl ⟨by rfl, ?_⟩) hHeld ?_
        rotate_left
        · (intro w hSw; (try dsimp only at hSw); go_simp; all_goals (try with_reducible rfl))
        try simp only [Act.put, List.setIfInBounds_toArray, List.set_cons_zero, List.set_cons_succ]
        refine wpAnyH_done (by kernel_rfl) ?_ _
        by_cases h0 : pe = 0
        · have HG2 : Hid (partsE l n = partsE l (n.drop (k + 1))) := HGo.out h0
          subst h0
          go_wp2
          go_roundw
          case rel => exact ⟨k + 1, by omega, by go_num, HB3.out, HG2.out⟩
          case measure => simp [intOf]; omega
        · have HG2 : Hid (partsE l n = pe) := HBad.out h0
          have j1 : (pe == 0) = false := by simpa using h0
          have j2 : (pe != 0) = true := by simpa using h0
          clear h0
          go_wp2
          go_ret
          exact ⟨ret_int (by rw [HE.out, HG2.out]), HB3.out⟩
      · have hkk : k = n.length := by omega
        have HZ : Hid (partsE l n = 0) := by have := HEQ.out; rw [hkk, List.drop_length] at this; exact this
        clear hkk
        go_wp2
        go_ret
        exact ⟨ret_int (by rw [HE.out, HZ.out]), HB.out⟩
end Go.Proofs.Ytjnnjjajlafchaa
