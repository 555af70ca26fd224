/- KindsFinds' walk. Conditions: names of at most 2^63 - 1 bytes. -/
import Derived.Test.YtjnnjjajlafchaaKnN
namespace Go.Proofs.Ytjnnjjajlafchaa
open Go.RowKit
set_option linter.unusedVariables false
set_option maxRecDepth 100000

theorem newE_each (l : List Sig) : ∀ (acc : List Sig), (newE acc l).1 = 0 → ∀ k, k < l.length → addE (acc ++ l.take k) (l.getD k sig0) = 0 := by
  induction l with
  | nil => intro acc _ k hk; simp at hk
  | cons x r ih =>
    intro acc h k hk
    simp only [newE] at h
    split at h
    · rename_i h0
      cases k with
      | zero => simpa using h0
      | succ k =>
        have := ih (acc ++ [x]) h k (by simpa using hk)
        simpa [List.append_assoc] using this
    · rename_i h0; exact absurd h h0
theorem names_ok {l : List Sig} (h : (namesE l).1 = 0) : l.length ≤ 16 ∧ ∀ k, k < l.length → addE (l.take k) (l.getD k sig0) = 0 := by
  unfold namesE at h
  split at h
  · simp at h
  · rename_i hl
    exact ⟨by omega, fun k hk => by have := newE_each l [] h k hk; simpa using this⟩
theorem addE_has {l : List Sig} {x : Sig} (h : addE l x = 0) : hasB l x.name = false := by
  cases q : hasB l x.name with
  | false => rfl
  | true => simp [addE, q] at h
theorem addE_name {l : List Sig} {x : Sig} (h : addE l x = 0) : isNameB x.name = true ∧ ¬ x.hi < x.lo := by
  unfold addE at h
  split at h
  · omega
  · rename_i h1
    split at h
    · omega
    · rename_i h2
      refine ⟨?_, h2⟩
      cases q : isNameB x.name with
      | true => rfl
      | false => exact absurd (Or.inl q) h1
theorem hasB_not {l : List Sig} {s : ByteArray} (h : hasB l s = false) (j : Nat) (hj : j < l.length) : eqS (l.getD j sig0).name s = false := by
  have h1 : ¬ idxN l s < l.length := by simpa [hasB] using h
  have h2 : idxN l s = l.length := by have := idxN_le l s; omega
  unfold idxN at h2
  rw [List.findIdx_eq_length] at h2
  have := h2 l[j] (List.getElem_mem hj)
  simpa [List.getD_eq_getElem?_getD, hj] using this
/-- Where all could be added each is found at its own number. -/
theorem idxN_own {l : List Sig} (h : (namesE l).1 = 0) (k : Nat) (hk : k < l.length) : idxN l (l.getD k sig0).name = k := by
  refine idxN_at l _ k hk (eqS_refl _) fun j hj => ?_
  have h1 := hasB_not (addE_has ((names_ok h).2 k hk)) j (by rw [List.length_take]; omega)
  rw [List.getD_eq_getElem?_getD, List.getElem?_take_of_lt hj, ← List.getD_eq_getElem?_getD] at h1
  exact h1
def isB (l : List Sig) (s : ByteArray) (k : Nat) : Bool := (l.take k).any fun x => eqS x.name s
theorem isB_succ (l : List Sig) (s : ByteArray) (k : Nat) (hk : k < l.length) : isB l s (k + 1) = (isB l s k || eqS (l.getD k sig0).name s) := any_take _ sig0 l k hk
theorem isB_all (l : List Sig) (s : ByteArray) : isB l s l.length = hasB l s := by
  unfold isB hasB
  rw [List.take_length]
  cases q : l.any fun x => eqS x.name s with
  | true =>
    rw [List.any_eq_true] at q
    obtain ⟨x, hx, he⟩ := q
    have : idxN l s < l.length := by unfold idxN; rw [List.findIdx_lt_length]; exact ⟨x, hx, he⟩
    simp [this]
  | false =>
    rw [List.any_eq_false] at q
    have : idxN l s = l.length := by unfold idxN; rw [List.findIdx_eq_length]; intro x hx; simpa using q x hx
    simp [this]
set_option maxHeartbeats 4000000 in
theorem kindsFinds_any (a : Option Addr) (cap : Nat) (l : List Sig) (s : ByteArray) (W : World) (h : SigRow W a l) (hl : l.length ≤ 9223372036854775807) (hs : ∀ x ∈ l, x.name.size ≤ 9223372036854775807) :
    Calls Try.prog 6 #[.slice a l.length cap, .string s] W fun e W' => e = .returned (.bool true) ∧ Below W.heap.size W W' := by
  have HAL : Hid (∀ X, Calls Try.prog 7 #[] X fun e W' => e = .returned (.bool true) ∧ Below X.heap.size X W') := fun X => alive_any X
  by_cases hbig : 60 < l.length
  · clear h hs
    go_enter Try.func6, Try.ntmps6
    go_wp2_with fail
    refine Calls.mono (HAL.out _) ?_
    rintro e W1 ⟨rfl, hb⟩
    go_wp2
    go_ret
    exact ⟨rfl, hb⟩
  · have HN := newNames_any a cap l W h (by omega) hs
    have HR : Hid (SigRow W a l) := h
    have hl60 : l.length ≤ 60 := by omega
    clear h hs hbig
    go_enter Try.func6, Try.ntmps6
    go_wp2_with fail
    refine Calls.mono HN ?_
    rintro e W1 ⟨hb1, h1⟩
    have HB1 : Hid (Below W.heap.size W W1) := hb1
    clear hb1 HN
    rcases h1 with ⟨hz, rfl⟩ | ⟨hz, p, v, rfl, ho⟩
    · have k1 : ((namesE l).1 == 0) = false := by simpa using hz
      have k2 : ((namesE l).1 != 0) = true := by simpa using hz
      clear hz
      generalize (namesE l).1 = ne at *
      generalize (namesE l).2 = nw at *
      go_wp2_with fail
      refine Calls.mono (HAL.out _) ?_
      rintro e W2 ⟨rfl, hb⟩
      have HB2 : Hid (Below W.heap.size W W2) := HB1.out.trans (hb.mono HB1.out.size)
      clear hb
      go_wp2
      go_ret
      exact ⟨rfl, HB2.out⟩
    · have HZ : Hid ((namesE l).1 = 0) := hz
      have HO : Hid (NmAt W1 p l) := ho.at
      clear hz ho
      go_wp2
      go_loopw [8, 9] (fun is i wr => ∃ k : Nat, k ≤ l.length ∧ i = .int .i64 k ∧ is = .bool (isB l s k) ∧ Below W1.heap.size W1 wr) (fun _ i _ => l.length - (intOf i).toNat)
      case atStart => exact ⟨0, Nat.zero_le _, rfl, rfl, Below.refl _ _⟩
      case round =>
        obtain ⟨k, hk, rfl, rfl, hb⟩ := hrel
        have HB : Hid (Below W1.heap.size W1 wr) := hb
        clear hb
        by_cases hlt : k < l.length
        · have HBW : Hid (Below W.heap.size W wr) := HB1.out.trans (HB.out.mono HB1.out.size)
          obtain ⟨b, off, rfl, h0, h1, h2, h3⟩ := HR.out.below HBW.out k hlt
          have hidx := idxN_own HZ.out k hlt
          have HF := find_yes p l (l.getD k sig0).name wr (HO.out.below HB.out) (by omega) (by rw [hidx]; exact hlt)
          rw [hidx] at HF
          have HS : Hid (∀ X, Below wr.heap.size wr X → Calls Try.prog 15 #[.pointer (some ⟨p, 0, none⟩), .int .i64 k] X fun e W' => e = .returned (.tuple #[.agg #[.string (l.getD k sig0).name, .string (l.getD k sig0).unit, .int .i64 (l.getD k sig0).lo, .int .i64 (l.getD k sig0).hi], .int .i64 0]) ∧ Below X.heap.size X W') :=
            fun X hX => signal_in p l k X ((HO.out.below HB.out).below hX) (by omega) hlt
          have HI : Hid (isB l s (k + 1) = (isB l s k || eqS (l.getD k sig0).name s)) := isB_succ l s k hlt
          have HU : Hid (∀ X, Below wr.heap.size wr X → X.cell? ⟨b, off + k * 4, none⟩ = some (.string (l.getD k sig0).name) ∧ X.cell? ⟨b, off + k * 4 + 1, none⟩ = some (.string (l.getD k sig0).unit) ∧ X.cell? ⟨b, off + k * 4 + 2, none⟩ = some (.int .i64 (l.getD k sig0).lo) ∧ X.cell? ⟨b, off + k * 4 + 3, none⟩ = some (.int .i64 (l.getD k sig0).hi)) :=
            fun X hX => ⟨cell_up hX h0, cell_up hX h1, cell_up hX h2, cell_up hX h3⟩
          clear hidx h1 h2 h3
          generalize l.getD k sig0 = x at *
          obtain ⟨xn, xu, xl, xh⟩ := x
          simp only at h0 HF HS HI HU
          go_wp2_with fail
          refine Calls.mono HF ?_
          rintro e W3 ⟨rfl, hb3⟩
          have HB3 : Hid (Below wr.heap.size wr W3) := hb3
          clear hb3 HF
          go_wp2_with fail
          refine Calls.mono (HS.out _ HB3.out) ?_
          rintro e W4 ⟨rfl, hb4⟩
          have HB4 : Hid (Below wr.heap.size wr W4) := HB3.out.trans (hb4.mono HB3.out.size)
          have HB5 : Hid (Below wr.heap.size wr (W4.alloc (.cells #[.string xn, .string xu, .int .i64 xl, .int .i64 xh] 27))) := HB4.out.alloc HB4.out.size _
          obtain ⟨q0, q1, q2, q3⟩ := HU.out _ HB5.out
          clear hb4 h0
          have HRel : Hid (∀ X : World, Below W1.heap.size W1 (W4.alloc (.cells #[.string xn, .string xu, .int .i64 xl, .int .i64 xh] 27)).drew) := fun X => HB.out.trans (HB5.out.drew.mono HB.out.size)
          generalize isB l s k = bk at *
          cases bk with
          | true =>
            go_wp2
            go_region
            go_wp2
            go_roundw
            case rel => exact ⟨k + 1, by omega, by go_num, by rw [HI.out]; rfl, HRel.out W⟩
            case measure => simp [intOf]; omega
          | false =>
            go_wp2
            go_region
            go_wp2
            go_roundw
            case rel => exact ⟨k + 1, by omega, by go_num, by rw [HI.out]; rfl, HRel.out W⟩
            case measure => simp [intOf]; omega
        · have hkk : k = l.length := by omega
          have HBB : Hid (isB l s k = hasB l s) := by show _ = _; rw [hkk]; exact isB_all l s
          have HBW : Hid (Below W.heap.size W wr) := HB1.out.trans (HB.out.mono HB1.out.size)
          have hn := HO.out.below HB.out
          by_cases hi : idxN l s < l.length
          · have hf := find_yes p l s wr hn (by omega) hi
            have HH : Hid (isB l s k = true) := by show _ = _; rw [HBB.out]; simp [hasB, hi]
            clear hn hi hkk
            generalize idxN l s = ix at *
            generalize isB l s k = bk at *
            have hbk : bk = true := HH.out
            subst hbk
            go_wp2_with fail
            refine Calls.mono hf ?_
            rintro e W3 ⟨rfl, hb3⟩
            have HB3 : Hid (Below W.heap.size W W3) := HBW.out.trans (hb3.mono HBW.out.size)
            clear hb3 hf
            go_wp2_with fail
            refine Calls.mono (HAL.out _) ?_
            rintro e W4 ⟨rfl, hb4⟩
            have HB4 : Hid (Below W.heap.size W W4) := HB3.out.trans (hb4.mono HB3.out.size)
            clear hb4
            go_wp2
            go_ret
            exact ⟨rfl, HB4.out⟩
          · have hf := find_no p l s wr hn (by omega) hi
            have HH : Hid (isB l s k = false) := by show _ = _; rw [HBB.out]; simpa [hasB] using hi
            clear hn hi hkk
            generalize isB l s k = bk at *
            have hbk : bk = false := HH.out
            subst hbk
            go_wp2_with fail
            refine Calls.mono hf ?_
            rintro e W3 ⟨rfl, hb3⟩
            have HB3 : Hid (Below W.heap.size W W3) := HBW.out.trans (hb3.mono HBW.out.size)
            clear hb3 hf
            go_wp2_with fail
            refine Calls.mono (HAL.out _) ?_
            rintro e W4 ⟨rfl, hb4⟩
            have HB4 : Hid (Below W.heap.size W W4) := HB3.out.trans (hb4.mono HB3.out.size)
            clear hb4
            go_wp2
            go_ret
            exact ⟨rfl, HB4.out⟩
theorem kindsFinds_frame (a : Option Addr) (cap : Nat) (l : List Sig) (s : ByteArray) (W : World) (h : SigRow W a l) (hl : l.length ≤ 9223372036854775807) (hq : ∀ y ∈ l, y.name.size ≤ 9223372036854775807 ∧ y.unit.size ≤ 9223372036854775807 ∧ B64 y.lo ∧ B64 y.hi) (hs : s.size ≤ 140737488351232) :
    Calls Try.prog 6 #[.slice a l.length cap, .string s] W fun e W' => e = .returned (.bool true) ∧ Below W.heap.size W W' :=
  kindsFinds_any a cap l s W h hl fun x hx => (hq x hx).1
end Go.Proofs.Ytjnnjjajlafchaa
