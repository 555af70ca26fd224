/- The contracts of the document's own Find, Names of signals, and of the book's SameSignals. Conditions: at most 1000000 signals. -/
import Derived.Test.YtjnnjjajlafchaaKsA
namespace Go.Proofs.Ytjnnjjajlafchaa
open Go.RowKit
set_option linter.unusedVariables false
set_option maxRecDepth 100000

def fIdx (l : List Sig) (s : ByteArray) : Int := if idxN l s < l.length then (idxN l s : Int) else 0
set_option maxHeartbeats 1000000 in
theorem rFind_any (a : Option Addr) (cap : Nat) (l : List Sig) (s : ByteArray) (W : World) (h : SigRow W a l) (hl : l.length ≤ 9223372036854775807) :
    Calls Try.prog 13 #[.slice a l.length cap, .string s] W fun e W' => e = .returned (.tuple #[.int .i64 (fIdx l s), .bool (hasB l s)]) ∧ W' = W := by
  have HR : Hid (SigRow W a l) := h
  have HH : Hid (hasB l s = decide (idxN l s < l.length)) := rfl
  clear h
  go_enter Try.func13, Try.ntmps13
  go_wp2
  go_loop [6] (fun i => ∃ k : Nat, k ≤ l.length ∧ i = .int .i64 k ∧ ∀ j, j < k → eqS (l.getD j sig0).name s = false) (fun i => l.length - (intOf i).toNat)
  case atStart => exact ⟨0, Nat.zero_le _, rfl, fun j hj => by omega⟩
  case round =>
    obtain ⟨k, hk, rfl, hj⟩ := hrel
    have HJ : Hid (∀ j, j < k → eqS (l.getD j sig0).name s = false) := hj
    clear hj
    by_cases hlt : k < l.length
    · obtain ⟨b, off, rfl, h0, h1, h2, h3⟩ := HR.out k hlt
      clear h1 h2 h3
      have HX : Hid (eqS (l.getD k sig0).name s = true → idxN l s = k) := fun q => idxN_at l s k hlt q HJ.out
      have HXN : Hid (eqS (l.getD k sig0).name s = false → ∀ j, j < k + 1 → eqS (l.getD j sig0).name s = false) := fun q j hj => by
        rcases Nat.lt_succ_iff_lt_or_eq.1 hj with z | z
        · exact HJ.out j z
        · rw [z]; exact q
      generalize (l.getD k sig0).name = xn at *
      cases he : eqS xn s with
      | true =>
        have k1 : (xn.toList == s.toList) = true := he
        have HI : Hid (idxN l s = k) := HX.out he
        have HI2 : Hid (idxN l s < l.length) := by show _ < _; rw [HI.out]; exact hlt
        have HQ : Hid ((Ending.returned (.tuple #[.int .i64 (k : Int), .bool true])) = .returned (.tuple #[.int .i64 (fIdx l s), .bool (hasB l s)])) := by
          show _ = _; unfold fIdx; rw [HH.out, if_pos HI2.out, decide_eq_true HI2.out, HI.out]
        clear he
        go_wp2
        go_ret2
        exact ⟨HQ.out, rfl⟩
      | false =>
        have k1 : (xn.toList == s.toList) = false := he
        have HI : Hid (∀ j, j < k + 1 → eqS (l.getD j sig0).name s = false) := HXN.out he
        clear he
        go_wp2
        go_round
        case rel => exact ⟨k + 1, by omega, by go_num, HI.out⟩
        case measure => simp [intOf]; omega
    · have hkk : k = l.length := by omega
      have HZ : Hid (idxN l s = l.length) := idxN_none l s fun j hj => HJ.out j (by omega)
      have HQ : Hid ((Ending.returned (.tuple #[.int .i64 0, .bool false])) = .returned (.tuple #[.int .i64 (fIdx l s), .bool (hasB l s)])) := by
        show _ = _; unfold fIdx; rw [HH.out, HZ.out, if_neg (by omega)]; simp
      clear hkk
      go_wp2
      go_ret2
      exact ⟨HQ.out, rfl⟩
theorem SigRow.take {w : World} {a : Option Addr} {l : List Sig} (h : SigRow w a l) (k : Nat) : SigRow w a (l.take k) := by
  intro i hi
  rw [List.length_take] at hi
  have := h i (by omega)
  have e : (l.take k).getD i sig0 = l.getD i sig0 := by rw [List.getD_eq_getElem?_getD, List.getD_eq_getElem?_getD, List.getElem?_take_of_lt (by omega)]
  rw [e]; exact this
theorem size_sig (w : World) : (sizeOf (Try.prog.elem 22)).run Try.prog w = .ok 4 w := by kernel_rfl
/-- 'l[:k]'. -/
theorem sigs_hi (a : Option Addr) (n cap k : Nat) (h4 : k ≤ cap) : ∀ W, (Instr.slice 22 (.slice a n cap) none (some (.int .i64 (k : Int))) none).run Try.prog W = .ok (.slice a k cap) W := fun W => by
  rw [run_slice_h W 22 a n cap (by kernel_rfl) .i64 k (by omega) (by omega), size_sig]
  show Result.ok (sliced a 0 k cap 4) W = _
  unfold sliced
  rw [show a.map (·.add (0 * 4)) = a by cases a <;> simp [Addr.add]]
  simp
set_option maxHeartbeats 4000000 in
theorem rNames_any (a : Option Addr) (cap : Nat) (l : List Sig) (W : World) (h : SigRow W a l) (hl : l.length ≤ 1000) (hc : l.length ≤ cap) (hs : ∀ x ∈ l, x.name.size ≤ 9223372036854775807) :
    Calls Try.prog 9 #[.slice a l.length cap] W fun e W' => e = .returned (.tuple #[.int .i64 (namesE l).1, .string (namesE l).2]) ∧ Below W.heap.size W W' := by
  have HR : Hid (SigRow W a l) := h
  have HS : Hid (∀ x ∈ l, x.name.size ≤ 9223372036854775807) := hs
  clear h hs
  by_cases hbig : 16 < l.length
  · have HE : Hid (namesE l = (2, ⟨#[]⟩)) := by simp [Hid, namesE, hbig]
    go_enter Try.func9, Try.ntmps9
    go_wp2
    go_ret2
    rw [HE.out]; exact ⟨rfl, Below.refl _ _⟩
  · have HE : Hid (namesE l = newE [] l) := by simp only [Hid, namesE]; rw [if_neg hbig]
    go_enter Try.func9, Try.ntmps9
    go_wp2
    go_loopw [4] (fun i wr => ∃ k : Nat, k ≤ l.length ∧ i = .int .i64 k ∧ Below W.heap.size W wr ∧ newE [] l = newE (l.take k) (l.drop k)) (fun i _ => l.length - (intOf i).toNat)
    case atStart => exact ⟨0, Nat.zero_le _, rfl, Below.refl _ _, rfl⟩
    case round =>
      obtain ⟨k, hk, rfl, hb, hj⟩ := hrel
      have HB : Hid (Below W.heap.size W wr) := hb
      have HJ : Hid (newE [] l = newE (l.take k) (l.drop k)) := hj
      clear hb hj
      by_cases hlt : k < l.length
      · have hrow := HR.out.below HB.out
        obtain ⟨b, off, rfl, h0, h1, h2, h3⟩ := hrow k hlt
        have hsz := HS.out (l.getD k sig0) (by rw [List.getD_eq_getElem?_getD, List.getElem?_eq_getElem hlt]; exact List.getElem_mem hlt)
        have hsl := sigs_hi (some ⟨b, off, none⟩) l.length cap k (by omega)
        have HF : Hid (∀ X, Below wr.heap.size wr X → Calls Try.prog 13 #[.slice (some ⟨b, off, none⟩) k cap, .string (l.getD k sig0).name] X fun e W' => e = .returned (.tuple #[.int .i64 (fIdx (l.take k) (l.getD k sig0).name), .bool (hasB (l.take k) (l.getD k sig0).name)]) ∧ W' = X) := fun X hX => by
          have := rFind_any (some ⟨b, off, none⟩) cap (l.take k) (l.getD k sig0).name X ((hrow.below hX).take k) (by rw [List.length_take]; omega)
          rw [show (l.take k).length = k by rw [List.length_take]; omega] at this; exact this
        have HN : Hid (∀ X, Calls Try.prog 24 #[.string (l.getD k sig0).name] X fun e w' => e = .returned (.bool (isNameB (l.getD k sig0).name)) ∧ w' = X) := fun X => zIsName_any _ X hsz
        have HT : Hid (addE (l.take k) (l.getD k sig0) = 0 → newE [] l = newE (l.take (k + 1)) (l.drop (k + 1))) := fun q => newE_take l k hlt q HJ.out
        have HTB : Hid (addE (l.take k) (l.getD k sig0) ≠ 0 → newE [] l = (addE (l.take k) (l.getD k sig0), (l.getD k sig0).name)) := fun q => newE_bad l k hlt q HJ.out
        have HD : Hid (addE (l.take k) (l.getD k sig0) = if isNameB (l.getD k sig0).name = false ∨ hasB (l.take k) (l.getD k sig0).name = true then 40 else if (l.getD k sig0).hi < (l.getD k sig0).lo then 42 else 0) := rfl
        clear hsz hrow h1
        generalize addE (l.take k) (l.getD k sig0) = ae at *
        generalize fIdx (l.take k) (l.getD k sig0).name = fi at *
        generalize hasB (l.take k) (l.getD k sig0).name = hb at *
        generalize l.getD k sig0 = x at *
        obtain ⟨xn, xu, xl, xh⟩ := x
        simp only at h0 h2 h3 HF HN HT HTB HD
        have HBD : Hid (Below W.heap.size W wr.drew) := HB.out.drew
        cases b1 : isNameB xn with
        | false =>
          rw [b1] at HN HD
          have HA : Hid (ae = 40) := by show _ = _; rw [HD.out]; simp
          have HZ : Hid (newE [] l = (40, xn)) := by have := HTB.out (by rw [HA.out]; simp); rw [HA.out] at this; exact this
          clear b1
          go_wp2_with fail
          go_region_held3 (fun w' => w'.cell? ⟨b, off + k * 4, none⟩ = some (.string xn)) (first | exact h0 | go_keep) (first
            | (go_at_call 13; refine (HF.out _ (Below.refl _ _).drew).mono ?_; rintro e w' ⟨rfl, hw9⟩; subst w'))
          go_wp2_with (go_at_call 24; refine (HN.out _).mono ?_; rintro e w' ⟨rfl, hw9⟩; subst w')
          go_region
          go_wp2
          go_ret2
          exact ⟨by rw [HE.out, HZ.out]; rfl, HB.out.drew.drew⟩
        | true =>
          rw [b1] at HN HD
          clear b1
          cases hb with
          | true =>
            have HA : Hid (ae = 40) := by show _ = _; rw [HD.out]; simp
            have HZ : Hid (newE [] l = (40, xn)) := by have := HTB.out (by rw [HA.out]; simp); rw [HA.out] at this; exact this
            go_wp2_with fail
            go_region_held3 (fun w' => w'.cell? ⟨b, off + k * 4, none⟩ = some (.string xn)) (first | exact h0 | go_keep) (first
            | (go_at_call 13; refine (HF.out _ (Below.refl _ _).drew).mono ?_; rintro e w' ⟨rfl, hw9⟩; subst w'))
            go_wp2_with (go_at_call 24; refine (HN.out _).mono ?_; rintro e w' ⟨rfl, hw9⟩; subst w')
            go_region
            go_wp2
            go_ret2
            exact ⟨by rw [HE.out, HZ.out]; rfl, HB.out.drew.drew⟩
          | false =>
            by_cases hx : xh < xl
            · have HA : Hid (ae = 42) := by show _ = _; rw [HD.out]; simp [hx]
              have HZ : Hid (newE [] l = (42, xn)) := by have := HTB.out (by rw [HA.out]; simp); rw [HA.out] at this; exact this
              go_wp2_with fail
              go_region_held3 (fun w' => w'.cell? ⟨b, off + k * 4, none⟩ = some (.string xn)) (first | exact h0 | go_keep) (first
            | (go_at_call 13; refine (HF.out _ (Below.refl _ _).drew).mono ?_; rintro e w' ⟨rfl, hw9⟩; subst w'))
              go_wp2_with (go_at_call 24; refine (HN.out _).mono ?_; rintro e w' ⟨rfl, hw9⟩; subst w')
              go_region
              go_wp2
              go_region
              go_wp2
              go_ret2
              exact ⟨by rw [HE.out, HZ.out]; rfl, HB.out.drew.drew.drew⟩
            · have HA : Hid (ae = 0) := by show _ = _; rw [HD.out]; simp [hx]
              have HZ : Hid (newE [] l = newE (l.take (k + 1)) (l.drop (k + 1))) := HT.out HA.out
              go_wp2_with fail
              go_region_held3 (fun w' => w'.cell? ⟨b, off + k * 4, none⟩ = some (.string xn)) (first | exact h0 | go_keep) (first
            | (go_at_call 13; refine (HF.out _ (Below.refl _ _).drew).mono ?_; rintro e w' ⟨rfl, hw9⟩; subst w'))
              go_wp2_with (go_at_call 24; refine (HN.out _).mono ?_; rintro e w' ⟨rfl, hw9⟩; subst w')
              go_region
              go_wp2
              go_roundw
              case rel => exact ⟨k + 1, by omega, by go_num, HB.out.drew.drew, HZ.out⟩
              case measure => simp [intOf]; omega
      · have hkk : k = l.length := by omega
        have HZ : Hid (newE [] l = (0, ⟨#[]⟩)) := newE_all l k (by omega) HJ.out
        clear hkk
        go_wp2
        go_ret2
        exact ⟨by rw [HE.out, HZ.out]; rfl, HB.out⟩
set_option maxHeartbeats 2000000 in
theorem sameSigs_any (a a2 : Option Addr) (cap cap2 : Nat) (l : List Sig) (W : World) (h : SigRow W a l) (h2 : SigRow W a2 l) (hl : l.length ≤ 9223372036854775807) :
    Calls Try.prog 10 #[.slice a l.length cap, .slice a2 l.length cap2] W fun e W' => e = .returned (.bool true) ∧ Below W.heap.size W W' := by
  have HR : Hid (SigRow W a l) := h
  have HR2 : Hid (SigRow W a2 l) := h2
  clear h h2
  go_enter Try.func10, Try.ntmps10
  go_wp2
  go_loopw [5] (fun i wr => ∃ k : Nat, k ≤ l.length ∧ i = .int .i64 k ∧ Below W.heap.size W wr) (fun i _ => l.length - (intOf i).toNat)
  case atStart => exact ⟨0, Nat.zero_le _, rfl, Below.refl _ _⟩
  case round =>
    obtain ⟨k, hk, rfl, hb⟩ := hrel
    have HB : Hid (Below W.heap.size W wr) := hb
    clear hb
    by_cases hlt : k < l.length
    · obtain ⟨b, off, rfl, h0, h1, h2, h3⟩ := HR.out.below HB.out k hlt
      obtain ⟨b2, off2, rfl, g0, g1, g2, g3⟩ := HR2.out.below HB.out k hlt
      generalize l.getD k sig0 = x at *
      obtain ⟨xn, xu, xl, xh⟩ := x
      simp only at h0 h1 h2 h3 g0 g1 g2 g3
      go_wp2
      go_region
      go_wp2
      go_roundw
      case rel => exact ⟨k + 1, by omega, by go_num, HB.out.drew⟩
      case measure => simp [intOf]; omega
    · have hkk : k = l.length := by omega
      clear hkk
      go_wp2
      go_ret
      exact ⟨rfl, HB.out⟩
end Go.Proofs.Ytjnnjjajlafchaa
