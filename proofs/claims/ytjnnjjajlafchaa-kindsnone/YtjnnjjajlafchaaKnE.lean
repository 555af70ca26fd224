/- The contract of kinds' NewNames. Conditions: at most 1000 signals, names of at most 2^63 - 1 bytes. -/
import Derived.Test.YtjnnjjajlafchaaKnD
namespace Go.Proofs.Ytjnnjjajlafchaa
open Go.RowKit
set_option linter.unusedVariables false
set_option maxRecDepth 100000

/-- The first error, and whose, of signals that are added behind others. -/
def newE (acc : List Sig) : List Sig → Int × ByteArray
  | [] => (0, ⟨#[]⟩)
  | x :: r => if addE acc x = 0 then newE (acc ++ [x]) r else (addE acc x, x.name)
theorem newE_take (l : List Sig) (k : Nat) (hk : k < l.length) (h : addE (l.take k) (l.getD k sig0) = 0) (he : newE [] l = newE (l.take k) (l.drop k)) : newE [] l = newE (l.take (k + 1)) (l.drop (k + 1)) := by
  rw [he, List.drop_eq_getElem_cons hk, List.take_succ_eq_append_getElem hk]
  have e : l.getD k sig0 = l[k] := by simp [List.getD_eq_getElem?_getD, hk]
  rw [e] at h
  simp only [newE]
  rw [if_pos h]
theorem newE_bad (l : List Sig) (k : Nat) (hk : k < l.length) (h : addE (l.take k) (l.getD k sig0) ≠ 0) (he : newE [] l = newE (l.take k) (l.drop k)) : newE [] l = (addE (l.take k) (l.getD k sig0), (l.getD k sig0).name) := by
  rw [he, List.drop_eq_getElem_cons hk]
  have e : l.getD k sig0 = l[k] := by simp [List.getD_eq_getElem?_getD, hk]
  rw [e] at h ⊢
  simp only [newE]
  rw [if_neg h]
theorem newE_all (l : List Sig) (k : Nat) (hk : l.length ≤ k) (he : newE [] l = newE (l.take k) (l.drop k)) : newE [] l = (0, ⟨#[]⟩) := by
  rw [he, List.drop_of_length_le hk]; rfl
/-- What NewNames tells besides the names. -/
def namesE (l : List Sig) : Int × ByteArray := if 16 < l.length then (2, ⟨#[]⟩) else newE [] l
/-- What NewNames tells. -/
def NamesTell (W : World) (l : List Sig) (e : Ending) (W' : World) : Prop :=
  Below W.heap.size W W' ∧ (((namesE l).1 ≠ 0 ∧ e = .returned (.tuple #[.pointer none, .int .i64 (namesE l).1, .string (namesE l).2])) ∨
    ((namesE l).1 = 0 ∧ ∃ p v, e = .returned (.tuple #[.pointer (some ⟨p, 0, none⟩), .int .i64 0, .string ⟨#[]⟩]) ∧ NmOwn W' W.heap.size p v l))
set_option maxHeartbeats 2000000 in
theorem newNames_any (a : Option Addr) (cap : Nat) (l : List Sig) (W : World) (h : SigRow W a l) (hl : l.length ≤ 1000) (hs : ∀ x ∈ l, x.name.size ≤ 9223372036854775807) :
    Calls Try.prog 8 #[.slice a l.length cap] W (NamesTell W l) := by
  have HR : Hid (SigRow W a l) := h
  have HS : Hid (∀ x ∈ l, x.name.size ≤ 9223372036854775807) := hs
  clear h hs
  by_cases hbig : 16 < l.length
  · have HE : Hid (namesE l = (2, ⟨#[]⟩)) := by simp [Hid, namesE, hbig]
    go_enter Try.func8, Try.ntmps8
    go_wp2
    refine bodyPost_ret (v := .tuple #[.pointer none, .int .i64 2, .string ⟨#[]⟩]) (by simp [results, Try.results8, go_sem]) rfl ⟨Below.refl _ _, .inl ?_⟩
    rw [HE.out]; exact ⟨by simp, rfl⟩
  · have HE : Hid (namesE l = newE [] l) := by simp only [Hid, namesE]; rw [if_neg hbig]
    have HI : Hid (NmOwn (W.alloc (.cells #[.slice none 0 0] 56)) W.heap.size W.heap.size (.slice none 0 0) []) := ⟨by simp [go_sem], by simp [go_sem], Own.nil _ _ _ _ _, Nat.le_refl _, by simp [Value.ownBlock]⟩
    have HB0 : Hid (Below W.heap.size W (W.alloc (.cells #[.slice none 0 0] 56))) := (Below.refl _ _).alloc (Nat.le_refl _) _
    go_enter Try.func8, Try.ntmps8
    go_wp2
    go_loopw [16] (fun i wr => ∃ k : Nat, k ≤ l.length ∧ i = .int .i64 k ∧ Below W.heap.size W wr ∧ (∃ v, NmOwn wr W.heap.size W.heap.size v (l.take k)) ∧ newE [] l = newE (l.take k) (l.drop k)) (fun i _ => l.length - (intOf i).toNat)
    case atStart => exact ⟨0, Nat.zero_le _, rfl, HB0.out, ⟨_, HI.out⟩, rfl⟩
    case round =>
      obtain ⟨k, hk, rfl, hb, ⟨v, hn⟩, hj⟩ := hrel
      have HB : Hid (Below W.heap.size W wr) := hb
      have HN : Hid (NmOwn wr W.heap.size W.heap.size v (l.take k)) := hn
      have HJ : Hid (newE [] l = newE (l.take k) (l.drop k)) := hj
      clear hb hj hn
      by_cases hlt : k < l.length
      · obtain ⟨b, off, rfl, h0, h1, h2, h3⟩ := HR.out.below HB.out k hlt
        have HX : Hid (∀ x, l.getD k sig0 = x → x.name.size ≤ 9223372036854775807) := by
          rintro x rfl
          exact HS.out _ (by rw [List.getD_eq_getElem?_getD, List.getElem?_eq_getElem hlt]; exact List.getElem_mem hlt)
        have HT : Hid (addE (l.take k) (l.getD k sig0) = 0 → newE [] l = newE (l.take (k + 1)) (l.drop (k + 1))) := fun q => newE_take l k hlt q HJ.out
        have HTB : Hid (addE (l.take k) (l.getD k sig0) ≠ 0 → newE [] l = (addE (l.take k) (l.getD k sig0), (l.getD k sig0).name)) := fun q => newE_bad l k hlt q HJ.out
        have HK : Hid (l.take k ++ [l.getD k sig0] = l.take (k + 1)) := by
          show _ = _
          rw [List.take_succ_eq_append_getElem hlt]; simp [List.getD_eq_getElem?_getD, hlt]
        have hxs := HX.out _ rfl
        have hlen : (l.take k).length ≤ 1000 := by rw [List.length_take]; omega
        clear HX
        generalize l.getD k sig0 = x at *
        have hltw : W.heap.size < wr.heap.size := World.block_lt_of_cell? wr _ HN.out.cell
        by_cases he : addE (l.take k) x = 0
        · have HA : Hid (∀ X, Below wr.heap.size wr X → Calls Try.prog 23 #[.pointer (some ⟨W.heap.size, 0, none⟩), .agg #[.string x.name, .string x.unit, .int .i64 x.lo, .int .i64 x.hi]] X fun e W' => e = .returned (.int .i64 0) ∧ Below W.heap.size X W' ∧ ∃ v', NmOwn W' W.heap.size W.heap.size v' (l.take k ++ [x])) :=
            fun X hX => add_good W.heap.size W.heap.size v (l.take k) x X (HN.out.below hX) (by have := hX.size; omega) hlen hxs he
          have HT2 : Hid (newE [] l = newE (l.take (k + 1)) (l.drop (k + 1))) := HT.out he
          obtain ⟨xn, xu, xl, xh⟩ := x
          simp only at h0 h1 h2 h3 HA
          clear HT HTB he hlen hxs
          go_wp2_with fail
          refine Calls.mono (HA.out _ ((Below.refl _ _).alloc (Nat.le_refl _) _)) ?_
          rintro e W3 ⟨rfl, hb3, v3, hn3⟩
          rw [HK.out] at hn3
          have HB3 : Hid (Below W.heap.size W W3) := (HB.out.alloc HB.out.size _).trans hb3
          have HN3 : Hid (NmOwn W3 W.heap.size W.heap.size v3 (l.take (k + 1))) := hn3
          clear hb3 hn3
          go_wp2
          go_roundw
          case rel => exact ⟨k + 1, by omega, by go_num, HB3.out, ⟨_, HN3.out⟩, HT2.out⟩
          case measure => simp [intOf]; omega
        · have HA : Hid (∀ X, Below wr.heap.size wr X → Calls Try.prog 23 #[.pointer (some ⟨W.heap.size, 0, none⟩), .agg #[.string x.name, .string x.unit, .int .i64 x.lo, .int .i64 x.hi]] X fun e W' => e = .returned (.int .i64 (addE (l.take k) x)) ∧ Below X.heap.size X W') :=
            fun X hX => add_bad W.heap.size W.heap.size v (l.take k) x X (HN.out.below hX) hlen hxs he
          have HT2 : Hid (newE [] l = (addE (l.take k) x, x.name)) := HTB.out he
          have HE0 : Hid (addE (l.take k) x ≠ 0) := he
          have hne1 : (addE (l.take k) x == 0) = false := by simpa using he
          have hne2 : (addE (l.take k) x != 0) = true := by simpa using he
          generalize addE (l.take k) x = ae at *
          obtain ⟨xn, xu, xl, xh⟩ := x
          simp only at h0 h1 h2 h3 HA HT2
          clear HT HTB he hlen hxs
          go_wp2_with fail
          refine Calls.mono (HA.out _ ((Below.refl _ _).alloc (Nat.le_refl _) _)) ?_
          rintro e W3 ⟨rfl, hb3⟩
          have HB3 : Hid (Below W.heap.size W W3) := (HB.out.alloc HB.out.size _).trans (hb3.mono (by have := HB.out.size; simp; omega))
          have c0 : W3.cell? ⟨wr.heap.size, 0, none⟩ = some (.string xn) := by rw [hb3.cell (p := ⟨wr.heap.size, 0, none⟩) (by simp)]; simp [go_sem]
          clear hb3
          go_wp2
          go_region
          go_wp2
          refine bodyPost_ret (v := .tuple #[.pointer none, .int .i64 ae, .string xn]) (by simp [results, Try.results8, go_sem]) rfl ⟨HB3.out.drew, .inl ?_⟩
          rw [HE.out, HT2.out]; exact ⟨HE0.out, rfl⟩
      · have hkk : k = l.length := by omega
        have HZ : Hid (newE [] l = (0, ⟨#[]⟩)) := newE_all l k (by omega) HJ.out
        have HN2 : Hid (NmOwn wr W.heap.size W.heap.size v l) := by have := HN.out; rw [hkk, List.take_length] at this; exact this
        clear hkk
        go_wp2
        refine bodyPost_ret (v := .tuple #[.pointer (some ⟨W.heap.size, 0, none⟩), .int .i64 0, .string ⟨#[]⟩]) (by simp [results, Try.results8, go_sem]) rfl ⟨HB.out, .inr ?_⟩
        rw [HE.out, HZ.out]; exact ⟨rfl, _, _, rfl, HN2.out⟩
end Go.Proofs.Ytjnnjjajlafchaa
