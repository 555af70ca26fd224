/- Signals in memory; the contracts of kinds' all, Len, Find and what they call. Conditions: at most 1000000 signals. -/
import Derived.Test.YtjnnjjajlafchaaKnA
import Derived.Test.YtjnnjjajlafchaaBz4
import Derived.BigRegion
import Derived.BigQuiet
import Derived.Deep.QuietTactic
namespace Go.Proofs.Ytjnnjjajlafchaa
open Go.RowKit
set_option linter.unusedVariables false
set_option maxRecDepth 100000

/-- A signal. -/
structure Sig where
  name : ByteArray
  unit : ByteArray
  lo : Int
  hi : Int
def sig0 : Sig := ⟨⟨#[]⟩, ⟨#[]⟩, 0, 0⟩
def eqS (a b : ByteArray) : Bool := a.toList == b.toList
theorem eqS_iff (a b : ByteArray) : eqS a b = true ↔ a = b := by
  unfold eqS
  rw [bytes_toList, bytes_toList]
  simp only [beq_iff_eq]
  exact ⟨fun h => ByteArray.ext (Array.ext' h), fun h => by rw [h]⟩
theorem eqS_refl (a : ByteArray) : eqS a a = true := (eqS_iff a a).2 rfl
/-- What the walk is told of a slice of signals. -/
def SigRow (w : World) (a : Option Addr) (l : List Sig) : Prop := ∀ i, i < l.length → ∃ b off, a = some ⟨b, off, none⟩ ∧ w.cell? ⟨b, off + i * 4, none⟩ = some (.string (l.getD i sig0).name) ∧ w.cell? ⟨b, off + i * 4 + 1, none⟩ = some (.string (l.getD i sig0).unit) ∧ w.cell? ⟨b, off + i * 4 + 2, none⟩ = some (.int .i64 (l.getD i sig0).lo) ∧ w.cell? ⟨b, off + i * 4 + 3, none⟩ = some (.int .i64 (l.getD i sig0).hi)
theorem SigRow.below {w w' : World} {a : Option Addr} {l : List Sig} (h : SigRow w a l) (k : Below w.heap.size w w') : SigRow w' a l := by
  intro i hi
  obtain ⟨b, off, e, h0, h1, h2, h3⟩ := h i hi
  have up : ∀ {o : Nat} {v : Value}, w.cell? ⟨b, o, none⟩ = some v → w'.cell? ⟨b, o, none⟩ = some v := fun {o v} hv => by
    rw [k.cell (p := ⟨b, o, none⟩) (World.block_lt_of_cell? w ⟨b, o, none⟩ hv)]; exact hv
  exact ⟨b, off, e, up h0, up h1, up h2, up h3⟩
/-- The first signal of a name: its number, or how many there are. -/
def idxN (l : List Sig) (s : ByteArray) : Nat := l.findIdx fun x => eqS x.name s
def idxI (l : List Sig) (s : ByteArray) : Int := if idxN l s < l.length then (idxN l s : Int) else -1
theorem idxN_le (l : List Sig) (s : ByteArray) : idxN l s ≤ l.length := List.findIdx_le_length
theorem idxN_at (l : List Sig) (s : ByteArray) (k : Nat) (hk : k < l.length) (h : eqS (l.getD k sig0).name s = true) (hb : ∀ j, j < k → eqS (l.getD j sig0).name s = false) : idxN l s = k := by
  unfold idxN
  rw [List.findIdx_eq hk]
  refine ⟨by simpa [List.getD_eq_getElem?_getD, hk] using h, fun j hj => ?_⟩
  have := hb j hj
  have hj' : j < l.length := by omega
  simpa [List.getD_eq_getElem?_getD, hj'] using this
theorem idxN_none (l : List Sig) (s : ByteArray) (hb : ∀ j, j < l.length → eqS (l.getD j sig0).name s = false) : idxN l s = l.length := by
  unfold idxN
  rw [List.findIdx_eq_length]
  intro x hx
  obtain ⟨j, hj, rfl⟩ := List.getElem_of_mem hx
  have := hb j hj
  simpa [List.getD_eq_getElem?_getD, hj] using this

set_option maxHeartbeats 400000 in
theorem find1_any (x : Sig) (nb : Nat) (s : ByteArray) (w : World) (hn : w.cell? ⟨nb, 0, none⟩ = some (.string s)) :
    Calls Try.prog 28 #[.agg #[.string x.name, .string x.unit, .int .i64 x.lo, .int .i64 x.hi], .pointer (some ⟨nb, 0, none⟩)] w fun e w' => e = .returned (.bool (eqS x.name s)) ∧ Below w.heap.size w w' := by
  have hlt : nb < w.heap.size := World.block_lt_of_cell? w _ hn
  have hne : nb ≠ w.heap.size := by omega
  obtain ⟨n, u, lo, hi⟩ := x
  go_enter Try.func28, Try.ntmps28
  go_wp2
  go_ret
  exact ⟨ret_bool rfl, (Below.refl _ _).alloc (Nat.le_refl _) _⟩
set_option maxHeartbeats 1000000 in
theorem indexSig_any (a : Option Addr) (cap : Nat) (l : List Sig) (nb : Nat) (s : ByteArray) (W : World) (h : SigRow W a l) (hn : W.cell? ⟨nb, 0, none⟩ = some (.string s)) (hl : l.length ≤ 9223372036854775807) :
    Calls Try.prog 26 #[.slice a l.length cap, .func (.func 28) #[] #[.pointer (some ⟨nb, 0, none⟩)]] W fun e W' => e = .returned (.int .i64 (idxI l s)) ∧ Below W.heap.size W W' := by
  have HR : Hid (SigRow W a l) := h
  have HN : Hid (W.cell? ⟨nb, 0, none⟩ = some (.string s)) := hn
  clear h hn
  go_enter Try.func26, Try.ntmps26
  go_wp2
  go_loopw [8] (fun i wr => ∃ k : Nat, k ≤ l.length ∧ i = .int .i64 k ∧ Below W.heap.size W wr ∧ ∀ j, j < k → eqS (l.getD j sig0).name s = false) (fun i _ => l.length - (intOf i).toNat)
  case atStart => exact ⟨0, Nat.zero_le _, rfl, Below.refl _ _, fun j hj => by omega⟩
  case round =>
    obtain ⟨k, hk, rfl, hb, hj⟩ := hrel
    have HB : Hid (Below W.heap.size W wr) := hb
    have HJ : Hid (∀ j, j < k → eqS (l.getD j sig0).name s = false) := hj
    clear hb hj
    by_cases hlt : k < l.length
    · obtain ⟨b, off, rfl, h0, h1, h2, h3⟩ := HR.out.below HB.out k hlt
      have hc := find1_any (l.getD k sig0) nb s wr (by rw [HB.out.cell (p := ⟨nb, 0, none⟩) (World.block_lt_of_cell? W _ HN.out)]; exact HN.out)
      generalize hx : l.getD k sig0 = x at *
      obtain ⟨xn, xu, xl, xh⟩ := x
      simp only at h0 h1 h2 h3 hc
      have HX : Hid (l.getD k sig0 = ⟨xn, xu, xl, xh⟩) := hx
      clear hx
      cases he : eqS xn s with
      | true =>
        rw [he] at hc
        have HE : Hid (eqS xn s = true) := he
        clear he
        go_wp2_with (go_at_call 28; refine hc.mono ?_; rintro e w' ⟨rfl, hw⟩)
        go_ret
        refine ⟨ret_int ?_, HB.out.trans (hw.mono HB.out.size)⟩
        have := idxN_at l s k hlt (by rw [HX.out]; exact HE.out) HJ.out
        unfold idxI; rw [this, if_pos hlt]
      | false =>
        rw [he] at hc
        have HE : Hid (eqS xn s = false) := he
        clear he
        go_wp2_with (go_at_call 28; refine hc.mono ?_; rintro e w' ⟨rfl, hw⟩)
        have HB2 : Hid (Below W.heap.size W w') := HB.out.trans (hw.mono HB.out.size)
        clear hw
        go_roundw
        case rel => exact ⟨k + 1, by omega, by go_num, HB2.out, fun j hj => by
          rcases Nat.lt_succ_iff_lt_or_eq.1 hj with q | q
          · exact HJ.out j q
          · rw [q, HX.out]; exact HE.out⟩
        case measure => simp [intOf]; omega
    · have hkk : k = l.length := by omega
      have HE : Hid (idxI l s = -1) := by
        show _ = _
        unfold idxI; rw [idxN_none l s (fun j hj => HJ.out j (by omega)), if_neg (by omega)]
      clear hkk
      go_wp2
      go_ret
      exact ⟨ret_int HE.out.symm, HB.out⟩
end Go.Proofs.Ytjnnjjajlafchaa
