/- Properties in memory; the contract of kinds' hasProp. Conditions: what came in. -/
import Derived.Test.YtjnnjjajlafchaaCpy
import Derived.Test.YtjnnjjajlafchaaKqA
namespace Go.Proofs.Ytjnnjjajlafchaa
open Go.RowKit
set_option linter.unusedVariables false
set_option maxRecDepth 100000

/-- A property: its name, where its nodes lie. -/
structure PrV where
  name : ByteArray
  a : Option Addr
  cap : Nat
  ys : List NdV
instance : Inhabited PrV := ⟨⟨⟨#[]⟩, none, 0, []⟩⟩
def prC (x : PrV) : List Value := [.string x.name, .slice x.a x.ys.length x.cap]
def PrV.body (x : PrV) : List Nd := x.ys.map (·.x)
theorem prC_len (x : PrV) : (prC x).length = 2 := rfl
theorem prC_one (x : PrV) : ∀ u ∈ prC x, u.oneCell' = true := by
  intro u hu
  simp only [prC, List.mem_cons, List.not_mem_nil, or_false] at hu
  rcases hu with rfl | rfl <;> rfl
theorem infoProp : (Try.prog.info? 78).map (fun i => (i.zero, i.size, i.bytes)) = some (some (.agg #[.string ⟨#[]⟩, .slice none 0 0]), 2, 40) := by kernel_rfl
def pIdx (l : List PrV) (s : ByteArray) : Nat := l.findIdx fun x => eqS x.name s
def hasP (l : List PrV) (s : ByteArray) : Bool := l.any fun x => eqS x.name s
def pIdxI (l : List PrV) (s : ByteArray) : Int := if hasP l s then (pIdx l s : Int) else -1
theorem pIdx_at (l : List PrV) (s : ByteArray) (k : Nat) (hk : k < l.length) (h : eqS (l.getD k default).name s = true) (hb : ∀ j, j < k → eqS (l.getD j default).name s = false) : pIdx l s = k ∧ hasP l s = true := by
  constructor
  · unfold pIdx
    rw [List.findIdx_eq hk]
    refine ⟨by simpa [List.getD_eq_getElem?_getD, hk] using h, fun j hj => ?_⟩
    have := hb j hj
    have hj' : j < l.length := by omega
    simpa [List.getD_eq_getElem?_getD, hj'] using this
  · unfold hasP
    rw [List.any_eq_true]
    exact ⟨l[k], List.getElem_mem hk, by simpa [List.getD_eq_getElem?_getD, hk] using h⟩
theorem hasP_none (l : List PrV) (s : ByteArray) (hb : ∀ j, j < l.length → eqS (l.getD j default).name s = false) : hasP l s = false := by
  unfold hasP
  rw [List.any_eq_false]
  intro x hx
  obtain ⟨j, hj, rfl⟩ := List.getElem_of_mem hx
  have := hb j hj
  simpa [List.getD_eq_getElem?_getD, hj] using this
set_option maxHeartbeats 400000 in
theorem hasProp1_any (n : ByteArray) (v : Value) (a : Option Addr) (m c : Nat) (hv : v = .slice a m c) (nb : Nat) (s : ByteArray) (w : World) (hn : w.cell? ⟨nb, 0, none⟩ = some (.string s)) :
    Calls Try.prog 62 #[.agg #[.string n, .slice a m c], .pointer (some ⟨nb, 0, none⟩)] w fun e w' => e = .returned (.bool (eqS n s)) ∧ Below w.heap.size w w' := by
  have hlt : nb < w.heap.size := World.block_lt_of_cell? w _ hn
  have hne : nb ≠ w.heap.size := by omega
  clear hv
  go_enter Try.func62, Try.ntmps62
  go_wp2
  go_ret
  exact ⟨ret_bool rfl, (Below.refl _ _).alloc (Nat.le_refl _) _⟩
set_option maxHeartbeats 1000000 in
theorem indexProp_any (a : Option Addr) (cap : Nat) (l : List PrV) (nb : Nat) (s : ByteArray) (W : World) (h : RowOf prC 2 W a l) (hn : W.cell? ⟨nb, 0, none⟩ = some (.string s)) (hl : l.length ≤ 9223372036854775807) :
    Calls Try.prog 75 #[.slice a l.length cap, .func (.func 62) #[] #[.pointer (some ⟨nb, 0, none⟩)]] W fun e W' => e = .returned (.int .i64 (pIdxI l s)) ∧ Below W.heap.size W W' := by
  have HR : Hid (RowOf prC 2 W a l) := h
  have HN : Hid (W.cell? ⟨nb, 0, none⟩ = some (.string s)) := hn
  clear h hn
  go_enter Try.func75, Try.ntmps75
  go_wp2
  go_loopw [8] (fun i wr => ∃ k : Nat, k ≤ l.length ∧ i = .int .i64 k ∧ Below W.heap.size W wr ∧ ∀ j, j < k → eqS (l.getD j default).name s = false) (fun i _ => l.length - (intOf i).toNat)
  case atStart => exact ⟨0, Nat.zero_le _, rfl, Below.refl _ _, fun j hj => by omega⟩
  case round =>
    obtain ⟨k, hk, rfl, hb, hj⟩ := hrel
    have HB : Hid (Below W.heap.size W wr) := hb
    have HJ : Hid (∀ j, j < k → eqS (l.getD j default).name s = false) := hj
    clear hb hj
    by_cases hlt : k < l.length
    · obtain ⟨b, off, rfl, hc⟩ := (HR.out.below prC_len HB.out) k hlt
      have h0 := hc 0 (by omega)
      have h1 := hc 1 (by omega)
      have hcl := hasProp1_any (l.getD k default).name _ (l.getD k default).a (l.getD k default).ys.length (l.getD k default).cap rfl nb s wr (cell_up HB.out HN.out)
      have HX : Hid (eqS (l.getD k default).name s = true → pIdx l s = k ∧ hasP l s = true) := fun q => pIdx_at l s k hlt q HJ.out
      have HXN : Hid (eqS (l.getD k default).name s = false → ∀ j, j < k + 1 → eqS (l.getD j default).name s = false) := fun q j hj => by
        rcases Nat.lt_succ_iff_lt_or_eq.1 hj with z | z
        · exact HJ.out j z
        · rw [z]; exact q
      simp only [prC, Nat.add_zero] at h0 h1
      clear hc
      generalize l.getD k default = x at *
      obtain ⟨xn, xa, xc, ys⟩ := x
      simp at h0 h1
      simp only at hcl HX HXN
      cases he : eqS xn s with
      | true =>
        rw [he] at hcl
        have HE : Hid (pIdxI l s = k) := by have := HX.out he; show _ = _; unfold pIdxI; rw [this.1, this.2]; rfl
        clear he
        go_wp2_with (go_at_call 62; refine hcl.mono ?_; rintro e w' ⟨rfl, hw⟩)
        go_ret
        exact ⟨ret_int HE.out.symm, HB.out.trans (hw.mono HB.out.size)⟩
      | false =>
        rw [he] at hcl
        have HE : Hid (∀ j, j < k + 1 → eqS (l.getD j default).name s = false) := HXN.out he
        clear he
        go_wp2_with (go_at_call 62; refine hcl.mono ?_; rintro e w' ⟨rfl, hw⟩)
        have HB2 : Hid (Below W.heap.size W w') := HB.out.trans (hw.mono HB.out.size)
        clear hw
        go_roundw
        case rel => exact ⟨k + 1, by omega, by go_num, HB2.out, HE.out⟩
        case measure => simp [intOf]; omega
    · have hkk : k = l.length := by omega
      have HE : Hid (pIdxI l s = -1) := by
        show _ = _
        unfold pIdxI; rw [hasP_none l s (fun j hj => HJ.out j (by omega))]; rfl
      clear hkk
      go_wp2
      go_ret
      exact ⟨ret_int HE.out.symm, HB.out⟩
set_option maxHeartbeats 1000000 in
theorem contains_any (a : Option Addr) (cap : Nat) (l : List PrV) (nb : Nat) (s : ByteArray) (W : World) (h : RowOf prC 2 W a l) (hn : W.cell? ⟨nb, 0, none⟩ = some (.string s)) (hl : l.length ≤ 9223372036854775807) :
    Calls Try.prog 61 #[.slice a l.length cap, .func (.func 62) #[] #[.pointer (some ⟨nb, 0, none⟩)]] W fun e W' => e = .returned (.bool (hasP l s)) ∧ Below W.heap.size W W' := by
  have HI := indexProp_any a cap l nb s W h hn hl
  have HX : Hid (pIdxI l s = if hasP l s then (pIdx l s : Int) else -1) := rfl
  cases hb : hasP l s with
  | true =>
    rw [hb] at HX
    have h0 : 0 ≤ pIdxI l s := by rw [HX.out]; simp
    clear hb
    generalize pIdxI l s = i at *
    go_enter Try.func61, Try.ntmps61
    go_wp2_with (go_at_call 75; refine HI.mono ?_; rintro e w' ⟨rfl, hw⟩)
    go_ret
    exact ⟨ret_bool (by simp), hw⟩
  | false =>
    rw [hb] at HX
    have h0 : pIdxI l s = -1 := by rw [HX.out]; rfl
    rw [h0] at HI
    clear hb HX h0
    go_enter Try.func61, Try.ntmps61
    go_wp2_with (go_at_call 75; refine HI.mono ?_; rintro e w' ⟨rfl, hw⟩)
    go_ret
    exact ⟨ret_bool rfl, hw⟩
set_option maxHeartbeats 1000000 in
theorem hasProp_any (q : Nat) (a : Option Addr) (cap : Nat) (l : List PrV) (s : ByteArray) (W : World) (hq : W.cell? ⟨q, 5, none⟩ = some (.slice a l.length cap)) (h : RowOf prC 2 W a l) (hl : l.length ≤ 9223372036854775807) :
    Calls Try.prog 44 #[.pointer (some ⟨q, 0, none⟩), .string s] W fun e W' => e = .returned (.bool (hasP l s)) ∧ Below W.heap.size W W' := by
  have hlt : q < W.heap.size := World.block_lt_of_cell? W _ hq
  have hb0 : Below W.heap.size W (W.alloc (.cells #[.string s] 9)) := (Below.refl _ _).alloc (Nat.le_refl _) _
  have HB0 : Hid (Below W.heap.size W (W.alloc (.cells #[.string s] 9))) := hb0
  have HI := contains_any a cap l W.heap.size s _ (h.below prC_len hb0) (by simp [go_sem]) hl
  have hq2 : (W.alloc (.cells #[.string s] 9)).cell? ⟨q, 5, none⟩ = some (.slice a l.length cap) := cell_up hb0 hq
  clear h hb0 hq
  generalize hasP l s = hp at *
  go_enter Try.func44, Try.ntmps44
  go_wp2_with fail
  refine Calls.mono HI ?_
  rintro e w' ⟨rfl, hw⟩
  go_wp2
  go_ret
  exact ⟨rfl, HB0.out.trans (hw.mono HB0.out.size)⟩
end Go.Proofs.Ytjnnjjajlafchaa
