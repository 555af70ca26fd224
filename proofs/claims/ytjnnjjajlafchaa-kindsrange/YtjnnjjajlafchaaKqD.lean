/- kinds' New of more than 16 signals; picketlaw7's Light. Conditions: there. -/
import Derived.Test.YtjnnjjajlafchaaNwD
import Derived.Test.YtjnnjjajlafchaaKqA
namespace Go.Proofs.Ytjnnjjajlafchaa
open Go.RowKit
set_option linter.unusedVariables false
set_option maxRecDepth 100000

theorem hid_of {p : Prop} (h : p) : Hid p := h
set_option maxHeartbeats 2000000 in
theorem newNames_long (a : Option Addr) (cap : Nat) (l : List Sig) (W : World) (hbig : 16 < l.length) :
    Calls Try.prog 8 #[.slice a l.length cap] W fun e W' => e = .returned (.tuple #[.pointer none, .int .i64 2, .string ⟨#[]⟩]) ∧ W' = W := by
  go_enter Try.func8, Try.ntmps8
  go_wp2
  exact bodyPost_ret (v := .tuple #[.pointer none, .int .i64 2, .string ⟨#[]⟩]) (by simp [results, Try.results8, go_sem]) rfl ⟨rfl, rfl⟩
set_option maxHeartbeats 2000000 in
theorem new_long (nm : ByteArray) (c s : Int) (a : Option Addr) (cap : Nat) (l : List Sig) (pv : Value) (W : World) (hbig : 16 < l.length) :
    Calls Try.prog 11 #[.agg #[.string nm, .int .i64 c, .int .i64 s, .slice a l.length cap, pv]] W fun e W' => e = .returned (.tuple #[.pointer none, .int .i64 2, .string ⟨#[]⟩]) ∧ Below W.heap.size W W' := by
  have HN : Hid (∀ X, Calls Try.prog 8 #[.slice a l.length cap] X fun e W' => e = .returned (.tuple #[.pointer none, .int .i64 2, .string ⟨#[]⟩]) ∧ W' = X) := fun X => newNames_long a cap l X hbig
  have HB0 : Hid (∀ o, Below W.heap.size W (W.alloc o)) := fun o => (Below.refl _ _).alloc (Nat.le_refl _) _
  clear hbig
  go_enter Try.func11, Try.ntmps11
  go_wp2_with fail
  refine Calls.mono (HN.out _) ?_
  rintro e W1 ⟨rfl, hw⟩
  subst W1
  go_wp2
  exact bodyPost_ret (v := .tuple #[.pointer none, .int .i64 2, .string ⟨#[]⟩]) (by simp [results, Try.results11, go_sem]) rfl ⟨rfl, HB0.out _⟩
def SomeBool (e : Ending) : Prop := ∃ b, e = .returned (.bool b)
set_option maxHeartbeats 4000000 in
/-- Light answers, and nothing turns. -/
theorem light7_any (nm : ByteArray) (c s : Int) (a : Option Addr) (n cap : Nat) (pa : Option Addr) (pc : Nat) (ps : List PrV) (W : World) (hr : RowOf prC 2 W pa ps) (hk : ∀ x ∈ ps, PrKnown W x) (hpl : ps.length ≤ 9223372036854775807) :
    Calls Try.prog 20 #[.agg #[.string nm, .int .i64 c, .int .i64 s, .slice a n cap, .slice pa ps.length pc]] W fun e W' => SomeBool e ∧ Below W.heap.size W W' := by
  have HR : Hid (∀ X, Below W.heap.size W X → RowOf prC 2 X pa ps ∧ ∀ x ∈ ps, PrKnown X x) := fun X hX => ⟨hr.below prC_len hX, fun x hx => (hk x hx).below hX⟩
  have HB0 : Hid (Below W.heap.size W (W.alloc (.cells #[.string nm, .int .i64 c, .int .i64 s, .slice a n cap, .slice pa ps.length pc] 42))) := (Below.refl _ _).alloc (Nat.le_refl _) _
  clear hr hk
  by_cases h1 : 30 < n
  · go_enter Try.func20, Try.ntmps20
    go_wp2
    exact bodyPost_ret (v := .bool false) (by simp [results, Try.results20, go_sem]) rfl ⟨⟨false, rfl⟩, HB0.out⟩
  by_cases h2 : 30 < ps.length
  · go_enter Try.func20, Try.ntmps20
    go_wp2
    exact bodyPost_ret (v := .bool false) (by simp [results, Try.results20, go_sem]) rfl ⟨⟨false, rfl⟩, HB0.out⟩
  go_enter Try.func20, Try.ntmps20
  go_wp2
  go_loop [3, 4] (fun m i => ∃ (k : Nat) (z : Int), k ≤ ps.length ∧ i = .int .i64 k ∧ m = .int .i64 z) (fun _ i => ps.length - (intOf i).toNat)
  case atStart => exact ⟨0, 0, Nat.zero_le _, rfl, rfl⟩
  case round =>
    obtain ⟨k, z, hk, rfl, rfl⟩ := hrel
    by_cases hlt : k < ps.length
    · obtain ⟨hrow, hkn⟩ := HR.out _ HB0.out
      obtain ⟨b, off, rfl, hc⟩ := hrow k hlt
      have h1' := hc 1 (by omega)
      have hx := hkn _ (by rw [List.getD_eq_getElem?_getD, List.getElem?_eq_getElem hlt]; exact List.getElem_mem hlt : ps.getD k default ∈ ps)
      have hm := hx.most
      have HL := light_any _ (ps.getD k default).cap _ _ hx.nodeRow (by simpa [PrV.body] using hm)
      have hbl : (ps.getD k default).body.length = (ps.getD k default).ys.length := by simp [PrV.body]
      rw [hbl] at HL
      clear hrow hkn hc hx hbl
      generalize ps.getD k default = x at *
      obtain ⟨xn, xa, xc, ys⟩ := x
      simp only [prC, List.getElem?_cons_succ, List.getElem?_cons_zero] at h1' HL hm
      generalize ys.length = yl at *
      cases hb : lightB (PrV.body ⟨xn, xa, xc, ys⟩) with
      | true =>
        rw [hb] at HL
        have HL2 := hid_of HL
        clear HL hb
        go_wp2_with fail
        refine Calls.mono HL2.out ?_
        rintro e W1 ⟨rfl, hw⟩
        subst W1
        go_wp2
        go_round
        case rel => exact ⟨k + 1, _, by omega, by go_num, rfl⟩
        case measure => simp [intOf]; omega
      | false =>
        rw [hb] at HL
        have HL2 := hid_of HL
        clear HL hb
        go_wp2_with fail
        refine Calls.mono HL2.out ?_
        rintro e W1 ⟨rfl, hw⟩
        subst W1
        go_wp2
        exact bodyPost_ret (v := .bool false) (by simp [results, Try.results20, go_sem]) rfl ⟨⟨false, rfl⟩, HB0.out⟩
    · go_wp2
      exact bodyPost_ret (v := .bool (decide (z ≤ 1200))) (by simp [results, Try.results20, go_sem]) rfl ⟨⟨_, rfl⟩, HB0.out⟩
end Go.Proofs.Ytjnnjjajlafchaa
